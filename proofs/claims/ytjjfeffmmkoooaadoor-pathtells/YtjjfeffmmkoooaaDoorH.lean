/- Paths in boxes of their own: what the law PathTells keeps from call to call. -/
import Derived.Test.YtjjfeffmmkoooaaDoorE
import Derived.Test.YtjjfeffmmkoooaaDoorK
namespace Go.Proofs.YtjjfeffmmkoooaaDoor
open Go.RowKit Go.Lib Go.Sort
set_option linter.unusedVariables false
set_option linter.unusedSimpArgs false

/-- The path that came in, in its box. -/
structure One (w W : World) (P : Nat) (i o : Int) (k : Bool) : Prop where
  p : Box W P i o k
  bel : Below w.heap.size w W
  leP : w.heap.size ≤ P
theorem One.below {w W W' : World} {P : Nat} {i o : Int} {k : Bool} (h : One w W P i o k) (hb : Below W.heap.size W W') : One w W' P i o k :=
  ⟨h.p.below hb, h.bel.trans (hb.mono h.bel.size), h.leP⟩
theorem one_start (w : World) (i o : Int) (k : Bool) : One w (put w i o k) w.heap.size i o k := ⟨Box.new w i o k, below_put w i o k, Nat.le_refl _⟩
/-- The law's three paths: the one that came in, the one that is wanted, the one that was answered. -/
structure Three (w W : World) (P Q X : Nat) (i o : Int) (k : Bool) (a b : Int) (c : Bool) (d e : Int) (f : Bool) : Prop where
  p : Box W P i o k
  q : Box W Q a b c
  x : Box W X d e f
  bel : Below w.heap.size w W
  leQ : w.heap.size ≤ Q
  leX : w.heap.size ≤ X
  qp : Q ≠ P
  xp : X ≠ P
  xq : X ≠ Q
theorem Three.below {w W W' : World} {P Q X : Nat} {i o : Int} {k : Bool} {a b : Int} {c : Bool} {d e : Int} {f : Bool} (h : Three w W P Q X i o k a b c d e f) (hb : Below W.heap.size W W') : Three w W' P Q X i o k a b c d e f :=
  ⟨h.p.below hb, h.q.below hb, h.x.below hb, h.bel.trans (hb.mono h.bel.size), h.leQ, h.leX, h.qp, h.xp, h.xq⟩
theorem Three.setQ {w W : World} {P Q X : Nat} {i o : Int} {k : Bool} {a b : Int} {c : Bool} {d e : Int} {f : Bool} (h : Three w W P Q X i o k a b c d e f) (a' b' : Int) (c' : Bool) : Three w (set3 W Q a' b' c') P Q X i o k a' b' c' d e f :=
  ⟨h.p.set_far h.qp _ _ _, h.q.set a' b' c', h.x.set_far (fun e => h.xq e.symm) _ _ _, below_set3 h.bel h.leQ _ _ _, h.leQ, h.leX, h.qp, h.xp, h.xq⟩
theorem Three.setX {w W : World} {P Q X : Nat} {i o : Int} {k : Bool} {a b : Int} {c : Bool} {d e : Int} {f : Bool} (h : Three w W P Q X i o k a b c d e f) (d' e' : Int) (f' : Bool) : Three w (set3 W X d' e' f') P Q X i o k a b c d' e' f' :=
  ⟨h.p.set_far h.xp _ _ _, h.q.set_far h.xq _ _ _, h.x.set d' e' f', below_set3 h.bel h.leX _ _ _, h.leQ, h.leX, h.qp, h.xp, h.xq⟩
theorem Box.set2 {w : World} {b : Nat} {i o : Int} {k : Bool} (h : Box w b i o k) (k' : Bool) : Box (w.setCell ⟨b, 2, none⟩ (.bool k')) b i o k' :=
  ⟨by simpa using h.lt, by rw [World.cell?_setCell_other _ _ _ _ (by simp)]; exact h.c0, by rw [World.cell?_setCell_other _ _ _ _ (by simp)]; exact h.c1, World.cell?_setCell_same _ _ _ h.c2, by simpa using h.f0, by simpa using h.f1, by simpa using h.f2⟩
theorem Box.set2_far {w : World} {b q : Nat} {i o : Int} {k : Bool} (h : Box w b i o k) (hq : q ≠ b) (y : Value) : Box (w.setCell ⟨q, 2, none⟩ y) b i o k := by
  have far : ∀ (a : Addr), a.block = b → (w.setCell ⟨q, 2, none⟩ y).cell? a = w.cell? a := fun a ha => World.cell?_setCell_other _ _ _ _ (by intro e; apply hq; rw [← ha, ← e])
  exact ⟨by simpa using h.lt, by rw [far _ rfl]; exact h.c0, by rw [far _ rfl]; exact h.c1, by rw [far _ rfl]; exact h.c2, by simpa using h.f0, by simpa using h.f1, by simpa using h.f2⟩
theorem Three.setK {w W : World} {P Q X : Nat} {i o : Int} {k : Bool} {a b : Int} {c : Bool} {d e : Int} {f : Bool} (h : Three w W P Q X i o k a b c d e f) (c' : Bool) : Three w (W.setCell ⟨Q, 2, none⟩ (.bool c')) P Q X i o k a b c' d e f :=
  ⟨h.p.set2_far h.qp _, h.q.set2 c', h.x.set2_far (fun e => h.xq e.symm) _, h.bel.setCell h.leQ _, h.leQ, h.leX, h.qp, h.xp, h.xq⟩
theorem three_start {w W w4 : World} {P : Nat} {i o : Int} {k : Bool} {a b : Int} {c : Bool} (h : One w W P i o k) (hb : Below (put W a b c).heap.size (put W a b c) w4) (d e : Int) (f : Bool) :
    Three w (put w4 d e f) P W.heap.size w4.heap.size i o k a b c d e f := by
  have h1 := h.below (below_put W a b c)
  have h2 := h1.below hb
  have q1 := (Box.new W a b c).below hb
  have h3 := h2.below (below_put w4 d e f)
  exact ⟨h3.p, q1.below (below_put _ _ _ _), Box.new _ _ _ _, h3.bel, h.bel.size, h2.bel.size, by have := h.p.lt; omega, by have := h2.p.lt; omega, by have := q1.lt; omega⟩
theorem same_errV (f : Int) (w : World) (hH : Handle w) : Calls Tryd.prog 7 #[errV f, .int .i64 f] w fun e w' => e = .returned (.bool true) ∧ Below w.heap.size w w' := by
  by_cases h : f = 0
  · subst h; exact same_nil 0 w
  · rw [errV_f h]
    have := same_err f f w hH
    rw [show (f == f) = true by simp] at this
    exact this
theorem sendF_at {i o : Int} {k : Bool} (h : flt i o k = 0) (j : Int) (h0 : 0 ≤ j) (h1 : j ≤ 200) : (sendF i o k j = 0 ∧ j ≤ bnd i k - o) ∨ (sendF i o k j ≠ 0 ∧ bnd i k - o < j) := by
  obtain ⟨hi, ho, hb⟩ := flt_zero h
  have o1 := byB_yes ho
  have hm := bnd_le i k
  have hp : pkB j = true := decide_eq_true ⟨h0, h1⟩
  by_cases hj : bnd i k < o + j
  · refine .inr ⟨?_, by omega⟩
    simp [sendF, h, hp, hj]
    split <;> omega
  · have hs : byB (o + j) = true := decide_eq_true (by omega)
    exact .inl ⟨by simp [sendF, h, hp, hj, hs], by omega⟩
/-- The greatest of 0 .. j - 1 that may be sent, where r may be. -/
def upTo (x : Int) (j : Nat) (r : Int) : Prop := (j = 0 ∧ x = 0) ∨ (1 ≤ j ∧ (((j : Int) - 1 ≤ r ∧ x = (j : Int) - 1) ∨ (r < (j : Int) - 1 ∧ x = r)))
theorem upTo_end {x : Int} {i o : Int} {k : Bool} (h : upTo x 201 (bnd i k - o)) : x = rm i o k := by
  unfold upTo at h
  unfold rm
  split <;> omega
theorem upTo_yes {x r : Int} {j : Nat} (h : upTo x j r) (hj : (j : Int) ≤ r) : upTo (j : Int) (j + 1) r := by unfold upTo at *; omega
theorem upTo_no {x r : Int} {j : Nat} (h : upTo x j r) (h0 : 0 ≤ r) (hj : r < (j : Int)) : upTo x (j + 1) r := by unfold upTo at *; omega
end Go.Proofs.YtjjfeffmmkoooaaDoor
