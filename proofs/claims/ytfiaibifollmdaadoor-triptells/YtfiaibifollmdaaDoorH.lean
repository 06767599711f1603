/- Trips in boxes of their own: what the law TripTells keeps from call to call. -/
import Derived.Test.YtfiaibifollmdaaDoorE
import Derived.Test.YtfiaibifollmdaaDoorK
namespace Go.Proofs.YtfiaibifollmdaaDoor
open Go.RowKit Go.Lib Go.Sort
set_option linter.unusedVariables false
set_option linter.unusedSimpArgs false

/-- The block b holds a trip, and may be written. -/
structure Box (w : World) (b : Nat) (s v l : Int) : Prop where
  lt : b < w.heap.size
  c0 : w.cell? ⟨b, 0, none⟩ = some (.int .i64 s)
  c1 : w.cell? ⟨b, 1, none⟩ = some (.int .i64 v)
  c2 : w.cell? ⟨b, 2, none⟩ = some (.int .i64 l)
  f0 : w.frozen? ⟨b, 0, none⟩ = false
  f1 : w.frozen? ⟨b, 1, none⟩ = false
  f2 : w.frozen? ⟨b, 2, none⟩ = false
theorem frozen_below {w w' : World} {a : Addr} (hb : Below w.heap.size w w') (h : a.block < w.heap.size) : w'.frozen? a = w.frozen? a := by
  unfold World.frozen?; rw [hb.block _ h]
theorem Box.below {w w' : World} {b : Nat} {s v l : Int} (h : Box w b s v l) (hb : Below w.heap.size w w') : Box w' b s v l :=
  ⟨Nat.lt_of_lt_of_le h.lt hb.size, (hb.cell (p := ⟨b, 0, none⟩) h.lt).trans h.c0, (hb.cell (p := ⟨b, 1, none⟩) h.lt).trans h.c1, (hb.cell (p := ⟨b, 2, none⟩) h.lt).trans h.c2,
    (frozen_below hb h.lt).trans h.f0, (frozen_below hb h.lt).trans h.f1, (frozen_below hb h.lt).trans h.f2⟩
theorem Box.new (w : World) (s v l : Int) : Box (w.alloc (.cells #[.int .i64 s, .int .i64 v, .int .i64 l] 23)) w.heap.size s v l :=
  ⟨by simp, by simp, by simp, by simp, by simp, by simp, by simp⟩
/-- A trip is written into its box. -/
theorem Box.set {w : World} {b : Nat} {s v l : Int} (h : Box w b s v l) (s' v' l' : Int) :
    Box (((w.setCell ⟨b, 0, none⟩ (.int .i64 s')).setCell ⟨b, 1, none⟩ (.int .i64 v')).setCell ⟨b, 2, none⟩ (.int .i64 l')) b s' v' l' := by
  have a0 : (w.setCell ⟨b, 0, none⟩ (.int .i64 s')).cell? ⟨b, 0, none⟩ = some (.int .i64 s') := World.cell?_setCell_same _ _ _ h.c0
  have a1 : (w.setCell ⟨b, 0, none⟩ (.int .i64 s')).cell? ⟨b, 1, none⟩ = some (.int .i64 v) := by rw [World.cell?_setCell_other _ _ _ _ (by simp)]; exact h.c1
  have a2 : (w.setCell ⟨b, 0, none⟩ (.int .i64 s')).cell? ⟨b, 2, none⟩ = some (.int .i64 l) := by rw [World.cell?_setCell_other _ _ _ _ (by simp)]; exact h.c2
  have b2 : ((w.setCell ⟨b, 0, none⟩ (.int .i64 s')).setCell ⟨b, 1, none⟩ (.int .i64 v')).cell? ⟨b, 2, none⟩ = some (.int .i64 l) := by rw [World.cell?_setCell_other _ _ _ _ (by simp)]; exact a2
  refine ⟨by simpa using h.lt, ?_, ?_, World.cell?_setCell_same _ _ _ b2, ?_, ?_, ?_⟩
  · rw [World.cell?_setCell_other _ _ _ _ (by simp), World.cell?_setCell_other _ _ _ _ (by simp)]; exact a0
  · rw [World.cell?_setCell_other _ _ _ _ (by simp)]; exact World.cell?_setCell_same _ _ _ a1
  · simpa using h.f0
  · simpa using h.f1
  · simpa using h.f2
theorem Below.set3 {B : Nat} {w w' : World} {b : Nat} (h : Below B w w') (hb : B ≤ b) (x y z : Value) : Below B w (((w'.setCell ⟨b, 0, none⟩ x).setCell ⟨b, 1, none⟩ y).setCell ⟨b, 2, none⟩ z) :=
  ((h.setCell hb _).setCell hb _).setCell hb _

theorem Box.set_far {w : World} {b q : Nat} {s v l : Int} (h : Box w b s v l) (hq : q ≠ b) (x y z : Value) :
    Box (((w.setCell ⟨q, 0, none⟩ x).setCell ⟨q, 1, none⟩ y).setCell ⟨q, 2, none⟩ z) b s v l := by
  have far : ∀ (u : World) (o : Nat) (y : Value) (a : Addr), a.block = b → (u.setCell ⟨q, o, none⟩ y).cell? a = u.cell? a := fun u o y a ha => World.cell?_setCell_other _ _ _ _ (by intro e; apply hq; rw [← ha, ← e])
  refine ⟨by simpa using h.lt, ?_, ?_, ?_, by simpa using h.f0, by simpa using h.f1, by simpa using h.f2⟩
  · rw [far _ _ _ _ rfl, far _ _ _ _ rfl, far _ _ _ _ rfl]; exact h.c0
  · rw [far _ _ _ _ rfl, far _ _ _ _ rfl, far _ _ _ _ rfl]; exact h.c1
  · rw [far _ _ _ _ rfl, far _ _ _ _ rfl, far _ _ _ _ rfl]; exact h.c2

abbrev set3 (w : World) (b : Nat) (s v l : Int) : World := ((w.setCell ⟨b, 0, none⟩ (.int .i64 s)).setCell ⟨b, 1, none⟩ (.int .i64 v)).setCell ⟨b, 2, none⟩ (.int .i64 l)
/-- The law's three trips: the one that came in, the one that is wanted, the one that was answered. -/
structure Three (w W : World) (P Q X : Nat) (s v l a b c d e f : Int) : Prop where
  p : Box W P s v l
  q : Box W Q a b c
  x : Box W X d e f
  bel : Below w.heap.size w W
  leQ : w.heap.size ≤ Q
  leX : w.heap.size ≤ X
  qp : Q ≠ P
  xp : X ≠ P
  xq : X ≠ Q
theorem Three.below {w W W' : World} {P Q X : Nat} {s v l a b c d e f : Int} (h : Three w W P Q X s v l a b c d e f) (hb : Below W.heap.size W W') : Three w W' P Q X s v l a b c d e f :=
  ⟨h.p.below hb, h.q.below hb, h.x.below hb, h.bel.trans (hb.mono h.bel.size), h.leQ, h.leX, h.qp, h.xp, h.xq⟩
theorem Three.setQ {w W : World} {P Q X : Nat} {s v l a b c d e f : Int} (h : Three w W P Q X s v l a b c d e f) (a' b' c' : Int) : Three w (set3 W Q a' b' c') P Q X s v l a' b' c' d e f :=
  ⟨h.p.set_far h.qp _ _ _, h.q.set a' b' c', h.x.set_far (fun e => h.xq e.symm) _ _ _, Below.set3 h.bel h.leQ _ _ _, h.leQ, h.leX, h.qp, h.xp, h.xq⟩
theorem Three.setX {w W : World} {P Q X : Nat} {s v l a b c d e f : Int} (h : Three w W P Q X s v l a b c d e f) (d' e' f' : Int) : Three w (set3 W X d' e' f') P Q X s v l a b c d' e' f' :=
  ⟨h.p.set_far h.xp _ _ _, h.q.set_far h.xq _ _ _, h.x.set d' e' f', Below.set3 h.bel h.leX _ _ _, h.leQ, h.leX, h.qp, h.xp, h.xq⟩
theorem three_start {w w1 : World} {s v l a b c : Int} (hb : Below ((w.alloc (.cells #[.int .i64 s, .int .i64 v, .int .i64 l] 23)).alloc (.cells #[.int .i64 a, .int .i64 b, .int .i64 c] 23)).heap.size ((w.alloc (.cells #[.int .i64 s, .int .i64 v, .int .i64 l] 23)).alloc (.cells #[.int .i64 a, .int .i64 b, .int .i64 c] 23)) w1) (d e f : Int) :
    Three w (w1.alloc (.cells #[.int .i64 d, .int .i64 e, .int .i64 f] 23)) w.heap.size (w.heap.size + 1) w1.heap.size s v l a b c d e f := by
  have hs : (w.alloc (.cells #[.int .i64 s, .int .i64 v, .int .i64 l] 23)).heap.size = w.heap.size + 1 := by simp
  have k1 := (Box.new w s v l).below ((Below.refl _ _).alloc (Nat.le_refl _) (.cells #[.int .i64 a, .int .i64 b, .int .i64 c] 23))
  have k2 := Box.new (w.alloc (.cells #[.int .i64 s, .int .i64 v, .int .i64 l] 23)) a b c
  rw [hs] at k2
  have k3 := k1.below hb
  have k4 := k2.below hb
  have b0 : Below w.heap.size w (w.alloc (.cells #[.int .i64 s, .int .i64 v, .int .i64 l] 23)) := (Below.refl _ _).alloc (Nat.le_refl _) _
  have b1 := b0.alloc b0.size (.cells #[.int .i64 a, .int .i64 b, .int .i64 c] 23)
  have b2 := b1.trans (hb.mono b1.size)
  have g : Below w1.heap.size w1 (w1.alloc (.cells #[.int .i64 d, .int .i64 e, .int .i64 f] 23)) := (Below.refl _ _).alloc (Nat.le_refl _) _
  exact ⟨k3.below g, k4.below g, Box.new _ _ _ _, b2.alloc b2.size _, by omega, b2.size, by omega, by have := k3.lt; omega, by have := k4.lt; omega⟩
theorem rtrip_bel (s v l : Int) (w : World) : Calls Tryd.prog 6 #[trip s v l] w fun e w' => e = .returned (.bool (rightB s v l)) ∧ Below w.heap.size w w' :=
  (rtrip_calls s v l w).mono fun e w' ⟨he, hw⟩ => ⟨he, hw ▸ (Below.refl _ _).alloc (Nat.le_refl _) _⟩
theorem wait_half (s v l : Int) (w : World) (h : rightB s v l = true) : Calls Tryd.prog 9 #[trip s v l] w fun e w' => e = .returned (.tuple #[.int .i64 (half v + s / 8), .nilIface]) ∧ Below w.heap.size w w' := by
  have := wait_yes s v l w h
  rw [Int.add_comm] at this
  exact this
end Go.Proofs.YtfiaibifollmdaaDoor
