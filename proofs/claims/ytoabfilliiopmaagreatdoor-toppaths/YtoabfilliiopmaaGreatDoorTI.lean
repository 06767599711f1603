/- TopPaths: what the stream has, what a packet is, what the path lets through, and the law's own boxes. -/
import Derived.Test.YtoabfilliiopmaaGreatDoorTC
import Derived.Test.YtoabfilliiopmaaGreatDoorPX
import Derived.Deep.LoopGhost
import Derived.Deep.DeepCutAuto
namespace Go.Proofs.YtoabfilliiopmaaGreatDoor
open Go.RowKit Go.Lib Go.Sort
set_option linter.unusedVariables false
set_option linter.unusedSimpArgs false


open Sx (bat)

/-- The bytes of d up to a came, and none was taken. -/
structure Pre (d : ByteArray) (a : Nat) (s : Sx.St) : Prop where
  b : ∀ i, i < a → s.byt i = bat d i
  c : ∀ i, s.cm i = decide (i < a)
  k : s.tk = 0
theorem Pre.new (d : ByteArray) : Pre d 0 Sx.newS := ⟨fun i h => by omega, fun i => by simp [Sx.newS], rfl⟩
theorem Pre.put {d : ByteArray} {a u : Nat} {s : Sx.St} (h : Pre d a s) (hab : a ≤ u) (hu : u ≤ d.size) (h60 : d.size ≤ 60) : Sx.putF s (a : Int) (d.extract a u) = 0 ∧ Pre d u (Sx.putS s (a : Int) (d.extract a u)) := by
  have hsz : (d.extract a u).size = u - a := by rw [ByteArray.size_extract]; omega
  have hP : Sx.putF s (a : Int) (d.extract a u) = 0 := by
    refine Sx.putF_yes (decide_eq_true ⟨by omega, by omega⟩) (by omega) (Sx.clB_no fun i hi => ?_)
    unfold Sx.cl
    rw [show ((a : Int)).toNat = a from rfl, h.c, decide_eq_false (by omega)]
    rfl
  refine ⟨hP, ?_⟩
  rw [Sx.putS_yes hP, show ((a : Int)).toNat = a from rfl, hsz]
  refine ⟨fun i hi => ?_, fun i => ?_, h.k⟩
  · simp only [Sx.upS]
    split
    · rename_i h4
      rw [bat_part (by omega) hu]
      congr 1
      omega
    · rename_i h4
      exact h.b i (by omega)
  · simp only [Sx.upS]
    rw [h.c, ← Bool.decide_or]
    exact decide_eq_decide.2 (by omega)
theorem Pre.take {d : ByteArray} {a : Nat} {s : Sx.St} (h : Pre d a s) (ha : a ≤ d.size) (h60 : d.size ≤ 60) : strOfNums (Sx.takeL s 60) = d.extract 0 a := by
  have hr := rdy_is h.c h.k (Nat.zero_le _) (Nat.le_trans ha h60)
  have ht : Sx.takeN s 60 = a := by
    unfold Sx.takeN
    rw [hr, show (60 : Int).toNat = 60 from rfl]
    omega
  rw [← str_part (a := 0) (b := a) ha]
  unfold Sx.takeL
  rw [ht, h.k]
  congr 1
  apply List.map_congr_left
  intro i hi
  have := List.mem_range.1 hi
  rw [Nat.zero_add]
  exact h.b i this
/-- The frame of a piece. -/
abbrev onePc (a : Nat) (p : ByteArray) : List F := [(3, [(a : Int)], p)]
theorem onePc_ok {a j : Nat} {p : ByteArray} (h0 : a ≤ 60) (h1 : p.size ≤ 20) (hj : j ≤ 1000) : pkF (j : Int) ((j : Int) - 1) (onePc a p) = 0 := by
  obtain ⟨g1, g2⟩ := piece_good (p := (a, p)) h0 h1
  have hp : U.pairB (j : Int) ((j : Int) - 1) = true := decide_eq_true (by omega)
  have hf : fsF (onePc a p) = 0 := fsF_ok _ fun i hi => by
    have : i = 0 := by simp at hi; exact hi
    subst this
    exact g1
  have hs : (pkS (j : Int) ((j : Int) - 1) (onePc a p)).size ≤ 200 := by
    have h2 := pkN_size hp
    have h3 : (fsS (onePc a p)).size = (fS (3, [(a : Int)], p)).size := by
      show (fS (3, [(a : Int)], p) ++ fsS []).size = _
      rw [ByteArray.size_append]
      rfl
    have h4 : (fS (3, [(a : Int)], p)).size ≤ 29 := g2
    unfold pkS
    rw [ByteArray.size_append]
    omega
  unfold pkF
  rw [if_neg (by rw [hp]; decide), if_neg (by simp), if_neg (by simp), if_neg (by rw [hf]; simp), if_neg (by omega)]
theorem onePc_back {a j : Nat} {p : ByteArray} (h0 : a ≤ 60) (h1 : p.size ≤ 20) (hj : j ≤ 1000) : rdP (pkS (j : Int) ((j : Int) - 1) (onePc a p)) (j : Int) = some ((j : Int), onePc a p) := by
  have := rdP_back (more := (j : Int) - 1) (onePc_ok h0 h1 hj) (by omega) (by omega)
  rwa [show (j : Int) - 1 + 1 = j by omega] at this
theorem onePc_row (W : World) (a : Nat) (p : ByteArray) (hp : p.size ≤ 20) : FRow ((W.alloc (.cells #[.int .i64 (a : Int)] 3)).alloc (.cells #[.int .i64 3, .slice (some ⟨W.heap.size, 0, none⟩) 1 1, .string p] 40)) (.slice (some ⟨W.heap.size + 1, 0, none⟩) 1 1) (onePc a p) := by
  refine ⟨_, 1, rfl, by simp, by simp, .inr ⟨_, 0, rfl, by simp, fun j hj => ?_⟩⟩
  have : j = 0 := by simp at hj; exact hj
  subst this
  have hs : (W.alloc (.cells #[.int .i64 (a : Int)] 3)).heap.size = W.heap.size + 1 := by simp
  have hc : (W.alloc (.cells #[.int .i64 (a : Int)] 3)).cell? ⟨W.heap.size, 0, none⟩ = some (.int .i64 (a : Int)) := by simp
  generalize W.alloc (.cells #[.int .i64 (a : Int)] 3) = W1 at hs hc ⊢
  rw [← hs]
  refine ⟨.slice (some ⟨W.heap.size, 0, none⟩) 1 1, by simp [fat], by simp, by simp [fat], ?_, by simp [fat]; unfold maxLen; omega⟩
  refine ⟨_, 1, rfl, by simp [fat], by simp [fat], .inr ⟨W.heap.size, 0, rfl, by simp; omega, fun j hj => ?_⟩⟩
  have : j = 0 := by simp [fat] at hj; exact hj
  subst this
  have hb : Below W1.heap.size W1 (W1.alloc (.cells #[.int .i64 3, .slice (some ⟨W.heap.size, 0, none⟩) 1 1, .string p] 40)) := (Below.refl _ _).alloc (Nat.le_refl _) _
  exact (hb.cell (p := ⟨W.heap.size, 0, none⟩) (by show W.heap.size < _; omega)).trans hc
theorem onePc_opn {W : World} {B a : Nat} {p : ByteArray} {v : Value} {us : List Value} (h : FOwn W B v us (onePc a p)) : ∃ fb fc, v = .slice (some ⟨fb, 0, none⟩) 1 fc ∧ B ≤ fb ∧ W.cell? ⟨fb, 0, none⟩ = some (.int .i64 3) ∧ ∃ ub uo uc, W.cell? ⟨fb, 1, none⟩ = some (.slice (some ⟨ub, uo, none⟩) 1 uc) ∧ B ≤ ub ∧ W.cell? ⟨ub, uo, none⟩ = some (.int .i64 (a : Int)) ∧ W.cell? ⟨fb, 2, none⟩ = some (.string p) := by
  have hown := h.own
  obtain ⟨gb, capv, hv1, hlt, _⟩ := hown.form (by simp)
  subst hv1
  obtain ⟨c0, c1, c2⟩ := fcs_get us (onePc a p) 0 h.len (by simp)
  have y0 := hown.cellAt (0 * 3) (by simp)
  have y1 := hown.cellAt (0 * 3 + 1) (by simp)
  have y2 := hown.cellAt (0 * 3 + 2) (by simp)
  rw [c0] at y0
  rw [c1] at y1
  rw [c2] at y2
  obtain ⟨ao, uc, hu, _, _, hz⟩ := irow_of_own (h.rows 0 (by simp)) (by simp [fat])
  rcases hz with hz | ⟨ub, uo, rfl, hub, hic⟩
  · simp [fat] at hz
  · have hc := hic 0 (by simp [fat])
    have hB := ((h.rows 0 (by simp)).lt ub (by rw [hu]; rfl)).1
    rw [hu] at y1
    exact ⟨gb, capv, rfl, hlt, by simpa [fat] using y0, ub, uo, uc, by simpa [fat] using y1, hB, by simpa [fat] using hc, by simpa [fat] using y2⟩
theorem cameF_zero {i o n : Int} {k : Bool} (h : Px.cameF i o k n = 0) : Px.flt i o k = 0 ∧ Px.pkB n = true ∧ Px.byB (i + n) = true := by
  unfold Px.cameF at h
  split at h
  · rename_i h0
    split at h
    · rename_i hp; exact ⟨h0, hp.1, hp.2⟩
    · omega
  · rename_i h0; exact absurd h h0
theorem bnd_mono {i j : Int} (h : i ≤ j) : Px.bnd i false ≤ Px.bnd j false := by
  show (if 3 * i < 1073741823 then 3 * i else 1073741823) ≤ (if 3 * j < 1073741823 then 3 * j else (1073741823 : Int))
  split <;> split <;> omega
theorem flt_of {i o : Int} (hi : Px.byB i = true) (ho : Px.byB o = true) (h : o ≤ Px.bnd i false) : Px.flt i o false = 0 := by
  simp [Px.flt, hi, ho]; omega
theorem came_keep {i o n : Int} {j : Nat} (hj : i ≤ 200 * j) (hc : Px.cameF i o false n = 0) : Px.flt (i + n) o false = 0 ∧ i + n ≤ 200 * ((j : Int) + 1) := by
  obtain ⟨h0, hp, hs⟩ := cameF_zero hc
  obtain ⟨hi, ho, hb⟩ := Px.flt_zero h0
  have hm := Px.pkB_yes hp
  exact ⟨flt_of hs ho (by have := bnd_mono (i := i) (j := i + n) (by omega); omega), by omega⟩
/-- Just what there is room for may be sent. -/
theorem send_iff {i o m : Int} (h : Px.flt i o false = 0) (hi : i ≤ 8000) (h0 : 0 ≤ m) (h1 : m ≤ 200) : (m ≤ Px.rm i o false ∧ Px.sendF i o false m = 0 ∧ Px.flt i (o + m) false = 0 ∧ o + m ≤ 3 * i) ∨ (¬ m ≤ Px.rm i o false ∧ Px.sendF i o false m ≠ 0) := by
  obtain ⟨b1, b2, b3⟩ := Px.flt_zero h
  obtain ⟨o0, o1⟩ := Px.byB_yes b2
  have hb : Px.bnd i false ≤ 24000 := by have := Px.bnd_three i; omega
  have h3 := Px.bnd_three i
  have p1 : Px.pkB m = true := decide_eq_true (by omega)
  have s1 : Px.byB (o + m) = true := decide_eq_true (by omega)
  by_cases hm : o + m ≤ Px.bnd i false
  · refine .inl ⟨by unfold Px.rm; split <;> omega, ?_, flt_of b1 s1 hm, by omega⟩
    have : ¬ Px.bnd i false < o + m := by omega
    simp [Px.sendF, h, p1, s1, this]
  · refine .inr ⟨by unfold Px.rm; split <;> omega, ?_⟩
    have : Px.bnd i false < o + m := by omega
    simp [Px.sendF, h, p1, s1, this]
theorem below_of_drew {N : Nat} {w w' : World} (h : Below N w.drew w') : Below N w w' := ⟨h.os, h.tape, h.output, h.size, h.block⟩
theorem box_off {w w' : World} {b : Nat} {i o : Int} {k : Bool} {K : Nat → Prop} (h : Px.Box w b i o k) (hf : Off K w w') (hk : ¬ K b) : Px.Box w' b i o k :=
  ⟨Nat.lt_of_lt_of_le h.lt hf.size, hf.cell h.c0 hk, hf.cell h.c1 hk, hf.cell h.c2 hk, (hf.frozen (p := ⟨b, 0, none⟩) h.lt hk).trans h.f0, (hf.frozen (p := ⟨b, 1, none⟩) h.lt hk).trans h.f1, (hf.frozen (p := ⟨b, 2, none⟩) h.lt hk).trans h.f2⟩
/-- The law's path and its stream. -/
structure Wy (w W : World) (P sb : Nat) (i o : Int) (s : Sx.St) : Prop where
  p : Px.Box W P i o false
  st : Sx.Obj W w.heap.size sb s
  bel : Below w.heap.size w W
  le : w.heap.size ≤ P
  ne : P ≠ sb
section
variable {w W W' : World} {P Q sb : Nat} {i o a b : Int} {c : Bool} {s s' : Sx.St}
theorem Wy.below (h : Wy w W P sb i o s) (hb : Below W.heap.size W W') : Wy w W' P sb i o s :=
  ⟨h.p.below hb, h.st.below hb, h.bel.trans (hb.mono h.bel.size), h.le, h.ne⟩
theorem Wy.turn (h : Wy w W P sb i o s) (ht : Sx.Turned W W' w.heap.size sb s') : Wy w W' P sb i o s' :=
  ⟨box_off h.p ht.2 h.ne, ht.1, h.bel.trans (ht.2.below (fun k hk => by rw [hk]; exact h.st.hs) h.bel.size), h.le, h.ne⟩
theorem off_set3 (W : World) (P : Nat) (i' o' : Int) (k' : Bool) : Off (fun k => k = P) W (Px.set3 W P i' o' k') :=
  (((Off.refl (fun k => k = P) W).setCell (a := ⟨P, 0, none⟩) rfl _).setCell (a := ⟨P, 1, none⟩) rfl _).setCell (a := ⟨P, 2, none⟩) rfl _
theorem Wy.setP (h : Wy w W P sb i o s) (i' o' : Int) : Wy w (Px.set3 W P i' o' false) P sb i' o' s :=
  ⟨h.p.set i' o' false, h.st.off (off_set3 W P i' o' false) (fun e => h.ne e.symm), Px.below_set3 h.bel h.le _ _ _, h.le, h.ne⟩
/-- And the path that was answered. -/
structure Wq (w W : World) (P Q sb : Nat) (i o a b : Int) (c : Bool) (s : Sx.St) : Prop where
  y : Wy w W P sb i o s
  q : Px.Box W Q a b c
  le : w.heap.size ≤ Q
  nP : Q ≠ P
  ns : Q ≠ sb
theorem Wq.below (h : Wq w W P Q sb i o a b c s) (hb : Below W.heap.size W W') : Wq w W' P Q sb i o a b c s :=
  ⟨h.y.below hb, h.q.below hb, h.le, h.nP, h.ns⟩
theorem Wq.setP (h : Wq w W P Q sb i o a b c s) (i' o' : Int) : Wq w (Px.set3 W P i' o' false) P Q sb i' o' a b c s :=
  ⟨h.y.setP i' o', h.q.set_far (fun e => h.nP e.symm) _ _ _, h.le, h.nP, h.ns⟩
theorem Wq.setQ (h : Wq w W P Q sb i o a b c s) (a' b' : Int) (c' : Bool) : Wq w (Px.set3 W Q a' b' c') P Q sb i o a' b' c' s :=
  ⟨⟨h.y.p.set_far h.nP _ _ _, h.y.st.off (off_set3 W Q a' b' c') (fun e => h.ns e.symm), Px.below_set3 h.y.bel h.le _ _ _, h.y.le, h.y.ne⟩, h.q.set a' b' c', h.le, h.nP, h.ns⟩
theorem Wq.turn (h : Wq w W P Q sb i o a b c s) (ht : Sx.Turned W W' w.heap.size sb s') : Wq w W' P Q sb i o a b c s' :=
  ⟨h.y.turn ht, box_off h.q ht.2 h.ns, h.le, h.nP, h.ns⟩
theorem Wy.more (h : Wy w W P sb i o s) (a b : Int) (c : Bool) : Wq w (Px.put W a b c) P W.heap.size sb i o a b c s :=
  ⟨h.below (Px.below_put _ _ _ _), Px.Box.new _ _ _ _, h.bel.size, fun e => by have := h.p.lt; omega, fun e => by have := h.st.lt; omega⟩
theorem Wy.drew (h : Wy w W P sb i o s) : Wy w W.drew P sb i o s := h.below ⟨rfl, rfl, rfl, Nat.le_refl _, fun _ _ => rfl⟩
theorem Wq.drew (h : Wq w W P Q sb i o a b c s) : Wq w W.drew P Q sb i o a b c s := h.below ⟨rfl, rfl, rfl, Nat.le_refl _, fun _ _ => rfl⟩
end
end Go.Proofs.YtoabfilliiopmaaGreatDoor
