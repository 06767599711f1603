/- A slice of integers as it lies in memory; what the law PathThrice keeps from round to round. -/
import Derived.Test.YtjjfeffmmkoooaaDoorC
import Derived.Test.YtjjfeffmmkoooaaDoorK
import Derived.Deep.LoopGhost
import Derived.Deep.DeepCutAuto
namespace Go.Proofs.YtjjfeffmmkoooaaDoor
open Go.RowKit Go.Lib Go.Sort
set_option linter.unusedVariables false
set_option linter.unusedSimpArgs false

def iat (zs : List Int) (j : Nat) : Int := zs[j]?.getD 0
def ICells (w : World) (b off : Nat) (zs : List Int) : Prop := ∀ j, j < zs.length → w.cell? ⟨b, off + j, none⟩ = some (.int .i64 (iat zs j))
/-- The slice's value v holds the integers zs in the world w. -/
def Ints (w : World) (v : Value) (zs : List Int) : Prop := ∃ ao c, v = .slice ao zs.length c ∧ zs.length ≤ 9223372036854775807 ∧ (zs = [] ∨ ∃ b off, ao = some ⟨b, off, none⟩ ∧ b < w.heap.size ∧ ICells w b off zs)
theorem ICells.below {w w' : World} {b off : Nat} {zs : List Int} (h : ICells w b off zs) (hb : b < w.heap.size) (bel : Below w.heap.size w w') : ICells w' b off zs := fun j hj =>
  (bel.cell (p := ⟨b, off + j, none⟩) hb).trans (h j hj)


theorem Below.of_drew {N : Nat} {w w' : World} (h : Below N w.drew w') : Below N w w' := ⟨h.os, h.tape, h.output, h.size, h.block⟩
/-- The law's path, and the one that was answered, in their boxes. -/
structure Duo (w W : World) (P Q : Nat) (i o a b : Int) (c : Bool) : Prop where
  p : Box W P i o false
  q : Box W Q a b c
  bel : Below w.heap.size w W
  leP : w.heap.size ≤ P
  leQ : w.heap.size ≤ Q
  ne : P ≠ Q
  ne' : Q ≠ P
theorem Duo.below {w W W' : World} {P Q : Nat} {i o a b : Int} {c : Bool} (h : Duo w W P Q i o a b c) (hb : Below W.heap.size W W') : Duo w W' P Q i o a b c :=
  ⟨h.p.below hb, h.q.below hb, h.bel.trans (hb.mono h.bel.size), h.leP, h.leQ, h.ne, h.ne'⟩
theorem Duo.setQ {w W : World} {P Q : Nat} {i o a b : Int} {c : Bool} (h : Duo w W P Q i o a b c) (a' b' : Int) (c' : Bool) : Duo w (set3 W Q a' b' c') P Q i o a' b' c' :=
  ⟨h.p.set_far h.ne' _ _ _, h.q.set a' b' c', below_set3 h.bel h.leQ _ _ _, h.leP, h.leQ, h.ne, h.ne'⟩
theorem Duo.drew {w W : World} {P Q : Nat} {i o a b : Int} {c : Bool} (h : Duo w W P Q i o a b c) : Duo w W.drew P Q i o a b c :=
  ⟨⟨h.p.lt, h.p.c0, h.p.c1, h.p.c2, h.p.f0, h.p.f1, h.p.f2⟩, ⟨h.q.lt, h.q.c0, h.q.c1, h.q.c2, h.q.f0, h.q.f1, h.q.f2⟩, h.bel.drew, h.leP, h.leQ, h.ne, h.ne'⟩
theorem duo_start {w W w2 : World} {P : Nat} {i o : Int} (hX : Box W P i o false) (hB : Below w.heap.size w W) (hle : w.heap.size ≤ P) (hb : Below W.heap.size W w2) (a b : Int) (c : Bool) : Duo w (put w2 a b c) P w2.heap.size i o a b c := by
  have h2 := hX.below hb
  have b2 := hB.trans (hb.mono hB.size)
  exact ⟨h2.below (below_put _ _ _ _), Box.new _ _ _ _, b2.trans ((below_put _ _ _ _).mono b2.size), hle, b2.size, by have := h2.lt; omega, by have := h2.lt; omega⟩
/-- What a round leaves: a path that is right and not known, or an error. -/
def Stp (v : Value) (j : Nat) (i o : Int) (k : Bool) : Prop := (v = .nilIface ∧ flt i o false = 0 ∧ i ≤ 200 * (j + 1) ∧ k = false) ∨ ∃ f : Int, v = .iface 41 (.int .i64 f)
theorem sendF_zero {i o n : Int} {k : Bool} (h : sendF i o k n = 0) : flt i o k = 0 ∧ pkB n = true ∧ byB (o + n) = true ∧ o + n ≤ bnd i k := by
  unfold sendF at h
  split at h
  · rename_i h0
    split at h
    · rename_i hp
      split at h
      · omega
      · exact ⟨h0, hp.1, hp.2, by omega⟩
    · omega
  · rename_i h0; exact absurd h h0
theorem cameF_zero {i o n : Int} {k : Bool} (h : cameF i o k n = 0) : flt i o k = 0 ∧ pkB n = true ∧ byB (i + n) = true := by
  unfold cameF at h
  split at h
  · rename_i h0
    split at h
    · rename_i hp; exact ⟨h0, hp.1, hp.2⟩
    · omega
  · rename_i h0; exact absurd h h0
theorem bnd_mono {i j : Int} (h : i ≤ j) : bnd i false ≤ bnd j false := by
  show (if 3 * i < 1073741823 then 3 * i else 1073741823) ≤ (if 3 * j < 1073741823 then 3 * j else (1073741823 : Int))
  split <;> split <;> omega
theorem flt_of {i o : Int} (hi : byB i = true) (ho : byB o = true) (h : o ≤ bnd i false) : flt i o false = 0 := by
  simp [flt, hi, ho]; omega
theorem stp_send {i o : Int} {j : Nat} (hj : i ≤ 200 * j) (m : Int) : Stp (errV (sendF i o false m)) j (sendI i o false m) (sendO i o false m) (sendK i o false m) := by
  by_cases h : sendF i o false m = 0
  · obtain ⟨h0, hp, hs, hb⟩ := sendF_zero h
    refine .inl ⟨by rw [h, errV_0], ?_, ?_, ?_⟩
    · simp only [sendI, sendO, h, if_true]; exact flt_of (flt_zero h0).1 hs hb
    · simp only [sendI, h, if_true]; omega
    · simp [sendK]
  · exact .inr ⟨_, errV_f h⟩
theorem stp_came {i o : Int} {j : Nat} (hj : i ≤ 200 * j) (m : Int) : Stp (errV (cameF i o false m)) j (cameI i o false m) (cameO i o false m) (cameK i o false m) := by
  by_cases h : cameF i o false m = 0
  · obtain ⟨h0, hp, hs⟩ := cameF_zero h
    obtain ⟨hi, ho, hb⟩ := flt_zero h0
    have hm := pkB_yes hp
    refine .inl ⟨by rw [h, errV_0], ?_, ?_, ?_⟩
    · simp only [cameI, cameO, h, if_true]; exact flt_of hs ho (by have := bnd_mono (i := i) (j := i + m) (by omega); omega)
    · simp only [cameI, h, if_true]; omega
    · simp [cameK]
  · exact .inr ⟨_, errV_f h⟩
/-- What Room tells may be sent, and one more not. -/
theorem room_facts {i o : Int} (h : flt i o false = 0) (hi : i ≤ 16000) : 0 ≤ rm i o false ∧ rm i o false ≤ 200 ∧ sendF i o false (rm i o false) = 0 ∧ (rm i o false < 200 → sendF i o false (rm i o false + 1) = 8) ∧ (¬ rm i o false < 200 → sendF i o false (rm i o false + 1) = 1) := by
  obtain ⟨h1, h2, h3⟩ := flt_zero h
  obtain ⟨o0, o1⟩ := byB_yes h2
  have hb : bnd i false ≤ 48000 := by have := bnd_three i; omega
  have hr : (rm i o false = bnd i false - o ∧ bnd i false - o < 200) ∨ (rm i o false = 200 ∧ 200 ≤ bnd i false - o) := by unfold rm; split <;> omega
  generalize rm i o false = r at hr ⊢
  have p1 : pkB r = true := decide_eq_true (by omega)
  have s1 : byB (o + r) = true := decide_eq_true (by omega)
  refine ⟨by omega, by omega, ?_, fun hl => ?_, fun hl => ?_⟩
  · have : ¬ bnd i false < o + r := by omega
    simp [sendF, h, p1, s1, this]
  · have p2 : pkB (r + 1) = true := decide_eq_true (by omega)
    have s2 : byB (o + (r + 1)) = true := decide_eq_true (by omega)
    have : bnd i false < o + (r + 1) := by omega
    simp [sendF, h, p2, s2, this]
  · have p2 : pkB (r + 1) = false := decide_eq_false (by omega)
    simp [sendF, h, p2]
theorem send_as {i o m f : Int} (h : sendF i o false m = f) (hf : f ≠ 0) (w : World) : Calls Tryd.prog 12 #[path i o false, .int .i64 m] w fun e w' => e = .returned (.tuple #[path 0 0 false, .iface 41 (.int .i64 f)]) ∧ Below w.heap.size w w' := by
  have := send_calls i o false m w
  rw [sendP_no (by omega), h, errV_f hf] at this
  exact this
theorem send_room {i o m : Int} (h : sendF i o false m = 0) (w : World) : Calls Tryd.prog 12 #[path i o false, .int .i64 m] w fun e w' => e = .returned (.tuple #[path i (o + m) false, .nilIface]) ∧ Below w.heap.size w w' := by
  have := send_calls i o false m w
  rw [sendP_ok h, h, errV_0] at this
  exact this
theorem room_fact (w : World) : Calls Tryd.prog 13 #[path 10 25 false] w fun e w' => e = .returned (.tuple #[.int .i64 5, .nilIface]) ∧ Below w.heap.size w w' := room_less 10 25 false w rfl (by decide)
end Go.Proofs.YtjjfeffmmkoooaaDoor
