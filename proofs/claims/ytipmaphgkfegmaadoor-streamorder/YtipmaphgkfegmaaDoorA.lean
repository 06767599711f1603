/- A stream as which bytes came and how many were taken: what is put, ready, taken, and missing. -/
import Derived.WalkKit
import Derived.Laws.BytesArg
namespace Go.Proofs.YtipmaphgkfegmaaDoor
set_option linter.unusedVariables false
set_option linter.unusedSimpArgs false

abbrev R := Int × Int
/-- The byte at each place, whether one came there, and how many were taken. -/
structure St where
  byt : Nat → Int
  cm : Nat → Bool
  tk : Nat
def bat (d : ByteArray) (i : Nat) : Int := ((d.data[i]?.getD 0).toNat : Int)
theorem bat_range (d : ByteArray) (i : Nat) : 0 ≤ bat d i ∧ bat d i ≤ 255 := by
  have := (d.data[i]?.getD 0).toNat_lt
  unfold bat
  omega
theorem bat_get {d : ByteArray} {i : Nat} (h : i < d.size) : ((d[i].toNat : Nat) : Int) = bat d i := by
  have h' : i < d.data.size := h
  rw [bat, Array.getElem?_eq_getElem h']
  rfl
def newS : St := ⟨fun _ => 0, fun _ => false, 0⟩
def placeB (n : Int) : Bool := decide (0 ≤ n ∧ n ≤ 60)
def cl (s : St) (a : Nat) (d : ByteArray) (i : Nat) : Bool := s.cm (a + i) && (s.byt (a + i) != bat d i)
def clB (s : St) (a : Nat) (d : ByteArray) : Bool := (List.range d.size).any (cl s a d)
theorem clB_yes {s : St} {a : Nat} {d : ByteArray} {i : Nat} (hi : i < d.size) (h : cl s a d i = true) : clB s a d = true :=
  List.any_eq_true.2 ⟨i, by simpa using hi, h⟩
theorem clB_no {s : St} {a : Nat} {d : ByteArray} (h : ∀ i, i < d.size → cl s a d i = false) : clB s a d = false := by
  refine List.any_eq_false.2 fun i hi => ?_
  rw [h i (by simpa using hi)]
  simp
theorem clB_out {s : St} {a : Nat} {d : ByteArray} (h : clB s a d = false) (i : Nat) (hi : i < d.size) : cl s a d i = false := by
  have := List.any_eq_false.1 h i (by simpa using hi)
  simpa using this
/-- The first n bytes of d came from the place a on. -/
def upS (s : St) (a : Nat) (d : ByteArray) (n : Nat) : St := ⟨fun j => if a ≤ j ∧ j < a + n then bat d (j - a) else s.byt j, fun j => decide (a ≤ j ∧ j < a + n) || s.cm j, s.tk⟩
theorem upS_zero (s : St) (a : Nat) (d : ByteArray) : upS s a d 0 = s := by
  have e : ∀ j, ¬ (a ≤ j ∧ j < a + 0) := fun j => by omega
  cases s
  simp only [upS, e, if_false, decide_false, Bool.false_or]
theorem upS_byt (s : St) (a : Nat) (d : ByteArray) (n : Nat) : (upS s a d (n + 1)).byt = fun j => if j = a + n then bat d n else (upS s a d n).byt j := by
  funext j
  simp only [upS]
  by_cases h : j = a + n
  · subst h
    rw [if_pos (by omega), if_pos rfl]
    congr 1; omega
  · rw [if_neg h]
    by_cases h2 : a ≤ j ∧ j < a + n
    · rw [if_pos (by omega), if_pos h2]
    · rw [if_neg (by omega), if_neg h2]
theorem upS_cm (s : St) (a : Nat) (d : ByteArray) (n : Nat) : (upS s a d (n + 1)).cm = fun j => if j = a + n then true else (upS s a d n).cm j := by
  funext j
  simp only [upS]
  by_cases h : j = a + n
  · rw [if_pos h]
    have : a ≤ j ∧ j < a + (n + 1) := by omega
    simp [this]
  · rw [if_neg h]
    have : (a ≤ j ∧ j < a + (n + 1)) ↔ (a ≤ j ∧ j < a + n) := by omega
    simp [this]
theorem upS_tk (s : St) (a : Nat) (d : ByteArray) (n : Nat) : (upS s a d n).tk = s.tk := rfl
def putF (s : St) (p : Int) (d : ByteArray) : Int := if placeB p = false then 1 else if 60 < p + (d.size : Int) then 4 else if clB s p.toNat d = true then 7 else 0
def putS (s : St) (p : Int) (d : ByteArray) : St := if putF s p d = 0 then upS s p.toNat d d.size else s
theorem putF_range {s : St} {p : Int} {d : ByteArray} (h : placeB p = false) : putF s p d = 1 := if_pos h
theorem putF_full {s : St} {p : Int} {d : ByteArray} (h : placeB p = true) (h2 : 60 < p + (d.size : Int)) : putF s p d = 4 := by simp [putF, h, h2]
theorem putF_clash {s : St} {p : Int} {d : ByteArray} (h : placeB p = true) (h2 : p + (d.size : Int) ≤ 60) (h3 : clB s p.toNat d = true) : putF s p d = 7 := by
  have : ¬ 60 < p + (d.size : Int) := by omega
  simp [putF, h, this, h3]
theorem putF_yes {s : St} {p : Int} {d : ByteArray} (h : placeB p = true) (h2 : p + (d.size : Int) ≤ 60) (h3 : clB s p.toNat d = false) : putF s p d = 0 := by
  have : ¬ 60 < p + (d.size : Int) := by omega
  simp [putF, h, this, h3]
theorem putS_yes {s : St} {p : Int} {d : ByteArray} (h : putF s p d = 0) : putS s p d = upS s p.toNat d d.size := if_pos h
theorem putS_no {s : St} {p : Int} {d : ByteArray} (h : putF s p d ≠ 0) : putS s p d = s := if_neg h
structure Inv (s : St) : Prop where
  t : s.tk ≤ 60
  b : ∀ i, 0 ≤ s.byt i ∧ s.byt i ≤ 255
theorem Inv.new : Inv newS := ⟨by simp [newS], fun i => by simp [newS]⟩
theorem Inv.up {s : St} (h : Inv s) (a : Nat) (d : ByteArray) (n : Nat) : Inv (upS s a d n) := by
  refine ⟨h.t, fun i => ?_⟩
  simp only [upS]
  split
  · exact bat_range _ _
  · exact h.b i
theorem Inv.put {s : St} (h : Inv s) (p : Int) (d : ByteArray) : Inv (putS s p d) := by
  unfold putS
  split
  · exact h.up _ _ _
  · exact h
/-- How many came one behind the other from the place t on, of k. -/
def run (cm : Nat → Bool) (t : Nat) : Nat → Nat
  | 0 => 0
  | k + 1 => if cm t then 1 + run cm (t + 1) k else 0
theorem run_stop (cm : Nat → Bool) : ∀ (k t n : Nat), (∀ i, i < n → cm (t + i) = true) → n < k → cm (t + n) = false → run cm t k = n
  | 0, t, n, _, h, _ => by omega
  | k + 1, t, 0, _, _, h => by simp [run, show cm t = false from h]
  | k + 1, t, n + 1, h1, h2, h3 => by
    have := run_stop cm k (t + 1) n (fun i hi => by have := h1 (i + 1) (by omega); rwa [show t + (i + 1) = t + 1 + i by omega] at this) (by omega) (by rwa [show t + (n + 1) = t + 1 + n by omega] at h3)
    have h0 : cm t = true := h1 0 (by omega)
    simp [run, h0, this]
    omega
theorem run_all (cm : Nat → Bool) : ∀ (k t : Nat), (∀ i, i < k → cm (t + i) = true) → run cm t k = k
  | 0, t, _ => rfl
  | k + 1, t, h => by
    have := run_all cm k (t + 1) (fun i hi => by have := h (i + 1) (by omega); rwa [show t + (i + 1) = t + 1 + i by omega] at this)
    have h0 : cm t = true := h 0 (by omega)
    simp [run, h0, this]
    omega
theorem run_le (cm : Nat → Bool) : ∀ (k t : Nat), run cm t k ≤ k
  | 0, t => Nat.le_refl _
  | k + 1, t => by
    have := run_le cm k (t + 1)
    simp only [run]
    split <;> omega
theorem run_came (cm : Nat → Bool) : ∀ (k t i : Nat), i < run cm t k → cm (t + i) = true
  | 0, t, i, h => by simp [run] at h
  | k + 1, t, i, h => by
    simp only [run] at h
    split at h
    · rename_i hc
      cases i with
      | zero => exact hc
      | succ i =>
        have := run_came cm k (t + 1) i (by omega)
        rwa [show t + 1 + i = t + (i + 1) by omega] at this
    · omega
def rdy (s : St) : Nat := run s.cm s.tk (60 - s.tk)
theorem rdy_le (s : St) : rdy s ≤ 60 - s.tk := run_le _ _ _
def takeN (s : St) (n : Int) : Nat := min n.toNat (rdy s)
def takeL (s : St) (n : Int) : List Int := (List.range (takeN s n)).map fun i => s.byt (s.tk + i)
def takeS (s : St) (n : Int) : St := ⟨s.byt, s.cm, s.tk + takeN s n⟩
theorem takeN_le (s : St) (n : Int) : takeN s n ≤ 60 - s.tk := Nat.le_trans (Nat.min_le_right _ _) (rdy_le s)
theorem Inv.take {s : St} (h : Inv s) (n : Int) : Inv (takeS s n) := ⟨by have := takeN_le s n; have := h.t; show s.tk + takeN s n ≤ 60; omega, h.b⟩
/-- The gaps ahead of the place k, and the place behind the last one that came. -/
def gp (cm : Nat → Bool) : Nat → List R × Nat
  | 0 => ([], 0)
  | k + 1 => if cm k then ((if (gp cm k).2 < k then (gp cm k).1 ++ [(((gp cm k).2 : Int), (k : Int) - 1)] else (gp cm k).1), k + 1) else gp cm k
def gaps (s : St) : List R := (gp s.cm 60).1
theorem gp_no {cm : Nat → Bool} {k : Nat} (h : cm k = false) : gp cm (k + 1) = gp cm k := by simp [gp, h]
theorem gp_near {cm : Nat → Bool} {k : Nat} (h : cm k = true) (h2 : k ≤ (gp cm k).2) : gp cm (k + 1) = ((gp cm k).1, k + 1) := by
  have : ¬ (gp cm k).2 < k := by omega
  simp [gp, h, this]
theorem gp_far {cm : Nat → Bool} {k : Nat} (h : cm k = true) (h2 : (gp cm k).2 < k) : gp cm (k + 1) = ((gp cm k).1 ++ [(((gp cm k).2 : Int), (k : Int) - 1)], k + 1) := by simp [gp, h, h2]
theorem gp_le (cm : Nat → Bool) : ∀ k, (gp cm k).2 ≤ k ∧ (gp cm k).1.length ≤ k
  | 0 => by simp [gp]
  | k + 1 => by
    have := gp_le cm k
    cases h : cm k with
    | false => rw [gp_no h]; omega
    | true =>
      by_cases h2 : (gp cm k).2 < k
      · rw [gp_far h h2]; simp; omega
      · rw [gp_near h (by omega)]; simp; omega
/-- Where just the places from a on, n of them, came. -/
theorem gp_one {cm : Nat → Bool} {a n : Nat} (h : ∀ j, j < 60 → cm j = decide (a ≤ j ∧ j < a + n)) : ∀ k, k ≤ 60 → gp cm k = (if 0 < a ∧ a < k ∧ 0 < n then [((0 : Int), (a : Int) - 1)] else [], if a < k ∧ 0 < n then min k (a + n) else 0)
  | 0, _ => by simp [gp]
  | k + 1, hk => by
    have ih := gp_one h k (by omega)
    have hc0 := h k (by omega)
    by_cases c : a ≤ k ∧ k < a + n
    · have hc : cm k = true := by rw [hc0]; simp [c]
      by_cases e : k = a
      · subst e
        have i2 : gp cm k = ([], 0) := by rw [ih]; simp
        by_cases z : k = 0
        · subst z
          rw [gp_near hc (by rw [i2]; simp), i2]
          have : 0 < n := by omega
          simp [this]; omega
        · rw [gp_far hc (by rw [i2]; show 0 < k; omega), i2]
          have h1 : 0 < n := by omega
          have h2 : 0 < k := by omega
          simp [h1, h2]; omega
      · have g1 : a < k := by omega
        have g2 : 0 < n := by omega
        rw [gp_near hc (by rw [ih]; simp [g1, g2]; omega), ih]
        have g3 : a < k + 1 := by omega
        simp [g1, g2, g3]; omega
    · have hc : cm k = false := by rw [hc0]; simp; omega
      rw [gp_no hc, ih]
      by_cases z : 0 < n
      · by_cases y : a < k
        · have g3 : a < k + 1 := by omega
          simp [z, y, g3]; omega
        · have g3 : ¬ a < k + 1 := by omega
          simp [y, g3]
      · simp [z]
end Go.Proofs.YtipmaphgkfegmaaDoor
