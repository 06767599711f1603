/- Credit as four integers: what is taken, and read; what always holds. -/
import Derived.WalkKit
namespace Go.Proofs.YtojhcmnmjdolpaaDoor
set_option linter.unusedVariables false
set_option linter.unusedSimpArgs false

/-- The window, the limit, up to where bytes came, and how many were read. -/
structure St where
  win : Int
  lim : Int
  came : Int
  read : Int
def numB (n : Int) : Bool := decide (0 ≤ n ∧ n ≤ 1073741823)
def winB (n : Int) : Bool := decide (1 ≤ n ∧ n ≤ 1000)
def newS (n : Int) : St := ⟨n, n, 0, 0⟩
def takeF (s : St) (u : Int) : Int := if numB u = false then 1 else if s.lim < u then 8 else 0
def upS (s : St) (u : Int) : St := ⟨s.win, s.lim, if s.came < u then u else s.came, s.read⟩
def takeS (s : St) (u : Int) : St := if takeF s u = 0 then upS s u else s
def moreL (s : St) (n : Int) : Int := if s.win / 2 < s.read + n - (s.lim - s.win) then s.read + n + s.win else s.lim
def getF (s : St) (n : Int) : Int := if n < 0 then 1 else if s.came - s.read < n then 8 else if numB (moreL s n) = false then 4 else 0
def getN (s : St) (n : Int) : Int := if getF s n = 0 then moreL s n else 0
def getS (s : St) (n : Int) : St := if getF s n = 0 then ⟨s.win, moreL s n, s.came, s.read + n⟩ else s
structure Inv (s : St) : Prop where
  w1 : 1 ≤ s.win
  w2 : s.win ≤ 1000
  l1 : s.win ≤ s.lim
  l2 : s.lim ≤ 1073741823
  c1 : s.read ≤ s.came
  c2 : s.came ≤ s.lim
  r1 : s.lim - s.win ≤ s.read
  r2 : s.read - (s.lim - s.win) ≤ s.win / 2
theorem Inv.start {n : Int} (h : winB n = true) : Inv (newS n) := by
  have h : 1 ≤ n ∧ n ≤ 1000 := of_decide_eq_true h
  constructor <;> simp only [newS] <;> omega
theorem takeF_range {s : St} {u : Int} (h : numB u = false) : takeF s u = 1 := by simp [takeF, h]
theorem takeF_flow {s : St} {u : Int} (h : numB u = true) (h2 : s.lim < u) : takeF s u = 8 := by simp [takeF, h, h2]
theorem takeF_yes {s : St} {u : Int} (h : numB u = true) (h2 : u ≤ s.lim) : takeF s u = 0 := by
  have : ¬ s.lim < u := by omega
  simp [takeF, h, this]
theorem takeS_yes {s : St} {u : Int} (h : takeF s u = 0) : takeS s u = upS s u := if_pos h
theorem takeS_no {s : St} {u : Int} (h : takeF s u ≠ 0) : takeS s u = s := if_neg h
theorem Inv.up {s : St} (h : Inv s) {u : Int} (h2 : u ≤ s.lim) : Inv (upS s u) := by
  obtain ⟨_, _, _, _, _, _, _, _⟩ := h
  constructor <;> simp only [upS] <;> first | omega | (split <;> omega)
theorem takeF_cases (s : St) (u : Int) : (takeF s u = 1 ∧ numB u = false) ∨ (takeF s u = 8 ∧ numB u = true ∧ s.lim < u) ∨ (takeF s u = 0 ∧ numB u = true ∧ u ≤ s.lim) := by
  cases h : numB u with
  | false => exact .inl ⟨takeF_range h, rfl⟩
  | true =>
    by_cases h2 : s.lim < u
    · exact .inr (.inl ⟨takeF_flow h h2, rfl, h2⟩)
    · exact .inr (.inr ⟨takeF_yes h (by omega), rfl, by omega⟩)
theorem getF_range {s : St} {n : Int} (h : n < 0) : getF s n = 1 := if_pos h
theorem getF_flow {s : St} {n : Int} (h : 0 ≤ n) (h2 : s.came - s.read < n) : getF s n = 8 := by
  have : ¬ n < 0 := by omega
  simp [getF, this, h2]
theorem getF_full {s : St} {n : Int} (h : 0 ≤ n) (h2 : n ≤ s.came - s.read) (h3 : numB (moreL s n) = false) : getF s n = 4 := by
  have a : ¬ n < 0 := by omega
  have b : ¬ s.came - s.read < n := by omega
  simp [getF, a, b, h3]
theorem getF_yes {s : St} {n : Int} (h : 0 ≤ n) (h2 : n ≤ s.came - s.read) (h3 : numB (moreL s n) = true) : getF s n = 0 := by
  have a : ¬ n < 0 := by omega
  have b : ¬ s.came - s.read < n := by omega
  simp [getF, a, b, h3]
theorem getF_cases (s : St) (n : Int) : (getF s n = 1 ∧ n < 0) ∨ (getF s n = 8 ∧ 0 ≤ n ∧ s.came - s.read < n) ∨ (getF s n = 4 ∧ 0 ≤ n ∧ n ≤ s.came - s.read ∧ numB (moreL s n) = false) ∨ (getF s n = 0 ∧ 0 ≤ n ∧ n ≤ s.came - s.read ∧ numB (moreL s n) = true) := by
  by_cases h : n < 0
  · exact .inl ⟨getF_range h, h⟩
  by_cases h2 : s.came - s.read < n
  · exact .inr (.inl ⟨getF_flow (by omega) h2, by omega, h2⟩)
  cases h3 : numB (moreL s n) with
  | false => exact .inr (.inr (.inl ⟨getF_full (by omega) (by omega) h3, by omega, by omega, rfl⟩))
  | true => exact .inr (.inr (.inr ⟨getF_yes (by omega) (by omega) h3, by omega, by omega, rfl⟩))
theorem getN_yes {s : St} {n : Int} (h : getF s n = 0) : getN s n = moreL s n := if_pos h
theorem getN_no {s : St} {n : Int} (h : getF s n ≠ 0) : getN s n = 0 := if_neg h
theorem getS_yes {s : St} {n : Int} (h : getF s n = 0) : getS s n = ⟨s.win, moreL s n, s.came, s.read + n⟩ := if_pos h
theorem getS_no {s : St} {n : Int} (h : getF s n ≠ 0) : getS s n = s := if_neg h
theorem moreL_yes {s : St} {n : Int} (h : s.win / 2 < s.read + n - (s.lim - s.win)) : moreL s n = s.read + n + s.win := if_pos h
theorem moreL_no {s : St} {n : Int} (h : s.read + n - (s.lim - s.win) ≤ s.win / 2) : moreL s n = s.lim := if_neg (by omega)
theorem Inv.got {s : St} (h : Inv s) {n : Int} (h0 : 0 ≤ n) (h1 : n ≤ s.came - s.read) (h2 : numB (moreL s n) = true) : Inv ⟨s.win, moreL s n, s.came, s.read + n⟩ := by
  have h2 : 0 ≤ moreL s n ∧ moreL s n ≤ 1073741823 := of_decide_eq_true h2
  obtain ⟨_, _, _, _, _, _, _, _⟩ := h
  by_cases h3 : s.win / 2 < s.read + n - (s.lim - s.win)
  · rw [moreL_yes h3] at h2 ⊢
    constructor <;> simp only <;> omega
  · rw [moreL_no (by omega)] at h2 ⊢
    constructor <;> simp only <;> omega
/-- What is read never makes the limit less. -/
theorem moreL_le {s : St} (h : Inv s) {n : Int} (h0 : 0 ≤ n) : s.lim ≤ moreL s n := by
  obtain ⟨_, _, _, _, _, _, _, _⟩ := h
  by_cases h3 : s.win / 2 < s.read + n - (s.lim - s.win)
  · rw [moreL_yes h3]; omega
  · rw [moreL_no (by omega)]; omega
theorem Inv.take {s : St} (h : Inv s) (u : Int) : Inv (takeS s u) := by
  rcases takeF_cases s u with ⟨e, _⟩ | ⟨e, _⟩ | ⟨e, _, h2⟩
  · rw [takeS_no (by rw [e]; decide)]; exact h
  · rw [takeS_no (by rw [e]; decide)]; exact h
  · rw [takeS_yes e]; exact h.up h2
theorem Inv.get {s : St} (h : Inv s) (n : Int) : Inv (getS s n) := by
  rcases getF_cases s n with ⟨e, _⟩ | ⟨e, _⟩ | ⟨e, _⟩ | ⟨e, h0, h1, h2⟩
  · rw [getS_no (by rw [e]; decide)]; exact h
  · rw [getS_no (by rw [e]; decide)]; exact h
  · rw [getS_no (by rw [e]; decide)]; exact h
  · rw [getS_yes e]; exact h.got h0 h1 h2
end Go.Proofs.YtojhcmnmjdolpaaDoor
