/- LogStops, as numbers: what a Log is behind so many steps. -/
import Derived.Test.YtegelodkopommaaDoorLG
namespace Go.Proofs.YtegelodkopommaaDoor
open Go.RowKit Go.Lib Go.Sort
set_option linter.unusedVariables false
set_option linter.unusedSimpArgs false

open Lo
def seqN (k : Nat) : List Int := (List.range k).map (fun (i : Nat) => (i : Int))
theorem seqN_snoc (k : Nat) : seqN (k + 1) = seqN k ++ [(k : Int)] := by simp [seqN, List.range_succ]
theorem seqN_length (k : Nat) : (seqN k).length = k := by simp [seqN]
theorem seqN_take (k m : Nat) : (seqN k).take m = seqN (min m k) := by simp [seqN, ← List.map_take, List.take_range]
def rg0 (k : Nat) : List R := if k = 0 then [] else [(0, (k : Int) - 1)]
theorem rg0_add (k : Nat) : addL (rg0 k) (k : Int) = rg0 (k + 1) := by
  unfold addL rg0
  by_cases h : k = 0
  · subst h; rfl
  · rw [if_neg h, if_neg (by omega)]
    simp only [withF]
    rw [if_neg (by omega), if_neg (by omega)]
    have e1 : (if (0 : Int) < (k : Int) then (0 : Int) else (k : Int)) = 0 := if_pos (by omega)
    have e2 : (if (k : Int) < (k : Int) - 1 then (k : Int) - 1 else (k : Int)) = (k : Int) := if_neg (by omega)
    rw [e1, e2]
    simp
theorem rg0_is : ∀ k, rgN (seqN k) = rg0 k
  | 0 => rfl
  | k + 1 => by rw [seqN_snoc, rgN_snoc, rg0_is k, rg0_add]
theorem rg0_len (k : Nat) : (rg0 k).length ≤ 1 := by unfold rg0; split <;> simp
theorem rg0_mem {k : Nat} {n : Int} (h : (k : Int) ≤ n) : memB (rg0 k) n = false := by
  unfold rg0
  split
  · rfl
  · simp [memB, inB]
    omega
theorem rg0_500 {k : Nat} (h : k ≤ 20) : (addL (rg0 k) 500).length ≤ 12 ∧ memB (addL (rg0 k) 500) 500 = true := by
  unfold addL rg0
  split
  · exact ⟨by decide, by decide⟩
  · simp only [withF]
    rw [if_neg (by omega), if_pos (by omega)]
    exact ⟨by simp, by simp [memB, inB]⟩
/-- Behind j steps of the first loop. -/
def P1 (a j : Nat) (s : Lg) : Prop := s.st = decide (a < j) ∧ (j ≤ a → s.ah = (a : Int) - (j : Int) ∧ s.ns = seqN j) ∧ ∃ m, m ≤ 20 ∧ s.ns = seqN m
/-- Of the second. -/
def P2 (a j : Nat) (s : Lg) : Prop := s.st = decide (a < j) ∧ (j ≤ a → s.ah = (a : Int) - (j : Int)) ∧ ∃ m, m ≤ 20 ∧ s.ns = seqN m
theorem P1.two {a j : Nat} {s : Lg} (h : P1 a j s) : P2 a j s := ⟨h.1, fun e => (h.2.1 e).1, h.2.2⟩
theorem P2.few {a j : Nat} {s : Lg} (h : P2 a j s) : s.ns.length < 100000 := by
  obtain ⟨_, _, m, hm, e⟩ := h
  rw [e, seqN_length]; omega
theorem P1.few {a j : Nat} {s : Lg} (h : P1 a j s) : s.ns.length < 100000 := h.two.few
theorem p1_start (a : Nat) : P1 a 0 { Lg.new with ah := (a : Int) } := ⟨by simp [Lg.new], fun _ => ⟨by simp, rfl⟩, 0, by omega, rfl⟩
theorem st_stop {s : Lg} (h : s.st = true) (n : Int) : caB s n = false ∧ caF s n = 6 ∧ caS s n = s := by
  have r : rdy s n = false := by simp [rdy, h]
  exact ⟨by rw [caB, r]; rfl, by rw [caF, if_pos h], by rw [caS, r]; rfl⟩
theorem p1_bad {a j : Nat} {s : Lg} (h : P1 a j s) (hj : j ≤ a) : caB s (-1) = false ∧ caF s (-1) = 1 ∧ caS s (-1) = s := by
  have h0 : s.st = false := by rw [h.1]; simp; omega
  have r : rdy s (-1) = false := by simp [rdy, isN]
  exact ⟨by rw [caB, r]; rfl, by rw [caF, if_neg (by rw [h0]; decide), if_neg (by decide)], by rw [caS, r]; rfl⟩
theorem p1_rdy {a j : Nat} {s : Lg} (h : P1 a j s) (hj : j ≤ a) (ha : a ≤ 20) : rdy s (j : Int) = true ∧ s.st = false ∧ ¬ 12 < (addL (rgN s.ns) (j : Int)).length := by
  have h0 : s.st = false := by rw [h.1]; simp; omega
  have hn := (h.2.1 hj).2
  have hl := rg0_len (j + 1)
  have hi : isN (j : Int) = true := (isN_iff _).2 ⟨by omega, by omega⟩
  have hm := rg0_mem (k := j) (n := (j : Int)) (by omega)
  have e : addL (rgN s.ns) (j : Int) = rg0 (j + 1) := by rw [hn, rg0_is, rg0_add]
  refine ⟨?_, h0, by rw [e]; omega⟩
  have h12 : (rg0 (j + 1)).length ≤ 12 := by omega
  rw [rdy, h0, hi, e, hn, rg0_is, hm, decide_eq_true h12]
  rfl
theorem p1_lt {a j : Nat} {s : Lg} (h : P1 a j s) (hj : j < a) (ha : a ≤ 20) : caB s (j : Int) = true ∧ caF s (j : Int) = 0 ∧ P1 a (j + 1) (caS s (j : Int)) := by
  obtain ⟨r, h0, h12⟩ := p1_rdy h (by omega) ha
  obtain ⟨hah, hn⟩ := h.2.1 (by omega)
  have hne : ¬ s.ah = 0 := by omega
  refine ⟨by rw [caB, r, decide_eq_true hne]; rfl, ?_, ?_⟩
  · rw [caF, if_neg (by rw [h0]; decide), if_pos ((isN_iff _).2 ⟨by omega, by omega⟩), if_neg h12, if_neg (fun e => hne e.2)]
  · rw [caS, if_pos r, if_neg hne]
    refine ⟨?_, fun _ => ⟨?_, ?_⟩, j + 1, by omega, ?_⟩
    · show s.st = _
      rw [h0]; simp; omega
    · show dn s.ah = _
      unfold dn
      rw [hah, if_pos (by omega)]
      omega
    · show s.ns ++ _ = _
      rw [hn, seqN_snoc]
    · show s.ns ++ _ = _
      rw [hn, seqN_snoc]
theorem p1_eq {a : Nat} {s : Lg} (h : P1 a a s) (ha : a ≤ 20) : caB s (a : Int) = false ∧ caF s (a : Int) = 6 ∧ P1 a (a + 1) (caS s (a : Int)) := by
  obtain ⟨r, h0, h12⟩ := p1_rdy h (Nat.le_refl _) ha
  obtain ⟨hah, hn⟩ := h.2.1 (Nat.le_refl _)
  have hz : s.ah = 0 := by omega
  refine ⟨by rw [caB, r, hz]; rfl, ?_, ?_⟩
  · rw [caF, if_neg (by rw [h0]; decide), if_pos ((isN_iff _).2 ⟨by omega, by omega⟩), if_neg h12, if_pos ⟨r, hz⟩]
  · rw [caS, if_pos r, if_pos hz]
    refine ⟨by simp, fun e => by omega, h.2.2⟩
theorem p1_gt {a j : Nat} {s : Lg} (h : P1 a j s) (hj : a < j) : s.st = true ∧ P1 a (j + 1) s := by
  have h0 : s.st = true := by rw [h.1]; simp; omega
  exact ⟨h0, by rw [h0]; simp; omega, fun e => by omega, h.2.2⟩
theorem p2_lt {a j : Nat} {s : Lg} (h : P2 a j s) (hj : j < a) : syF s = 0 ∧ P2 a (j + 1) (syS s) := by
  have h0 : s.st = false := by rw [h.1]; simp; omega
  have hah := h.2.1 (by omega)
  have q0 : ¬ s.st = true := by rw [h0]; decide
  have hne : ¬ s.ah = 0 := by omega
  refine ⟨by rw [syF, if_neg q0, if_neg hne], ?_⟩
  rw [syS, if_neg q0, if_neg hne]
  refine ⟨by show s.st = _; rw [h0]; simp; omega, fun _ => ?_, h.2.2⟩
  show dn s.ah = _
  unfold dn
  rw [hah, if_pos (by omega)]
  omega
theorem p2_eq {a : Nat} {s : Lg} (h : P2 a a s) : syF s = 6 ∧ P2 a (a + 1) (syS s) := by
  have h0 : s.st = false := by rw [h.1]; simp
  have hah := h.2.1 (Nat.le_refl _)
  have q0 : ¬ s.st = true := by rw [h0]; decide
  have hz : s.ah = 0 := by omega
  refine ⟨by rw [syF, if_neg q0, if_pos hz], ?_⟩
  rw [syS, if_neg q0, if_pos hz]
  exact ⟨by simp, fun e => by omega, h.2.2⟩
theorem p2_end {a j : Nat} {s : Lg} (h : P2 a j s) (hj : a < j) : syF s = 6 ∧ syS s = s ∧ caB s 3 = false ∧ caF s 3 = 6 ∧ caS s 3 = s := by
  have h0 : s.st = true := by rw [h.1]; simp; omega
  obtain ⟨e1, e2, e3⟩ := st_stop h0 3
  exact ⟨by rw [syF, if_pos h0], by rw [syS, if_pos h0], e1, e2, e3⟩
theorem p2_crash {a j : Nat} {s : Lg} (h : P2 a j s) (n : Int) : ∃ m, m ≤ 20 ∧ crS s n = ⟨seqN m, [], 4 * crN s n, -1, false⟩ := by
  obtain ⟨_, _, m, hm, e⟩ := h
  refine ⟨min (crN s n) m, by omega, ?_⟩
  unfold crS
  rw [e, seqN_take]
theorem p3 {m : Nat} (hm : m ≤ 20) (q : Nat) : caB ⟨seqN m, [], q, -1, false⟩ 500 = true ∧ caF ⟨seqN m, [], q, -1, false⟩ 500 = 0 ∧ caS ⟨seqN m, [], q, -1, false⟩ 500 = ⟨seqN m ++ [500], [], q, -1, false⟩ := by
  obtain ⟨h1, h2⟩ := rg0_500 hm
  have hm5 := rg0_mem (k := m) (n := 500) (by omega)
  have r : rdy ⟨seqN m, [], q, -1, false⟩ 500 = true := by simp [rdy, rg0_is, h1, hm5, isN]
  refine ⟨by rw [caB, r]; rfl, ?_, ?_⟩
  · rw [caF, if_neg (by simp), if_pos (by decide), if_neg (by show ¬ 12 < (addL (rgN (seqN m)) 500).length; rw [rg0_is]; omega), if_neg (fun e => by have := e.2; simp at this)]
  · rw [caS, if_pos r, if_neg (by simp)]
    rfl
theorem p4 (m q : Nat) : syF ⟨seqN m ++ [500], [], q, -1, false⟩ = 0 ∧ syS ⟨seqN m ++ [500], [], q, -1, false⟩ = ⟨seqN m ++ [500], [], 4 * (seqN m ++ [500]).length, -1, false⟩ := by
  refine ⟨by rw [syF, if_neg (by simp), if_neg (by simp)], ?_⟩
  rw [syS, if_neg (by simp), if_neg (by simp)]
  rfl
theorem p5 {m : Nat} (hm : m ≤ 20) : memB (rgN (seqN m ++ [500])) 500 = true := by
  rw [rgN_snoc, rg0_is]
  exact (rg0_500 hm).2
theorem p6 (m : Nat) : (⟨seqN m ++ [500], [], 4 * (seqN m ++ [500]).length, -1, false⟩ : Lg).bs.length = 4 * (seqN m ++ [500]).length := by rw [Lg.bs_length]; rfl
end Go.Proofs.YtegelodkopommaaDoor
