/- The walk of the law IDsFull. -/
import Derived.Test.YtlmllfakoglbcaaDoorF
import Derived.Test.YtlmllfakoglbcaaDoorK
namespace Go.Proofs.YtlmllfakoglbcaaDoor
open Go.RowKit Go.Lib Go.Sort Go.Shelf
set_option linter.unusedVariables false
set_option linter.unusedSimpArgs false

def upto (m : Nat) : List Int := (List.range m).map (fun j : Nat => (j : Int))
def pairs (m : Nat) : List R := (List.range m).map (fun j : Nat => ((j : Int), (j : Int)))
theorem upto_length (m : Nat) : (upto m).length = m := by simp [upto]
theorem pairs_length (m : Nat) : (pairs m).length = m := by simp [pairs]
theorem upto_next (m : Nat) : upto (m + 1) = upto m ++ [(m : Int)] := by simp [upto, List.range_succ]
theorem pairs_next (m : Nat) : pairs (m + 1) = pairs m ++ [((m : Int), (m : Int))] := by simp [pairs, List.range_succ]
theorem upto_not {m k : Nat} (h : m ≤ k) : (k : Int) ∉ upto m := by
  intro e
  simp [upto] at e
  omega
theorem full_yes (l : Nat) : fullB (l : Int) (upto l) (pairs l) = true := by simp [fullB, pairs_length]
theorem full_no {l k : Nat} (h : k < l) (h8 : l ≤ 8) : fullB (l : Int) (upto k) (pairs k) = false := by simp [fullB, pairs_length, upto_length]; omega
/-- One more is issued: the next number, if there is room. -/
def upK (l k : Nat) : Nat := if k < l then k else l
theorem full_issue {w : World} {B sb bm l k : Nat} {v : Value} (h : Obj w B sb bm v (l : Int) (upto k) (pairs k)) (hk : k < l) (h8 : l ≤ 8) :
    Calls Tryd.prog 7 #[.pointer (some ⟨sb, 0, none⟩), .int .i64 (k : Int)] w fun e w' => e = .returned (.tuple #[.agg #[.int .i64 (k : Int), .int .i64 (k : Int)], .nilIface]) ∧ ∃ v', Obj w' B sb bm v' (l : Int) (upto (k + 1)) (pairs (k + 1)) ∧ Below B w w' := by
  have hc := issue_yes h (k : Int) (decide_eq_true (by omega)) (upto_not (Nat.le_refl _)) (full_no hk h8)
  rw [upto_length, ← upto_next, ← pairs_next] at hc
  exact hc.mono fun e w' ⟨he, v', hO, ho, _⟩ => ⟨he, v', hO, ho.below (fun k hk => h.ge hk) h.le⟩
theorem full_none {w : World} {B sb bm l k : Nat} {v : Value} (h : Obj w B sb bm v (l : Int) (upto l) (pairs l)) (hk : l ≤ k) (h8 : k ≤ 9) :
    Calls Tryd.prog 7 #[.pointer (some ⟨sb, 0, none⟩), .int .i64 (k : Int)] w fun e w' => e = .returned (.tuple #[.agg #[.int .i64 0, .int .i64 0], .iface 48 (.int .i64 4)]) ∧ Below w.heap.size w w' :=
  issue_full h (k : Int) (decide_eq_true (by omega)) (upto_not hk) (full_yes l)
theorem new_nat (l : Nat) (w : World) (h1 : 1 ≤ l) (h8 : l ≤ 8) : Calls Tryd.prog 6 #[.int .i64 (l : Int)] w fun e w' => ∃ sb bm v, e = .returned (.tuple #[.pointer (some ⟨sb, 0, none⟩), .nilIface]) ∧ Obj w' w.heap.size sb bm v (l : Int) (upto 0) (pairs 0) ∧ Below w.heap.size w w' :=
  (new_yes (l : Int) w (decide_eq_true (by omega))).mono fun e w' ⟨he, hO, hb⟩ => ⟨_, _, _, he, hO, hb⟩

set_option maxRecDepth 100000 in
set_option maxHeartbeats 2000000 in
theorem full_no1 (n : Int) (w : World) (h : limitB n = false) (c : n < 1) : Calls Tryd.prog 4 #[.int .i64 n] w fun e w' => e = .returned (.bool true) ∧ Below w.heap.size w w' := by
  go_enter Tryd.func4, Tryd.ntmps4
  go_wp2_with (go_at_call 6; refine (new_no n _ h).mono ?_; rintro e w1 ⟨rfl, rfl⟩)
  go_ret
  exact ⟨by simp <;> omega, Below.refl _ _⟩
set_option maxRecDepth 100000 in
set_option maxHeartbeats 2000000 in
theorem full_no2 (n : Int) (w : World) (h : limitB n = false) (c : 8 < n) : Calls Tryd.prog 4 #[.int .i64 n] w fun e w' => e = .returned (.bool true) ∧ Below w.heap.size w w' := by
  go_enter Tryd.func4, Tryd.ntmps4
  go_wp2_with (go_at_call 6; refine (new_no n _ h).mono ?_; rintro e w1 ⟨rfl, rfl⟩)
  go_ret
  exact ⟨by simp <;> omega, Below.refl _ _⟩
set_option maxRecDepth 100000 in
set_option maxHeartbeats 2000000 in
theorem full_yes_walk (l : Nat) (w : World) (hH : Handle w) (h1 : 1 ≤ l) (h8 : l ≤ 8) : Calls Tryd.prog 4 #[.int .i64 (l : Int)] w fun e w' => e = .returned (.bool true) ∧ Below w.heap.size w w' := by
  go_enter Tryd.func4, Tryd.ntmps4
  go_wp2_with (go_at_call 6; refine (new_nat l _ h1 h8).mono ?_; rintro e w1 ⟨sb, bm, v0, rfl, hO0, hB0⟩)
  go_loopw [5] (fun i wr => ∃ k : Nat, k ≤ 9 ∧ i = .int .i64 k ∧ ∃ v, Obj wr w.heap.size sb bm v (l : Int) (upto (upK l k)) (pairs (upK l k)) ∧ Below w.heap.size w wr) (fun i _ => 9 - (intOf i).toNat)
  case atStart => exact ⟨0, by omega, rfl, v0, by rw [show upK l 0 = 0 by unfold upK; split <;> omega]; exact hO0, hB0⟩
  case round =>
    clear hO0 hB0
    obtain ⟨k, hk, rfl, v, hO, hB⟩ := hrel
    by_cases g1 : (k : Int) < 9
    · by_cases g2 : (k : Int) < (l : Int)
      · rw [show upK l k = k by unfold upK; split <;> omega] at hO
        have hcon := full_issue hO (by omega) h8
        have e1 : upK l (k + 1) = k + 1 := by unfold upK; split <;> omega
        go_wp2_with (go_at_call 7; refine hcon.mono ?_; rintro e w2 ⟨rfl, v2, hO2, hb2⟩)
        have hB2 := hB.trans hb2
        exact ⟨⟨k + 1, by omega, by go_num, v2, by rw [e1]; exact hO2.below ((Below.refl _ _).alloc (Nat.le_refl _) _), hB2.alloc hO2.le _⟩, by simp [intOf]; omega⟩
      · have e0 : upK l k = l := by unfold upK; split <;> omega
        rw [e0] at hO
        have hcon := full_none hO (by omega) hk
        have e1 : upK l (k + 1) = l := by unfold upK; split <;> omega
        go_wp2_with (first | (go_at_call 7; refine hcon.mono ?_; rintro e w2 ⟨rfl, hb2⟩; have hB2 := hB.trans (hb2.mono hB.size); have hB3 := hB2.alloc hB2.size (.cells #[.int .i64 0, .int .i64 0] 29)) | (go_at_call 9; refine (same_err 4 4 _ (hH.below hB3)).mono ?_; rintro e w3 ⟨rfl, hb3⟩))
        have hO2 := ((hO.below hb2).below ((Below.refl _ _).alloc (Nat.le_refl _) (.cells #[.int .i64 0, .int .i64 0] 29))).below hb3
        exact ⟨⟨k + 1, by omega, by go_num, v, by rw [e1]; exact hO2, hB3.trans (hb3.mono hB3.size)⟩, by simp [intOf]; omega⟩
    · have e0 : upK l k = l := by unfold upK; split <;> omega
      rw [e0] at hO
      have hf := find_no1 hO (l : Int) (WalkArith.wf_i64 (by omega)) (upto_not (Nat.le_refl _))
      go_wp2_with (first
        | (go_at_call 10; refine hf.mono ?_; rintro e w2 ⟨rfl, hb2⟩; have hB2 := hB.trans (hb2.mono hB.size); have hB3 := hB2.alloc hB2.size (.cells #[.int .i64 0, .int .i64 0] 29); have hO3 := (hO.below hb2).below ((Below.refl _ _).alloc (Nat.le_refl _) (.cells #[.int .i64 0, .int .i64 0] 29)))
        | (go_at_call 11; refine (live_calls hO3).mono ?_; rintro e w3 ⟨u, rfl, hu, hb3⟩; rw [pairs_length] at hu; obtain ⟨gu, cu, rfl⟩ := own_shape hu (by omega); have hB4 := hB3.trans (hb3.mono hB3.size))
        | (go_at_call 9; refine (same_err 5 5 _ (hH.below hB4)).mono ?_; rintro e w4 ⟨rfl, hb4⟩))
      go_ret
      exact ⟨by simp, hB4.trans (hb4.mono hB4.size)⟩
theorem full_walk (n : Int) (w : World) (hH : Handle w) : Calls Tryd.prog 4 #[.int .i64 n] w fun e w' => e = .returned (.bool true) ∧ Below w.heap.size w w' := by
  cases h : limitB n with
  | true =>
    obtain ⟨h1, h8⟩ := limitB_yes h
    obtain ⟨l, rfl⟩ : ∃ l : Nat, n = (l : Int) := ⟨n.toNat, by omega⟩
    exact full_yes_walk l w hH (by omega) (by omega)
  | false =>
    rcases limitB_no h with c | c
    · exact full_no1 n w h c
    · exact full_no2 n w h c
end Go.Proofs.YtlmllfakoglbcaaDoor
