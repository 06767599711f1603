/- The walk of the law ProofMany. -/
import Derived.Test.YtkfhfljoalbkkaaDoorC
import Derived.Test.YtkfhfljoalbkkaaDoorK
namespace Go.Proofs.YtkfhfljoalbkkaaDoor
open Go.RowKit Go.Lib Go.Sort
set_option linter.unusedVariables false
set_option linter.unusedSimpArgs false

def asks (m : Nat) : List T := (List.range m).map (fun j : Nat => ((j : Int) % 4, (j : Int), (5 : Int)))
theorem asks_length (m : Nat) : (asks m).length = m := by simp [asks]
theorem asks_next (m : Nat) : asks (m + 1) = asks m ++ [((m : Int) % 4, (m : Int), 5)] := by simp [asks, List.range_succ]
theorem asks_not {m k : Nat} (h : m ≤ k) : isIn (asks m) (k : Int) = false := by
  refine isIn_not fun x hx e => ?_
  simp only [asks, List.mem_map, List.mem_range] at hx
  obtain ⟨j, hj, rfl⟩ := hx
  have e : (j : Int) = (k : Int) := e
  omega
theorem asks_right {k : Nat} (h : k ≤ 20) : rightB ((k : Int) % 4) (k : Int) 5 = true := right_mk (by omega) (by omega) (by omega)
def up8 (k : Nat) : Nat := if k < 8 then k else 8
theorem many_ask {w : World} {B sb bm k : Nat} (h : Obj w B sb bm (asks k)) (hk : k < 8) :
    Calls Tryd.prog 7 #[.pointer (some ⟨sb, 0, none⟩), .int .i64 ((k : Int) % 4), .int .i64 (k : Int), .int .i64 5] w fun e w' => e = .returned .nilIface ∧ Obj w' B sb bm (asks (k + 1)) ∧ Below B w w' := by
  have hc := ask_yes h ((k : Int) % 4) (k : Int) 5 (asks_right (by omega)) (asks_not (Nat.le_refl _)) (by rw [asks_length]; omega)
  rw [← asks_next] at hc
  exact hc.mono fun e w' ⟨he, hO, ho⟩ => ⟨he, hO, ho.below (fun k hk => h.ge hk) h.le⟩
theorem many_none {w : World} {B sb bm k : Nat} (h : Obj w B sb bm (asks 8)) (hk : 8 ≤ k) (h20 : k ≤ 20) :
    Calls Tryd.prog 7 #[.pointer (some ⟨sb, 0, none⟩), .int .i64 ((k : Int) % 4), .int .i64 (k : Int), .int .i64 5] w fun e w' => e = .returned (.iface 48 (.int .i64 4)) ∧ Below w.heap.size w w' :=
  ask_full h ((k : Int) % 4) (k : Int) 5 (asks_right h20) (asks_not hk) (by rw [asks_length]; omega)

set_option maxRecDepth 100000 in
set_option maxHeartbeats 2000000 in
theorem many_lo (n : Int) (w : World) (c : n < 0) : Calls Tryd.prog 4 #[.int .i64 n] w fun e w' => e = .returned (.bool true) ∧ Below w.heap.size w w' := by
  go_enter Tryd.func4, Tryd.ntmps4
  go_wp2_with (first | (go_at_call 6; refine (new_calls _).mono ?_; rintro e w1 ⟨sb, bm, rfl, hO1, hb1⟩) | (go_at_call 9; refine (open_calls hO1).mono ?_; rintro e w2 ⟨rfl, rfl⟩))
  go_ret
  exact ⟨by simp, hb1⟩

set_option maxRecDepth 100000 in
set_option maxHeartbeats 2000000 in
theorem many_hi (n : Int) (w : World) (c : 20 < n) : Calls Tryd.prog 4 #[.int .i64 n] w fun e w' => e = .returned (.bool true) ∧ Below w.heap.size w w' := by
  go_enter Tryd.func4, Tryd.ntmps4
  go_wp2_with (first | (go_at_call 6; refine (new_calls _).mono ?_; rintro e w1 ⟨sb, bm, rfl, hO1, hb1⟩) | (go_at_call 9; refine (open_calls hO1).mono ?_; rintro e w2 ⟨rfl, rfl⟩))
  go_ret
  exact ⟨by simp, hb1⟩

set_option maxRecDepth 100000 in
set_option maxHeartbeats 2000000 in
theorem many_in (m : Nat) (w : World) (hH : Handle w) (hm : m ≤ 20) : Calls Tryd.prog 4 #[.int .i64 (m : Int)] w fun e w' => e = .returned (.bool true) ∧ Below w.heap.size w w' := by
  go_enter Tryd.func4, Tryd.ntmps4
  go_wp2_with (go_at_call 6; refine (new_calls _).mono ?_; rintro e w1 ⟨sb, bm, rfl, hO0, hB0⟩)
  go_loopw [4] (fun i wr => ∃ k : Nat, k ≤ m ∧ i = .int .i64 k ∧ Obj wr w.heap.size sb bm (asks (up8 k)) ∧ Below w.heap.size w wr) (fun i _ => m - (intOf i).toNat)
  case atStart => exact ⟨0, by omega, rfl, hO0, hB0⟩
  case round =>
    clear hO0 hB0
    obtain ⟨k, hk, rfl, hO, hB⟩ := hrel
    by_cases g1 : (k : Int) < (m : Int)
    · by_cases g2 : (k : Int) < 8
      · rw [show up8 k = k by unfold up8; split <;> omega] at hO
        have hcon := many_ask hO (by omega)
        have e1 : up8 (k + 1) = k + 1 := by unfold up8; split <;> omega
        go_wp2_with (go_at_call 7; refine hcon.mono ?_; rintro e w2 ⟨rfl, hO2, hb2⟩)
        exact ⟨⟨k + 1, by omega, by go_num, by rw [e1]; exact hO2, hB.trans hb2⟩, by simp [intOf]; omega⟩
      · have e0 : up8 k = 8 := by unfold up8; split <;> omega
        rw [e0] at hO
        have hcon := many_none hO (show 8 ≤ k by omega) (by omega)
        have e1 : up8 (k + 1) = 8 := by unfold up8; split <;> omega
        go_wp2_with (first | (go_at_call 7; refine hcon.mono ?_; rintro e w2 ⟨rfl, hb2⟩; have hB2 := hB.trans (hb2.mono hB.size)) | (go_at_call 10; refine (same_err 4 4 _ (hH.below hB2)).mono ?_; rintro e w3 ⟨rfl, hb3⟩))
        exact ⟨⟨k + 1, by omega, by go_num, by rw [e1]; exact (hO.below hb2).below hb3, hB2.trans (hb3.mono hB2.size)⟩, by simp [intOf]; omega⟩
    · have ek : k = m := by omega
      subst ek
      by_cases g2 : 8 < (k : Int)
      · have e0 : up8 k = 8 := by unfold up8; split <;> omega
        rw [e0] at hO
        have hop := open_calls hO
        rw [asks_length] at hop
        go_wp2_with (go_at_call 9; refine hop.mono ?_; rintro e w2 ⟨rfl, rfl⟩)
        go_ret
        exact ⟨by simp, hB⟩
      · have e0 : up8 k = k := by unfold up8; split <;> omega
        rw [e0] at hO
        have hop := open_calls hO
        rw [asks_length] at hop
        go_wp2_with (go_at_call 9; refine hop.mono ?_; rintro e w2 ⟨rfl, rfl⟩)
        go_ret
        exact ⟨by simp, hB⟩
theorem many_walk (n : Int) (w : World) (hH : Handle w) : Calls Tryd.prog 4 #[.int .i64 n] w fun e w' => e = .returned (.bool true) ∧ Below w.heap.size w w' := by
  by_cases h0 : n < 0
  · exact many_lo n w h0
  · by_cases h1 : 20 < n
    · exact many_hi n w h1
    · obtain ⟨m, rfl⟩ : ∃ m : Nat, n = (m : Int) := ⟨n.toNat, by omega⟩
      exact many_in m w hH (by omega)
end Go.Proofs.YtkfhfljoalbkkaaDoor
