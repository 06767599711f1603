/- What Next of package trip answers where nothing is refused. -/
import Derived.Test.YtfiaibifollmdaaDoorA
import Derived.BigRegion
import Derived.StillTailTactics
namespace Go.Proofs.YtfiaibifollmdaaDoor
open Go.RowKit Go.Lib Go.Sort
set_option linter.unusedVariables false
set_option linter.unusedSimpArgs false

theorem wrap_small (x : Int) (h0 : -1000000000 ≤ x) (h1 : x ≤ 1000000000) : IntKind.i64.wrap x = x := by simp [IntKind.wrap, IntKind.bits, IntKind.signed]; omega
theorem wp_still_tail {P : Program} {id : Nat} {Q : Exit → Act → World → Prop} {a : Act} {w : World} {l : List Oper} (n : Nat) (hm : P.follows .mixedOrders = true) (hB : Region.lexTailB .any l.toArray n = true)
    (h : wpStill P l.toArray w.drew (fun a' => wpList P l.toArray Q (l.drop n) a' w.drew) (l.take n) a) : (Code.region id l.toArray true).wp P Q a w :=
  wp_region_still_tail n hm hB h

set_option maxRecDepth 100000 in
set_option maxHeartbeats 2000000 in
theorem next_11 (s v l n d : Int) (w : World) (h : nextB s v l n d = true) (c1 : n < l) (c2 : n ≤ n - d) :
    Calls Tryd.prog 8 #[trip s v l, .int .i64 n, .int .i64 d] w fun e w' => e = .returned (.tuple #[trip (s - s / 8 + (n - d)) (v - v / 4 + 2 * far (n - d) (s / 8)) n, .nilIface]) ∧ Below w.heap.size w w' := by
  obtain ⟨h1, h2, h3⟩ := nextB_yes h
  obtain ⟨r1, r2, r3, r4, r5, r6⟩ := rightB_yes h1
  obtain ⟨t1, t2⟩ := timeB_yes h2
  obtain ⟨d1, d2⟩ := delayB_yes h3
  clear h
  go_enter Tryd.func8, Tryd.ntmps8
  go_wp2_with (first | (go_at_call 12; refine (isRight_calls s v l _).mono ?_; rintro e w1 ⟨rfl, rfl⟩; rw [h1]) | (go_at_call 10; refine (isTime_calls n _).mono ?_; rintro e w1 ⟨rfl, rfl⟩; rw [h2]) | (go_at_call 13; refine (isDelay_calls d _).mono ?_; rintro e w1 ⟨rfl, rfl⟩; rw [h3]))
  refine wp_still_tail 20 mixed (by kernel_rfl) ?_
  simp only [List.take_succ_cons, List.take_zero, List.drop_succ_cons, List.drop_zero]
  have hq : 0 ≤ s / 8 ∧ s / 8 ≤ 100000 := by omega
  have hv : 0 ≤ v / 4 ∧ v / 4 ≤ v := by omega
  have hf := far_bd (n - d) (s / 8)
  have u1 := wrap_small (s - s / 8) (by omega) (by omega)
  have u2 := wrap_small (s - s / 8 + (n - d)) (by omega) (by omega)
  have u3 := wrap_small (v - v / 4) (by omega) (by omega)
  have u4 := wrap_small (2 * far (n - d) (s / 8)) (by omega) (by omega)
  have u5 := wrap_small (v - v / 4 + 2 * far (n - d) (s / 8)) (by omega) (by omega)
  have u6 : ¬ (800000 < v - v / 4 + 2 * far (n - d) (s / 8)) := by omega
  have hc := fun wx => apart_calls (n - d) (s / 8) wx (by omega) (by omega) (by omega) (by omega)

  repeat (first | still_step | still_call (hc _))
  refine wpStill_nil ?_
  go_wp2
  all_goals (try (exfalso; omega))
  all_goals (try simp only [Exit.inBlock, Exit.then])
  all_goals refine bodyPost_ret (v := .tuple #[trip (s - s / 8 + (n - d)) (v - v / 4 + 2 * far (n - d) (s / 8)) n, .nilIface]) ?_ rfl ⟨rfl, ?_⟩
  all_goals first
    | (rw [results_cell_tmp rfl]; go_simp)
    | (repeat (first | exact Below.refl _ _ | (refine Below.drew ?_) | (refine Below.alloc ?_ (by simp <;> omega) _) | (refine Below.setCell ?_ (by simp <;> omega) _)))
set_option maxRecDepth 100000 in
set_option maxHeartbeats 2000000 in
theorem next_12 (s v l n d : Int) (w : World) (h : nextB s v l n d = true) (c1 : n < l) (c2 : n - d < n) :
    Calls Tryd.prog 8 #[trip s v l, .int .i64 n, .int .i64 d] w fun e w' => e = .returned (.tuple #[trip (s - s / 8 + (n)) (v - v / 4 + 2 * far (n) (s / 8)) n, .nilIface]) ∧ Below w.heap.size w w' := by
  obtain ⟨h1, h2, h3⟩ := nextB_yes h
  obtain ⟨r1, r2, r3, r4, r5, r6⟩ := rightB_yes h1
  obtain ⟨t1, t2⟩ := timeB_yes h2
  obtain ⟨d1, d2⟩ := delayB_yes h3
  clear h
  go_enter Tryd.func8, Tryd.ntmps8
  go_wp2_with (first | (go_at_call 12; refine (isRight_calls s v l _).mono ?_; rintro e w1 ⟨rfl, rfl⟩; rw [h1]) | (go_at_call 10; refine (isTime_calls n _).mono ?_; rintro e w1 ⟨rfl, rfl⟩; rw [h2]) | (go_at_call 13; refine (isDelay_calls d _).mono ?_; rintro e w1 ⟨rfl, rfl⟩; rw [h3]))
  refine wp_still_tail 20 mixed (by kernel_rfl) ?_
  simp only [List.take_succ_cons, List.take_zero, List.drop_succ_cons, List.drop_zero]
  have hq : 0 ≤ s / 8 ∧ s / 8 ≤ 100000 := by omega
  have hv : 0 ≤ v / 4 ∧ v / 4 ≤ v := by omega
  have hf := far_bd (n) (s / 8)
  have u1 := wrap_small (s - s / 8) (by omega) (by omega)
  have u2 := wrap_small (s - s / 8 + (n)) (by omega) (by omega)
  have u3 := wrap_small (v - v / 4) (by omega) (by omega)
  have u4 := wrap_small (2 * far (n) (s / 8)) (by omega) (by omega)
  have u5 := wrap_small (v - v / 4 + 2 * far (n) (s / 8)) (by omega) (by omega)
  have u6 : ¬ (800000 < v - v / 4 + 2 * far (n) (s / 8)) := by omega
  have hc := fun wx => apart_calls (n) (s / 8) wx (by omega) (by omega) (by omega) (by omega)

  repeat (first | still_step | still_call (hc _))
  refine wpStill_nil ?_
  go_wp2
  all_goals (try (exfalso; omega))
  all_goals (try simp only [Exit.inBlock, Exit.then])
  all_goals refine bodyPost_ret (v := .tuple #[trip (s - s / 8 + (n)) (v - v / 4 + 2 * far (n) (s / 8)) n, .nilIface]) ?_ rfl ⟨rfl, ?_⟩
  all_goals first
    | (rw [results_cell_tmp rfl]; go_simp)
    | (repeat (first | exact Below.refl _ _ | (refine Below.drew ?_) | (refine Below.alloc ?_ (by simp <;> omega) _) | (refine Below.setCell ?_ (by simp <;> omega) _)))
set_option maxRecDepth 100000 in
set_option maxHeartbeats 2000000 in
theorem next_21 (s v l n d : Int) (w : World) (h : nextB s v l n d = true) (c1 : l ≤ n) (c2 : l ≤ n - d) :
    Calls Tryd.prog 8 #[trip s v l, .int .i64 n, .int .i64 d] w fun e w' => e = .returned (.tuple #[trip (s - s / 8 + (n - d)) (v - v / 4 + 2 * far (n - d) (s / 8)) l, .nilIface]) ∧ Below w.heap.size w w' := by
  obtain ⟨h1, h2, h3⟩ := nextB_yes h
  obtain ⟨r1, r2, r3, r4, r5, r6⟩ := rightB_yes h1
  obtain ⟨t1, t2⟩ := timeB_yes h2
  obtain ⟨d1, d2⟩ := delayB_yes h3
  clear h
  go_enter Tryd.func8, Tryd.ntmps8
  go_wp2_with (first | (go_at_call 12; refine (isRight_calls s v l _).mono ?_; rintro e w1 ⟨rfl, rfl⟩; rw [h1]) | (go_at_call 10; refine (isTime_calls n _).mono ?_; rintro e w1 ⟨rfl, rfl⟩; rw [h2]) | (go_at_call 13; refine (isDelay_calls d _).mono ?_; rintro e w1 ⟨rfl, rfl⟩; rw [h3]))
  refine wp_still_tail 20 mixed (by kernel_rfl) ?_
  simp only [List.take_succ_cons, List.take_zero, List.drop_succ_cons, List.drop_zero]
  have hq : 0 ≤ s / 8 ∧ s / 8 ≤ 100000 := by omega
  have hv : 0 ≤ v / 4 ∧ v / 4 ≤ v := by omega
  have hf := far_bd (n - d) (s / 8)
  have u1 := wrap_small (s - s / 8) (by omega) (by omega)
  have u2 := wrap_small (s - s / 8 + (n - d)) (by omega) (by omega)
  have u3 := wrap_small (v - v / 4) (by omega) (by omega)
  have u4 := wrap_small (2 * far (n - d) (s / 8)) (by omega) (by omega)
  have u5 := wrap_small (v - v / 4 + 2 * far (n - d) (s / 8)) (by omega) (by omega)
  have u6 : ¬ (800000 < v - v / 4 + 2 * far (n - d) (s / 8)) := by omega
  have hc := fun wx => apart_calls (n - d) (s / 8) wx (by omega) (by omega) (by omega) (by omega)

  repeat (first | still_step | still_call (hc _))
  refine wpStill_nil ?_
  go_wp2
  all_goals (try (exfalso; omega))
  all_goals (try simp only [Exit.inBlock, Exit.then])
  all_goals refine bodyPost_ret (v := .tuple #[trip (s - s / 8 + (n - d)) (v - v / 4 + 2 * far (n - d) (s / 8)) l, .nilIface]) ?_ rfl ⟨rfl, ?_⟩
  all_goals first
    | (rw [results_cell_tmp rfl]; go_simp)
    | (repeat (first | exact Below.refl _ _ | (refine Below.drew ?_) | (refine Below.alloc ?_ (by simp <;> omega) _) | (refine Below.setCell ?_ (by simp <;> omega) _)))
set_option maxRecDepth 100000 in
set_option maxHeartbeats 2000000 in
theorem next_22 (s v l n d : Int) (w : World) (h : nextB s v l n d = true) (c1 : l ≤ n) (c2 : n - d < l) :
    Calls Tryd.prog 8 #[trip s v l, .int .i64 n, .int .i64 d] w fun e w' => e = .returned (.tuple #[trip (s - s / 8 + (n)) (v - v / 4 + 2 * far (n) (s / 8)) l, .nilIface]) ∧ Below w.heap.size w w' := by
  obtain ⟨h1, h2, h3⟩ := nextB_yes h
  obtain ⟨r1, r2, r3, r4, r5, r6⟩ := rightB_yes h1
  obtain ⟨t1, t2⟩ := timeB_yes h2
  obtain ⟨d1, d2⟩ := delayB_yes h3
  clear h
  go_enter Tryd.func8, Tryd.ntmps8
  go_wp2_with (first | (go_at_call 12; refine (isRight_calls s v l _).mono ?_; rintro e w1 ⟨rfl, rfl⟩; rw [h1]) | (go_at_call 10; refine (isTime_calls n _).mono ?_; rintro e w1 ⟨rfl, rfl⟩; rw [h2]) | (go_at_call 13; refine (isDelay_calls d _).mono ?_; rintro e w1 ⟨rfl, rfl⟩; rw [h3]))
  refine wp_still_tail 20 mixed (by kernel_rfl) ?_
  simp only [List.take_succ_cons, List.take_zero, List.drop_succ_cons, List.drop_zero]
  have hq : 0 ≤ s / 8 ∧ s / 8 ≤ 100000 := by omega
  have hv : 0 ≤ v / 4 ∧ v / 4 ≤ v := by omega
  have hf := far_bd (n) (s / 8)
  have u1 := wrap_small (s - s / 8) (by omega) (by omega)
  have u2 := wrap_small (s - s / 8 + (n)) (by omega) (by omega)
  have u3 := wrap_small (v - v / 4) (by omega) (by omega)
  have u4 := wrap_small (2 * far (n) (s / 8)) (by omega) (by omega)
  have u5 := wrap_small (v - v / 4 + 2 * far (n) (s / 8)) (by omega) (by omega)
  have u6 : ¬ (800000 < v - v / 4 + 2 * far (n) (s / 8)) := by omega
  have hc := fun wx => apart_calls (n) (s / 8) wx (by omega) (by omega) (by omega) (by omega)

  repeat (first | still_step | still_call (hc _))
  refine wpStill_nil ?_
  go_wp2
  all_goals (try (exfalso; omega))
  all_goals (try simp only [Exit.inBlock, Exit.then])
  all_goals refine bodyPost_ret (v := .tuple #[trip (s - s / 8 + (n)) (v - v / 4 + 2 * far (n) (s / 8)) l, .nilIface]) ?_ rfl ⟨rfl, ?_⟩
  all_goals first
    | (rw [results_cell_tmp rfl]; go_simp)
    | (repeat (first | exact Below.refl _ _ | (refine Below.drew ?_) | (refine Below.alloc ?_ (by simp <;> omega) _) | (refine Below.setCell ?_ (by simp <;> omega) _)))
theorem next_yes (s v l n d : Int) (w : World) (h : nextB s v l n d = true) :
    Calls Tryd.prog 8 #[trip s v l, .int .i64 n, .int .i64 d] w fun e w' => e = .returned (.tuple #[trip (smo s l n d) (vry s v l n d) (lst l n), .nilIface]) ∧ Below w.heap.size w w' := by
  by_cases c1 : n < l
  · have e1 : lst l n = n := if_pos c1
    by_cases c2 : n ≤ n - d
    · have e2 : tim l n d = n - d := by unfold tim; rw [e1, if_pos c2]
      unfold smo vry; rw [e1, e2]; exact next_11 s v l n d w h c1 c2
    · have e2 : tim l n d = n := by unfold tim; rw [e1, if_neg c2]
      unfold smo vry; rw [e1, e2]; exact next_12 s v l n d w h c1 (by omega)
  · have e1 : lst l n = l := if_neg c1
    by_cases c2 : l ≤ n - d
    · have e2 : tim l n d = n - d := by unfold tim; rw [e1, if_pos c2]
      unfold smo vry; rw [e1, e2]; exact next_21 s v l n d w h (by omega) c2
    · have e2 : tim l n d = n := by unfold tim; rw [e1, if_neg c2]
      unfold smo vry; rw [e1, e2]; exact next_22 s v l n d w h (by omega) (by omega)
theorem next_no (s v l n d : Int) (w : World) (h : nextB s v l n d = false) :
    Calls Tryd.prog 8 #[trip s v l, .int .i64 n, .int .i64 d] w fun e w' => e = .returned (.tuple #[trip 0 0 0, .iface 36 (.int .i64 1)]) ∧ Below w.heap.size w w' := by
  cases h1 : rightB s v l with
  | false => exact next_no1 s v l n d w h1
  | true => cases h2 : timeB n with
    | false => exact next_no2 s v l n d w h1 h2
    | true => cases h3 : delayB d with
      | false => exact next_no3 s v l n d w h1 h2 h3
      | true => simp [nextB, h1, h2, h3] at h
end Go.Proofs.YtfiaibifollmdaaDoor
