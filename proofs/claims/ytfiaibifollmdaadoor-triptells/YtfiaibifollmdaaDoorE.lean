/- What the document's Trip and Next answer; whether two trips are the same. -/
import Derived.Test.YtfiaibifollmdaaDoorB
import Derived.Laws.StructEq
namespace Go.Proofs.YtfiaibifollmdaaDoor
open Go.RowKit Go.Lib Go.Sort
set_option linter.unusedVariables false
set_option linter.unusedSimpArgs false

theorem results_cell1 {fn : Func} {p : Tmp} {ty : TypeId} (h : fn.results = #[.cell p ty]) (tmps : Array Value) (P : Program) (w : World) :
    (results fn tmps).run P w = ((asAddr (tmps.getD p undef)).run P w).andThen fun a w₁ => (loadVar ty a).run P w₁ := by
  simp only [results, h]
  simp [Sem.run_bind, Result.andThen]

set_option maxRecDepth 100000 in
set_option maxHeartbeats 2000000 in
theorem rtrip_0 (s v l : Int) (w : World)  (h1 : s < 8) : Calls Tryd.prog 6 #[trip s v l] w fun e w' => e = .returned (.bool false) ∧ w' = (w.alloc (.cells #[.int .i64 s, .int .i64 v, .int .i64 l] 23)) := by
  go_enter Tryd.func6, Tryd.ntmps6
  go_wp2
  go_ret
  exact ⟨by simp <;> omega, rfl⟩
set_option maxRecDepth 100000 in
set_option maxHeartbeats 2000000 in
theorem rtrip_1 (s v l : Int) (w : World) (h1 : 8 ≤ s) (h2 : 800000 < s) : Calls Tryd.prog 6 #[trip s v l] w fun e w' => e = .returned (.bool false) ∧ w' = (w.alloc (.cells #[.int .i64 s, .int .i64 v, .int .i64 l] 23)) := by
  go_enter Tryd.func6, Tryd.ntmps6
  go_wp2
  go_ret
  exact ⟨by simp <;> omega, rfl⟩
set_option maxRecDepth 100000 in
set_option maxHeartbeats 2000000 in
theorem rtrip_2 (s v l : Int) (w : World) (h1 : 8 ≤ s) (h2 : s ≤ 800000) (h3 : v < 0) : Calls Tryd.prog 6 #[trip s v l] w fun e w' => e = .returned (.bool false) ∧ w' = (w.alloc (.cells #[.int .i64 s, .int .i64 v, .int .i64 l] 23)) := by
  go_enter Tryd.func6, Tryd.ntmps6
  go_wp2
  go_ret
  exact ⟨by simp <;> omega, rfl⟩
set_option maxRecDepth 100000 in
set_option maxHeartbeats 2000000 in
theorem rtrip_3 (s v l : Int) (w : World) (h1 : 8 ≤ s) (h2 : s ≤ 800000) (h3 : 0 ≤ v) (h4 : 800000 < v) : Calls Tryd.prog 6 #[trip s v l] w fun e w' => e = .returned (.bool false) ∧ w' = (w.alloc (.cells #[.int .i64 s, .int .i64 v, .int .i64 l] 23)) := by
  go_enter Tryd.func6, Tryd.ntmps6
  go_wp2
  go_ret
  exact ⟨by simp <;> omega, rfl⟩
set_option maxRecDepth 100000 in
set_option maxHeartbeats 2000000 in
theorem rtrip_4 (s v l : Int) (w : World) (h1 : 8 ≤ s) (h2 : s ≤ 800000) (h3 : 0 ≤ v) (h4 : v ≤ 800000) (h5 : l < 1) : Calls Tryd.prog 6 #[trip s v l] w fun e w' => e = .returned (.bool false) ∧ w' = (w.alloc (.cells #[.int .i64 s, .int .i64 v, .int .i64 l] 23)) := by
  go_enter Tryd.func6, Tryd.ntmps6
  go_wp2
  go_ret
  exact ⟨by simp <;> omega, rfl⟩
set_option maxRecDepth 100000 in
set_option maxHeartbeats 2000000 in
theorem rtrip_5 (s v l : Int) (w : World) (h1 : 8 ≤ s) (h2 : s ≤ 800000) (h3 : 0 ≤ v) (h4 : v ≤ 800000) (h5 : 1 ≤ l) (h6 : 100000 < l) : Calls Tryd.prog 6 #[trip s v l] w fun e w' => e = .returned (.bool false) ∧ w' = (w.alloc (.cells #[.int .i64 s, .int .i64 v, .int .i64 l] 23)) := by
  go_enter Tryd.func6, Tryd.ntmps6
  go_wp2
  go_ret
  exact ⟨by simp <;> omega, rfl⟩
set_option maxRecDepth 100000 in
set_option maxHeartbeats 2000000 in
theorem rtrip_6 (s v l : Int) (w : World) (h1 : 8 ≤ s) (h2 : s ≤ 800000) (h3 : 0 ≤ v) (h4 : v ≤ 800000) (h5 : 1 ≤ l) (h6 : l ≤ 100000) : Calls Tryd.prog 6 #[trip s v l] w fun e w' => e = .returned (.bool true) ∧ w' = (w.alloc (.cells #[.int .i64 s, .int .i64 v, .int .i64 l] 23)) := by
  go_enter Tryd.func6, Tryd.ntmps6
  go_wp2
  go_ret
  exact ⟨by simp <;> omega, rfl⟩
theorem rightB_no {s v l : Int} (h : ¬ (8 ≤ s ∧ s ≤ 800000 ∧ 0 ≤ v ∧ v ≤ 800000 ∧ 1 ≤ l ∧ l ≤ 100000)) : rightB s v l = false := by
  cases e : rightB s v l with
  | false => rfl
  | true => exact absurd (rightB_yes e) h
theorem rtrip_calls (s v l : Int) (w : World) : Calls Tryd.prog 6 #[trip s v l] w fun e w' => e = .returned (.bool (rightB s v l)) ∧ w' = (w.alloc (.cells #[.int .i64 s, .int .i64 v, .int .i64 l] 23)) := by
  by_cases h1 : 8 ≤ s
  · by_cases h2 : s ≤ 800000
    · by_cases h3 : 0 ≤ v
      · by_cases h4 : v ≤ 800000
        · by_cases h5 : 1 ≤ l
          · by_cases h6 : l ≤ 100000
            · have e : rightB s v l = true := by simp [rightB, timeB, h1, h2, h3, h4, h5, h6]
              rw [e]; exact rtrip_6 s v l w h1 h2 h3 h4 h5 h6
            · rw [rightB_no (by omega)]; exact rtrip_5 s v l w h1 h2 h3 h4 h5 (by omega)
          · rw [rightB_no (by omega)]; exact rtrip_4 s v l w h1 h2 h3 h4 (by omega)
        · rw [rightB_no (by omega)]; exact rtrip_3 s v l w h1 h2 h3 (by omega)
      · rw [rightB_no (by omega)]; exact rtrip_2 s v l w h1 h2 (by omega)
    · rw [rightB_no (by omega)]; exact rtrip_1 s v l w h1 (by omega)
  · rw [rightB_no (by omega)]; exact rtrip_0 s v l w (by omega)

set_option maxRecDepth 100000 in
set_option maxHeartbeats 2000000 in
theorem rnext_111 (s v l n d : Int) (w : World) (h : nextB s v l n d = true) (c1 : n < l) (c2 : n ≤ n - d) (c3 : s / 8 ≤ n - d) :
    Calls Tryd.prog 7 #[trip s v l, .int .i64 n, .int .i64 d] w fun e w' => e = .returned (trip (s - s / 8 + (n - d)) (v - v / 4 + 2 * (n - d - s / 8)) n) ∧ Below w.heap.size w w' := by
  obtain ⟨h1, h2, h3⟩ := nextB_yes h
  obtain ⟨r1, r2, r3, r4, r5, r6⟩ := rightB_yes h1
  obtain ⟨t1, t2⟩ := timeB_yes h2
  obtain ⟨d1, d2⟩ := delayB_yes h3
  have hv : v - v / 4 + 2 * (n - d - s / 8) ≤ 800000 := by omega
  clear h h1 h2 h3
  go_enter Tryd.func7, Tryd.ntmps7
  go_wp2
  all_goals (try (exfalso; omega))
  all_goals (try simp only [Exit.inBlock, Exit.then])
  all_goals refine bodyPost_ret (v := trip (s - s / 8 + (n - d)) (v - v / 4 + 2 * (n - d - s / 8)) n) ?_ rfl ⟨rfl, ?_⟩
  all_goals first
    | (rw [results_cell1 rfl]; go_simp; done)
    | (rw [results_cell1 rfl]; go_simp; omega)
    | (repeat (first | exact Below.refl _ _ | (refine Below.drew ?_) | (refine Below.alloc ?_ (by simp <;> omega) _) | (refine Below.setCell ?_ (by simp <;> omega) _)))
set_option maxRecDepth 100000 in
set_option maxHeartbeats 2000000 in
theorem rnext_112 (s v l n d : Int) (w : World) (h : nextB s v l n d = true) (c1 : n < l) (c2 : n ≤ n - d) (c3 : n - d < s / 8) :
    Calls Tryd.prog 7 #[trip s v l, .int .i64 n, .int .i64 d] w fun e w' => e = .returned (trip (s - s / 8 + (n - d)) (v - v / 4 + 2 * (s / 8 - (n - d))) n) ∧ Below w.heap.size w w' := by
  obtain ⟨h1, h2, h3⟩ := nextB_yes h
  obtain ⟨r1, r2, r3, r4, r5, r6⟩ := rightB_yes h1
  obtain ⟨t1, t2⟩ := timeB_yes h2
  obtain ⟨d1, d2⟩ := delayB_yes h3
  have hv : v - v / 4 + 2 * (s / 8 - (n - d)) ≤ 800000 := by omega
  clear h h1 h2 h3
  go_enter Tryd.func7, Tryd.ntmps7
  go_wp2
  all_goals (try (exfalso; omega))
  all_goals (try simp only [Exit.inBlock, Exit.then])
  all_goals refine bodyPost_ret (v := trip (s - s / 8 + (n - d)) (v - v / 4 + 2 * (s / 8 - (n - d))) n) ?_ rfl ⟨rfl, ?_⟩
  all_goals first
    | (rw [results_cell1 rfl]; go_simp; done)
    | (rw [results_cell1 rfl]; go_simp; omega)
    | (repeat (first | exact Below.refl _ _ | (refine Below.drew ?_) | (refine Below.alloc ?_ (by simp <;> omega) _) | (refine Below.setCell ?_ (by simp <;> omega) _)))
set_option maxRecDepth 100000 in
set_option maxHeartbeats 2000000 in
theorem rnext_121 (s v l n d : Int) (w : World) (h : nextB s v l n d = true) (c1 : n < l) (c2 : n - d < n) (c3 : s / 8 ≤ n) :
    Calls Tryd.prog 7 #[trip s v l, .int .i64 n, .int .i64 d] w fun e w' => e = .returned (trip (s - s / 8 + (n)) (v - v / 4 + 2 * (n - s / 8)) n) ∧ Below w.heap.size w w' := by
  obtain ⟨h1, h2, h3⟩ := nextB_yes h
  obtain ⟨r1, r2, r3, r4, r5, r6⟩ := rightB_yes h1
  obtain ⟨t1, t2⟩ := timeB_yes h2
  obtain ⟨d1, d2⟩ := delayB_yes h3
  have hv : v - v / 4 + 2 * (n - s / 8) ≤ 800000 := by omega
  clear h h1 h2 h3
  go_enter Tryd.func7, Tryd.ntmps7
  go_wp2
  all_goals (try (exfalso; omega))
  all_goals (try simp only [Exit.inBlock, Exit.then])
  all_goals refine bodyPost_ret (v := trip (s - s / 8 + (n)) (v - v / 4 + 2 * (n - s / 8)) n) ?_ rfl ⟨rfl, ?_⟩
  all_goals first
    | (rw [results_cell1 rfl]; go_simp; done)
    | (rw [results_cell1 rfl]; go_simp; omega)
    | (repeat (first | exact Below.refl _ _ | (refine Below.drew ?_) | (refine Below.alloc ?_ (by simp <;> omega) _) | (refine Below.setCell ?_ (by simp <;> omega) _)))
set_option maxRecDepth 100000 in
set_option maxHeartbeats 2000000 in
theorem rnext_122 (s v l n d : Int) (w : World) (h : nextB s v l n d = true) (c1 : n < l) (c2 : n - d < n) (c3 : n < s / 8) :
    Calls Tryd.prog 7 #[trip s v l, .int .i64 n, .int .i64 d] w fun e w' => e = .returned (trip (s - s / 8 + (n)) (v - v / 4 + 2 * (s / 8 - (n))) n) ∧ Below w.heap.size w w' := by
  obtain ⟨h1, h2, h3⟩ := nextB_yes h
  obtain ⟨r1, r2, r3, r4, r5, r6⟩ := rightB_yes h1
  obtain ⟨t1, t2⟩ := timeB_yes h2
  obtain ⟨d1, d2⟩ := delayB_yes h3
  have hv : v - v / 4 + 2 * (s / 8 - (n)) ≤ 800000 := by omega
  clear h h1 h2 h3
  go_enter Tryd.func7, Tryd.ntmps7
  go_wp2
  all_goals (try (exfalso; omega))
  all_goals (try simp only [Exit.inBlock, Exit.then])
  all_goals refine bodyPost_ret (v := trip (s - s / 8 + (n)) (v - v / 4 + 2 * (s / 8 - (n))) n) ?_ rfl ⟨rfl, ?_⟩
  all_goals first
    | (rw [results_cell1 rfl]; go_simp; done)
    | (rw [results_cell1 rfl]; go_simp; omega)
    | (repeat (first | exact Below.refl _ _ | (refine Below.drew ?_) | (refine Below.alloc ?_ (by simp <;> omega) _) | (refine Below.setCell ?_ (by simp <;> omega) _)))
set_option maxRecDepth 100000 in
set_option maxHeartbeats 2000000 in
theorem rnext_211 (s v l n d : Int) (w : World) (h : nextB s v l n d = true) (c1 : l ≤ n) (c2 : l ≤ n - d) (c3 : s / 8 ≤ n - d) :
    Calls Tryd.prog 7 #[trip s v l, .int .i64 n, .int .i64 d] w fun e w' => e = .returned (trip (s - s / 8 + (n - d)) (v - v / 4 + 2 * (n - d - s / 8)) l) ∧ Below w.heap.size w w' := by
  obtain ⟨h1, h2, h3⟩ := nextB_yes h
  obtain ⟨r1, r2, r3, r4, r5, r6⟩ := rightB_yes h1
  obtain ⟨t1, t2⟩ := timeB_yes h2
  obtain ⟨d1, d2⟩ := delayB_yes h3
  have hv : v - v / 4 + 2 * (n - d - s / 8) ≤ 800000 := by omega
  clear h h1 h2 h3
  go_enter Tryd.func7, Tryd.ntmps7
  go_wp2
  all_goals (try (exfalso; omega))
  all_goals (try simp only [Exit.inBlock, Exit.then])
  all_goals refine bodyPost_ret (v := trip (s - s / 8 + (n - d)) (v - v / 4 + 2 * (n - d - s / 8)) l) ?_ rfl ⟨rfl, ?_⟩
  all_goals first
    | (rw [results_cell1 rfl]; go_simp; done)
    | (rw [results_cell1 rfl]; go_simp; omega)
    | (repeat (first | exact Below.refl _ _ | (refine Below.drew ?_) | (refine Below.alloc ?_ (by simp <;> omega) _) | (refine Below.setCell ?_ (by simp <;> omega) _)))
set_option maxRecDepth 100000 in
set_option maxHeartbeats 2000000 in
theorem rnext_212 (s v l n d : Int) (w : World) (h : nextB s v l n d = true) (c1 : l ≤ n) (c2 : l ≤ n - d) (c3 : n - d < s / 8) :
    Calls Tryd.prog 7 #[trip s v l, .int .i64 n, .int .i64 d] w fun e w' => e = .returned (trip (s - s / 8 + (n - d)) (v - v / 4 + 2 * (s / 8 - (n - d))) l) ∧ Below w.heap.size w w' := by
  obtain ⟨h1, h2, h3⟩ := nextB_yes h
  obtain ⟨r1, r2, r3, r4, r5, r6⟩ := rightB_yes h1
  obtain ⟨t1, t2⟩ := timeB_yes h2
  obtain ⟨d1, d2⟩ := delayB_yes h3
  have hv : v - v / 4 + 2 * (s / 8 - (n - d)) ≤ 800000 := by omega
  clear h h1 h2 h3
  go_enter Tryd.func7, Tryd.ntmps7
  go_wp2
  all_goals (try (exfalso; omega))
  all_goals (try simp only [Exit.inBlock, Exit.then])
  all_goals refine bodyPost_ret (v := trip (s - s / 8 + (n - d)) (v - v / 4 + 2 * (s / 8 - (n - d))) l) ?_ rfl ⟨rfl, ?_⟩
  all_goals first
    | (rw [results_cell1 rfl]; go_simp; done)
    | (rw [results_cell1 rfl]; go_simp; omega)
    | (repeat (first | exact Below.refl _ _ | (refine Below.drew ?_) | (refine Below.alloc ?_ (by simp <;> omega) _) | (refine Below.setCell ?_ (by simp <;> omega) _)))
set_option maxRecDepth 100000 in
set_option maxHeartbeats 2000000 in
theorem rnext_221 (s v l n d : Int) (w : World) (h : nextB s v l n d = true) (c1 : l ≤ n) (c2 : n - d < l) (c3 : s / 8 ≤ n) :
    Calls Tryd.prog 7 #[trip s v l, .int .i64 n, .int .i64 d] w fun e w' => e = .returned (trip (s - s / 8 + (n)) (v - v / 4 + 2 * (n - s / 8)) l) ∧ Below w.heap.size w w' := by
  obtain ⟨h1, h2, h3⟩ := nextB_yes h
  obtain ⟨r1, r2, r3, r4, r5, r6⟩ := rightB_yes h1
  obtain ⟨t1, t2⟩ := timeB_yes h2
  obtain ⟨d1, d2⟩ := delayB_yes h3
  have hv : v - v / 4 + 2 * (n - s / 8) ≤ 800000 := by omega
  clear h h1 h2 h3
  go_enter Tryd.func7, Tryd.ntmps7
  go_wp2
  all_goals (try (exfalso; omega))
  all_goals (try simp only [Exit.inBlock, Exit.then])
  all_goals refine bodyPost_ret (v := trip (s - s / 8 + (n)) (v - v / 4 + 2 * (n - s / 8)) l) ?_ rfl ⟨rfl, ?_⟩
  all_goals first
    | (rw [results_cell1 rfl]; go_simp; done)
    | (rw [results_cell1 rfl]; go_simp; omega)
    | (repeat (first | exact Below.refl _ _ | (refine Below.drew ?_) | (refine Below.alloc ?_ (by simp <;> omega) _) | (refine Below.setCell ?_ (by simp <;> omega) _)))
set_option maxRecDepth 100000 in
set_option maxHeartbeats 2000000 in
theorem rnext_222 (s v l n d : Int) (w : World) (h : nextB s v l n d = true) (c1 : l ≤ n) (c2 : n - d < l) (c3 : n < s / 8) :
    Calls Tryd.prog 7 #[trip s v l, .int .i64 n, .int .i64 d] w fun e w' => e = .returned (trip (s - s / 8 + (n)) (v - v / 4 + 2 * (s / 8 - (n))) l) ∧ Below w.heap.size w w' := by
  obtain ⟨h1, h2, h3⟩ := nextB_yes h
  obtain ⟨r1, r2, r3, r4, r5, r6⟩ := rightB_yes h1
  obtain ⟨t1, t2⟩ := timeB_yes h2
  obtain ⟨d1, d2⟩ := delayB_yes h3
  have hv : v - v / 4 + 2 * (s / 8 - (n)) ≤ 800000 := by omega
  clear h h1 h2 h3
  go_enter Tryd.func7, Tryd.ntmps7
  go_wp2
  all_goals (try (exfalso; omega))
  all_goals (try simp only [Exit.inBlock, Exit.then])
  all_goals refine bodyPost_ret (v := trip (s - s / 8 + (n)) (v - v / 4 + 2 * (s / 8 - (n))) l) ?_ rfl ⟨rfl, ?_⟩
  all_goals first
    | (rw [results_cell1 rfl]; go_simp; done)
    | (rw [results_cell1 rfl]; go_simp; omega)
    | (repeat (first | exact Below.refl _ _ | (refine Below.drew ?_) | (refine Below.alloc ?_ (by simp <;> omega) _) | (refine Below.setCell ?_ (by simp <;> omega) _)))
theorem rnext_yes (s v l n d : Int) (w : World) (h : nextB s v l n d = true) :
    Calls Tryd.prog 7 #[trip s v l, .int .i64 n, .int .i64 d] w fun e w' => e = .returned (trip (smo s l n d) (vry s v l n d) (lst l n)) ∧ Below w.heap.size w w' := by
  by_cases c1 : n < l
  · have e1 : lst l n = n := if_pos c1
    by_cases c2 : n ≤ n - d
    · have e2 : tim l n d = n - d := by unfold tim; rw [e1, if_pos c2]
      unfold smo vry; rw [e1, e2]
      by_cases c3 : s / 8 ≤ n - d
      · unfold far; rw [if_pos c3]; exact rnext_111 s v l n d w h c1 c2 c3
      · unfold far; rw [if_neg c3]; exact rnext_112 s v l n d w h c1 c2 (by omega)
    · have e2 : tim l n d = n := by unfold tim; rw [e1, if_neg c2]
      unfold smo vry; rw [e1, e2]
      by_cases c3 : s / 8 ≤ n
      · unfold far; rw [if_pos c3]; exact rnext_121 s v l n d w h c1 (by omega) c3
      · unfold far; rw [if_neg c3]; exact rnext_122 s v l n d w h c1 (by omega) (by omega)
  · have e1 : lst l n = l := if_neg c1
    by_cases c2 : l ≤ n - d
    · have e2 : tim l n d = n - d := by unfold tim; rw [e1, if_pos c2]
      unfold smo vry; rw [e1, e2]
      by_cases c3 : s / 8 ≤ n - d
      · unfold far; rw [if_pos c3]; exact rnext_211 s v l n d w h (by omega) c2 c3
      · unfold far; rw [if_neg c3]; exact rnext_212 s v l n d w h (by omega) c2 (by omega)
    · have e2 : tim l n d = n := by unfold tim; rw [e1, if_neg c2]
      unfold smo vry; rw [e1, e2]
      by_cases c3 : s / 8 ≤ n
      · unfold far; rw [if_pos c3]; exact rnext_221 s v l n d w h (by omega) (by omega) c3
      · unfold far; rw [if_neg c3]; exact rnext_222 s v l n d w h (by omega) (by omega) (by omega)

theorem structT : Tryd.prog.underlying 23 = some (.struct (Tryd.prog.fieldsOf 23)) := by kernel_rfl
theorem stoodT : Tryd.prog.stoodInHeld 23 = false := by kernel_rfl
theorem guardT (op : BinOp) (x y : Operand) (xs ys : Array Value) (w : World) : (eqGuard op 23 x y (.agg xs) (.agg ys)).run Tryd.prog w = .ok () w := run_eqGuard_agg w op 23 x y xs ys (by kernel_rfl)
theorem eqT (a b c : Int) (w : World) : (binOp .eql 23 (trip a b c) (trip a b c)).run Tryd.prog w = .ok (.bool true) w := by
  have u3 := Tryd.underlying3
  have a3 := Tryd.isAgg3
  have z3 := Tryd.sizeOf3
  rw [run_eql_struct, show (10000 : Nat) = 9999 + 1 from rfl, run_equalIn_agg w 9999 23 _ _ structT stoodT]
  simp only [Program.fieldsOf, Tryd.underlying23]
  go_simp
end Go.Proofs.YtfiaibifollmdaaDoor
