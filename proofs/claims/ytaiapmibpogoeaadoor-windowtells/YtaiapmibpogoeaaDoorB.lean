/- What Check, checkBoth, Send, without, growth and Lost answer. -/
import Derived.Test.YtaiapmibpogoeaaDoorA
namespace Go.Proofs.YtaiapmibpogoeaaDoor
open Go.RowKit Go.Lib Go.Sort
set_option linter.unusedVariables false
set_option linter.unusedSimpArgs false

set_option maxRecDepth 100000 in
set_option maxHeartbeats 2000000 in
theorem check_s (s l y : Int) (w : World) (h1 : szB s = false) : Calls Tryd.prog 5 #[win s l y] w fun e w' => e = .returned (.iface 33 (.int .i64 1)) ∧ Below w.heap.size w w' := by
  go_enter Tryd.func5, Tryd.ntmps5
  go_wp2_with fail
  refine (isSize_calls s _).mono ?_
  rintro e w1 ⟨rfl, rfl⟩
  rw [h1]
  go_wp2_with fail
  go_ret
  exact ⟨rfl, below_put _ _ _ _⟩
set_option maxRecDepth 100000 in
set_option maxHeartbeats 2000000 in
theorem check_l (s l y : Int) (w : World) (h1 : szB s = true) (h2 : szB l = false) : Calls Tryd.prog 5 #[win s l y] w fun e w' => e = .returned (.iface 33 (.int .i64 1)) ∧ Below w.heap.size w w' := by
  go_enter Tryd.func5, Tryd.ntmps5
  go_wp2_with fail
  refine (isSize_calls s _).mono ?_
  rintro e w1 ⟨rfl, rfl⟩
  rw [h1]
  go_wp2_with fail
  refine (isSize_calls l _).mono ?_
  rintro e w1 ⟨rfl, rfl⟩
  rw [h2]
  go_wp2_with fail
  go_ret
  exact ⟨rfl, below_put _ _ _ _⟩
set_option maxRecDepth 100000 in
set_option maxHeartbeats 2000000 in
theorem check_y (s l y : Int) (w : World) (h1 : szB s = true) (h2 : szB l = true) (h3 : wyB y = false) : Calls Tryd.prog 5 #[win s l y] w fun e w' => e = .returned (.iface 33 (.int .i64 1)) ∧ Below w.heap.size w w' := by
  go_enter Tryd.func5, Tryd.ntmps5
  go_wp2_with fail
  refine (isSize_calls s _).mono ?_
  rintro e w1 ⟨rfl, rfl⟩
  rw [h1]
  go_wp2_with fail
  refine (isSize_calls l _).mono ?_
  rintro e w1 ⟨rfl, rfl⟩
  rw [h2]
  go_wp2_with fail
  refine (isWay_calls y _).mono ?_
  rintro e w1 ⟨rfl, rfl⟩
  rw [h3]
  go_wp2_with fail
  go_ret
  exact ⟨rfl, below_put _ _ _ _⟩
set_option maxRecDepth 100000 in
set_option maxHeartbeats 2000000 in
theorem check_all (s l y : Int) (w : World) (h1 : szB s = true) (h2 : szB l = true) (h3 : wyB y = true) : Calls Tryd.prog 5 #[win s l y] w fun e w' => e = .returned .nilIface ∧ Below w.heap.size w w' := by
  go_enter Tryd.func5, Tryd.ntmps5
  go_wp2_with fail
  refine (isSize_calls s _).mono ?_
  rintro e w1 ⟨rfl, rfl⟩
  rw [h1]
  go_wp2_with fail
  refine (isSize_calls l _).mono ?_
  rintro e w1 ⟨rfl, rfl⟩
  rw [h2]
  go_wp2_with fail
  refine (isWay_calls y _).mono ?_
  rintro e w1 ⟨rfl, rfl⟩
  rw [h3]
  go_wp2_with fail
  go_ret
  exact ⟨rfl, below_put _ _ _ _⟩
theorem check_ok (s l y : Int) (w : World) (h : wB s l y = true) : Calls Tryd.prog 5 #[win s l y] w fun e w' => e = .returned .nilIface ∧ Below w.heap.size w w' := by
  obtain ⟨h1, h2, h3⟩ := wB_yes h
  exact check_all s l y w h1 h2 h3
theorem check_no (s l y : Int) (w : World) (h : wB s l y = false) : Calls Tryd.prog 5 #[win s l y] w fun e w' => e = .returned (.iface 33 (.int .i64 1)) ∧ Below w.heap.size w w' := by
  cases h1 : szB s with
  | false => exact check_s s l y w h1
  | true => cases h2 : szB l with
    | false => exact check_l s l y w h1 h2
    | true => cases h3 : wyB y with
      | false => exact check_y s l y w h1 h2 h3
      | true => rw [show wB s l y = true by simp [wB, h1, h2, h3]] at h; cases h

set_option maxRecDepth 100000 in
set_option maxHeartbeats 2000000 in
theorem both_w (s l y n : Int) (w : World) (h : wB s l y = false) : Calls Tryd.prog 14 #[win s l y, .int .i64 n] w fun e w' => e = .returned (.iface 33 (.int .i64 1)) ∧ Below w.heap.size w w' := by
  go_enter Tryd.func14, Tryd.ntmps14
  go_wp2_with fail
  have hX := Box.new w s l y
  have hB := below_put w s l y
  refine (check_no s l y _ h).mono ?_
  rintro e w1 ⟨rfl, hb1⟩
  have hB1 := hB.trans (hb1.mono hB.size)
  go_wp2_with fail
  go_ret
  exact ⟨rfl, hB1⟩
set_option maxRecDepth 100000 in
set_option maxHeartbeats 2000000 in
theorem both_n (s l y n : Int) (w : World) (h : wB s l y = true) (hn : pkB n = false) : Calls Tryd.prog 14 #[win s l y, .int .i64 n] w fun e w' => e = .returned (.iface 33 (.int .i64 1)) ∧ Below w.heap.size w w' := by
  go_enter Tryd.func14, Tryd.ntmps14
  go_wp2_with fail
  have hX := Box.new w s l y
  have hB := below_put w s l y
  refine (check_ok s l y _ h).mono ?_
  rintro e w1 ⟨rfl, hb1⟩
  have hB1 := hB.trans (hb1.mono hB.size)
  go_wp2_with fail
  refine (isPacket_calls n _).mono ?_
  rintro e w2 ⟨rfl, rfl⟩
  rw [hn]
  go_wp2_with fail
  go_ret
  exact ⟨rfl, hB1⟩
set_option maxRecDepth 100000 in
set_option maxHeartbeats 2000000 in
theorem both_all (s l y n : Int) (w : World) (h : wB s l y = true) (hn : pkB n = true) : Calls Tryd.prog 14 #[win s l y, .int .i64 n] w fun e w' => e = .returned .nilIface ∧ Below w.heap.size w w' := by
  go_enter Tryd.func14, Tryd.ntmps14
  go_wp2_with fail
  have hX := Box.new w s l y
  have hB := below_put w s l y
  refine (check_ok s l y _ h).mono ?_
  rintro e w1 ⟨rfl, hb1⟩
  have hB1 := hB.trans (hb1.mono hB.size)
  go_wp2_with fail
  refine (isPacket_calls n _).mono ?_
  rintro e w2 ⟨rfl, rfl⟩
  rw [hn]
  go_wp2_with fail
  go_ret
  exact ⟨rfl, hB1⟩
theorem both_ok (s l y n : Int) (w : World) (h : bB s l y n = true) : Calls Tryd.prog 14 #[win s l y, .int .i64 n] w fun e w' => e = .returned .nilIface ∧ Below w.heap.size w w' := both_all s l y n w (bB_yes h).1 (bB_yes h).2
theorem both_no (s l y n : Int) (w : World) (h : bB s l y n = false) : Calls Tryd.prog 14 #[win s l y, .int .i64 n] w fun e w' => e = .returned (.iface 33 (.int .i64 1)) ∧ Below w.heap.size w w' := by
  cases h1 : wB s l y with
  | false => exact both_w s l y n w h1
  | true => cases h2 : pkB n with
    | false => exact both_n s l y n w h1 h2
    | true => rw [bB_of h1 h2] at h; cases h

set_option maxRecDepth 100000 in
set_option maxHeartbeats 2000000 in
theorem send_f (s l y n : Int) (w : World) (h : bB s l y n = false) : Calls Tryd.prog 7 #[win s l y, .int .i64 n] w fun e w' => e = .returned (.tuple #[win 0 0 0, (.iface 33 (.int .i64 1))]) ∧ Below w.heap.size w w' := by
  go_enter Tryd.func7, Tryd.ntmps7
  go_wp2_with fail
  have hP := pair_start w s l y
  generalize w.heap.size = P at hP ⊢
  generalize P + 1 = Q at hP ⊢
  refine (both_no s l y n _ h).mono ?_
  rintro e w1 ⟨rfl, hb1⟩
  have hP := hP.below hb1
  clear hb1
  have hPc := hP
  obtain ⟨⟨pl, p0, p1, p2, pf0, pf1, pf2⟩, ⟨ql, q0, q1, q2, qf0, qf1, qf2⟩, hbel, hleP, hleQ, hne, hne'⟩ := hPc
  go_wp2_with fail
  (try simp only [Exit.inBlock, Exit.then])
  refine bodyPost_ret (v := .tuple #[win 0 0 0, (.iface 33 (.int .i64 1))]) ?_ rfl ⟨rfl, ?_⟩
  · rw [results_cell_tmp rfl]; go_simp
  · repeat (first | (refine Below.setCell ?_ (by simp <;> omega) _) | exact hbel | (refine Below.alloc ?_ (by simp <;> omega) _))
set_option maxRecDepth 100000 in
set_option maxHeartbeats 2000000 in
theorem send_w (s l y n : Int) (w : World) (h : bB s l y n = true) (hw : s < y + n) : Calls Tryd.prog 7 #[win s l y, .int .i64 n] w fun e w' => e = .returned (.tuple #[win 0 0 0, (.iface 33 (.int .i64 8))]) ∧ Below w.heap.size w w' := by
  obtain ⟨⟨s0, s1⟩, ⟨l0, l1⟩, y0, y1⟩ := wB_bd (bB_yes h).1
  obtain ⟨n0, n1⟩ := pkB_yes (bB_yes h).2
  go_enter Tryd.func7, Tryd.ntmps7
  go_wp2_with fail
  have hP := pair_start w s l y
  generalize w.heap.size = P at hP ⊢
  generalize P + 1 = Q at hP ⊢
  refine (both_ok s l y n _ h).mono ?_
  rintro e w1 ⟨rfl, hb1⟩
  have hP := hP.below hb1
  clear hb1
  have hPc := hP
  obtain ⟨⟨pl, p0, p1, p2, pf0, pf1, pf2⟩, ⟨ql, q0, q1, q2, qf0, qf1, qf2⟩, hbel, hleP, hleQ, hne, hne'⟩ := hPc
  go_wp2_with fail
  (try simp only [Exit.inBlock, Exit.then])
  refine bodyPost_ret (v := .tuple #[win 0 0 0, (.iface 33 (.int .i64 8))]) ?_ rfl ⟨rfl, ?_⟩
  · rw [results_cell_tmp rfl]; go_simp
  · repeat (first | (refine Below.setCell ?_ (by simp <;> omega) _) | exact hbel | (refine Below.alloc ?_ (by simp <;> omega) _))
set_option maxRecDepth 100000 in
set_option maxHeartbeats 2000000 in
theorem send_ok (s l y n : Int) (w : World) (h : bB s l y n = true) (hw : y + n ≤ s) : Calls Tryd.prog 7 #[win s l y, .int .i64 n] w fun e w' => e = .returned (.tuple #[win s l (y + n), .nilIface]) ∧ Below w.heap.size w w' := by
  obtain ⟨⟨s0, s1⟩, ⟨l0, l1⟩, y0, y1⟩ := wB_bd (bB_yes h).1
  obtain ⟨n0, n1⟩ := pkB_yes (bB_yes h).2
  go_enter Tryd.func7, Tryd.ntmps7
  go_wp2_with fail
  have hP := pair_start w s l y
  generalize w.heap.size = P at hP ⊢
  generalize P + 1 = Q at hP ⊢
  refine (both_ok s l y n _ h).mono ?_
  rintro e w1 ⟨rfl, hb1⟩
  have hP := hP.below hb1
  clear hb1
  have hPc := hP
  obtain ⟨⟨pl, p0, p1, p2, pf0, pf1, pf2⟩, ⟨ql, q0, q1, q2, qf0, qf1, qf2⟩, hbel, hleP, hleQ, hne, hne'⟩ := hPc
  go_wp2_with fail
  (try simp only [Exit.inBlock, Exit.then])
  refine bodyPost_ret (v := .tuple #[win s l (y + n), .nilIface]) ?_ rfl ⟨rfl, ?_⟩
  · rw [results_cell_tmp rfl]; go_simp
  · repeat (first | (refine Below.setCell ?_ (by simp <;> omega) _) | exact hbel | (refine Below.alloc ?_ (by simp <;> omega) _))
set_option maxRecDepth 100000 in
set_option maxHeartbeats 2000000 in
theorem off_f (s l y n : Int) (w : World) (h : bB s l y n = false) : Calls Tryd.prog 15 #[win s l y, .int .i64 n] w fun e w' => e = .returned (.tuple #[win 0 0 0, (.iface 33 (.int .i64 1))]) ∧ Below w.heap.size w w' := by
  go_enter Tryd.func15, Tryd.ntmps15
  go_wp2_with fail
  have hP := pair_start w s l y
  generalize w.heap.size = P at hP ⊢
  generalize P + 1 = Q at hP ⊢
  refine (both_no s l y n _ h).mono ?_
  rintro e w1 ⟨rfl, hb1⟩
  have hP := hP.below hb1
  clear hb1
  have hPc := hP
  obtain ⟨⟨pl, p0, p1, p2, pf0, pf1, pf2⟩, ⟨ql, q0, q1, q2, qf0, qf1, qf2⟩, hbel, hleP, hleQ, hne, hne'⟩ := hPc
  go_wp2_with fail
  (try simp only [Exit.inBlock, Exit.then])
  refine bodyPost_ret (v := .tuple #[win 0 0 0, (.iface 33 (.int .i64 1))]) ?_ rfl ⟨rfl, ?_⟩
  · rw [results_cell_tmp rfl]; go_simp
  · repeat (first | (refine Below.setCell ?_ (by simp <;> omega) _) | exact hbel | (refine Below.alloc ?_ (by simp <;> omega) _))
set_option maxRecDepth 100000 in
set_option maxHeartbeats 2000000 in
theorem off_w (s l y n : Int) (w : World) (h : bB s l y n = true) (hw : y < n) : Calls Tryd.prog 15 #[win s l y, .int .i64 n] w fun e w' => e = .returned (.tuple #[win 0 0 0, (.iface 33 (.int .i64 3))]) ∧ Below w.heap.size w w' := by
  obtain ⟨⟨s0, s1⟩, ⟨l0, l1⟩, y0, y1⟩ := wB_bd (bB_yes h).1
  obtain ⟨n0, n1⟩ := pkB_yes (bB_yes h).2
  go_enter Tryd.func15, Tryd.ntmps15
  go_wp2_with fail
  have hP := pair_start w s l y
  generalize w.heap.size = P at hP ⊢
  generalize P + 1 = Q at hP ⊢
  refine (both_ok s l y n _ h).mono ?_
  rintro e w1 ⟨rfl, hb1⟩
  have hP := hP.below hb1
  clear hb1
  have hPc := hP
  obtain ⟨⟨pl, p0, p1, p2, pf0, pf1, pf2⟩, ⟨ql, q0, q1, q2, qf0, qf1, qf2⟩, hbel, hleP, hleQ, hne, hne'⟩ := hPc
  go_wp2_with fail
  (try simp only [Exit.inBlock, Exit.then])
  refine bodyPost_ret (v := .tuple #[win 0 0 0, (.iface 33 (.int .i64 3))]) ?_ rfl ⟨rfl, ?_⟩
  · rw [results_cell_tmp rfl]; go_simp
  · repeat (first | (refine Below.setCell ?_ (by simp <;> omega) _) | exact hbel | (refine Below.alloc ?_ (by simp <;> omega) _))
set_option maxRecDepth 100000 in
set_option maxHeartbeats 2000000 in
theorem off_ok (s l y n : Int) (w : World) (h : bB s l y n = true) (hw : n ≤ y) : Calls Tryd.prog 15 #[win s l y, .int .i64 n] w fun e w' => e = .returned (.tuple #[win s l (y - n), .nilIface]) ∧ Below w.heap.size w w' := by
  obtain ⟨⟨s0, s1⟩, ⟨l0, l1⟩, y0, y1⟩ := wB_bd (bB_yes h).1
  obtain ⟨n0, n1⟩ := pkB_yes (bB_yes h).2
  go_enter Tryd.func15, Tryd.ntmps15
  go_wp2_with fail
  have hP := pair_start w s l y
  generalize w.heap.size = P at hP ⊢
  generalize P + 1 = Q at hP ⊢
  refine (both_ok s l y n _ h).mono ?_
  rintro e w1 ⟨rfl, hb1⟩
  have hP := hP.below hb1
  clear hb1
  have hPc := hP
  obtain ⟨⟨pl, p0, p1, p2, pf0, pf1, pf2⟩, ⟨ql, q0, q1, q2, qf0, qf1, qf2⟩, hbel, hleP, hleQ, hne, hne'⟩ := hPc
  go_wp2_with fail
  (try simp only [Exit.inBlock, Exit.then])
  refine bodyPost_ret (v := .tuple #[win s l (y - n), .nilIface]) ?_ rfl ⟨rfl, ?_⟩
  · rw [results_cell_tmp rfl]; go_simp
  · repeat (first | (refine Below.setCell ?_ (by simp <;> omega) _) | exact hbel | (refine Below.alloc ?_ (by simp <;> omega) _))
end Go.Proofs.YtaiapmibpogoeaaDoor
