/- What growth, Came and Lost answer; all of them told by what is wrong. -/
import Derived.Test.YtaiapmibpogoeaaDoorB
namespace Go.Proofs.YtaiapmibpogoeaaDoor
open Go.RowKit Go.Lib Go.Sort
set_option linter.unusedVariables false
set_option linter.unusedSimpArgs false

set_option maxRecDepth 100000 in
set_option maxHeartbeats 2000000 in
theorem growth_fast (s l y n : Int) (w : World) (h : s < l) : Calls Tryd.prog 16 #[win s l y, .int .i64 n] w fun e w' => e = .returned (.int .i64 (n)) ∧ w' = put w s l y := by
  go_enter Tryd.func16, Tryd.ntmps16
  go_wp2_with fail
  go_ret
  exact ⟨by simp, rfl⟩
set_option maxRecDepth 100000 in
set_option maxHeartbeats 2000000 in
theorem growth_slow (s l y n : Int) (w : World) (h : l ≤ s) (h0 : 400 ≤ s) (h1 : 1 ≤ n) (h2 : n ≤ 200) : Calls Tryd.prog 16 #[win s l y, .int .i64 n] w fun e w' => e = .returned (.int .i64 (n * 200 / s)) ∧ w' = put w s l y := by
  go_enter Tryd.func16, Tryd.ntmps16
  go_wp2_with fail
  go_ret
  exact ⟨by simp, rfl⟩
theorem growth_calls (s l y n : Int) (w : World) (h0 : 400 ≤ s) (h1 : 1 ≤ n) (h2 : n ≤ 200) : Calls Tryd.prog 16 #[win s l y, .int .i64 n] w fun e w' => e = .returned (.int .i64 (grw s l n)) ∧ w' = put w s l y := by
  by_cases h : s < l
  · rw [show grw s l n = n from if_pos h]; exact growth_fast s l y n w h
  · rw [show grw s l n = n * 200 / s from if_neg h]; exact growth_slow s l y n w (by omega) h0 h1 h2

set_option maxRecDepth 100000 in
set_option maxHeartbeats 2000000 in
theorem came_f (s l y n : Int) (w : World) (h : bB s l y n = false) : Calls Tryd.prog 8 #[win s l y, .int .i64 n] w fun e w' => e = .returned (.tuple #[win 0 0 0, (.iface 33 (.int .i64 1))]) ∧ Below w.heap.size w w' := by
  go_enter Tryd.func8, Tryd.ntmps8
  go_wp2_with fail
  have hP := pair_start w s l y
  generalize w.heap.size = P at hP ⊢
  generalize P + 1 = Q at hP ⊢
  refine (off_f s l y n _ h).mono ?_
  rintro e w1 ⟨rfl, hb1⟩
  have hP := hP.below hb1
  clear hb1
  have hPc := hP
  obtain ⟨⟨pl, p0, p1, p2, pf0, pf1, pf2⟩, ⟨ql, q0, q1, q2, qf0, qf1, qf2⟩, hbel, hleP, hleQ, hne, hne'⟩ := hPc
  have hP2 := hP.setP 0 0 0
  go_wp2_with fail
  (try simp only [Exit.inBlock, Exit.then])
  refine bodyPost_ret (v := .tuple #[win 0 0 0, (.iface 33 (.int .i64 1))]) ?_ rfl ⟨rfl, ?_⟩
  · rw [results_cell_tmp rfl]; go_simp
  · repeat (first | (refine Below.setCell ?_ (by simp <;> omega) _) | exact hbel | (refine Below.alloc ?_ (by simp <;> omega) _))
set_option maxRecDepth 100000 in
set_option maxHeartbeats 2000000 in
theorem came_w (s l y n : Int) (w : World) (h : bB s l y n = true) (hw : y < n) : Calls Tryd.prog 8 #[win s l y, .int .i64 n] w fun e w' => e = .returned (.tuple #[win 0 0 0, (.iface 33 (.int .i64 3))]) ∧ Below w.heap.size w w' := by
  obtain ⟨⟨s0, s1⟩, ⟨l0, l1⟩, y0, y1⟩ := wB_bd (bB_yes h).1
  obtain ⟨n0, n1⟩ := pkB_yes (bB_yes h).2
  go_enter Tryd.func8, Tryd.ntmps8
  go_wp2_with fail
  have hP := pair_start w s l y
  generalize w.heap.size = P at hP ⊢
  generalize P + 1 = Q at hP ⊢
  refine (off_w s l y n _ h hw).mono ?_
  rintro e w1 ⟨rfl, hb1⟩
  have hP := hP.below hb1
  clear hb1
  have hPc := hP
  obtain ⟨⟨pl, p0, p1, p2, pf0, pf1, pf2⟩, ⟨ql, q0, q1, q2, qf0, qf1, qf2⟩, hbel, hleP, hleQ, hne, hne'⟩ := hPc
  have hP2 := hP.setP 0 0 0
  go_wp2_with fail
  (try simp only [Exit.inBlock, Exit.then])
  refine bodyPost_ret (v := .tuple #[win 0 0 0, (.iface 33 (.int .i64 3))]) ?_ rfl ⟨rfl, ?_⟩
  · rw [results_cell_tmp rfl]; go_simp
  · repeat (first | (refine Below.setCell ?_ (by simp <;> omega) _) | exact hbel | (refine Below.alloc ?_ (by simp <;> omega) _))
set_option maxRecDepth 100000 in
set_option maxHeartbeats 2000000 in
theorem lost_f (s l y n : Int) (w : World) (h : bB s l y n = false) : Calls Tryd.prog 9 #[win s l y, .int .i64 n] w fun e w' => e = .returned (.tuple #[win 0 0 0, (.iface 33 (.int .i64 1))]) ∧ Below w.heap.size w w' := by
  go_enter Tryd.func9, Tryd.ntmps9
  go_wp2_with fail
  have hP := pair_start w s l y
  generalize w.heap.size = P at hP ⊢
  generalize P + 1 = Q at hP ⊢
  refine (off_f s l y n _ h).mono ?_
  rintro e w1 ⟨rfl, hb1⟩
  have hP := hP.below hb1
  clear hb1
  have hPc := hP
  obtain ⟨⟨pl, p0, p1, p2, pf0, pf1, pf2⟩, ⟨ql, q0, q1, q2, qf0, qf1, qf2⟩, hbel, hleP, hleQ, hne, hne'⟩ := hPc
  have hP2 := hP.setP 0 0 0
  go_wp2_with fail
  (try simp only [Exit.inBlock, Exit.then])
  refine bodyPost_ret (v := .tuple #[win 0 0 0, (.iface 33 (.int .i64 1))]) ?_ rfl ⟨rfl, ?_⟩
  · rw [results_cell_tmp rfl]; go_simp
  · repeat (first | (refine Below.setCell ?_ (by simp <;> omega) _) | exact hbel | (refine Below.alloc ?_ (by simp <;> omega) _))
set_option maxRecDepth 100000 in
set_option maxHeartbeats 2000000 in
theorem lost_w (s l y n : Int) (w : World) (h : bB s l y n = true) (hw : y < n) : Calls Tryd.prog 9 #[win s l y, .int .i64 n] w fun e w' => e = .returned (.tuple #[win 0 0 0, (.iface 33 (.int .i64 3))]) ∧ Below w.heap.size w w' := by
  obtain ⟨⟨s0, s1⟩, ⟨l0, l1⟩, y0, y1⟩ := wB_bd (bB_yes h).1
  obtain ⟨n0, n1⟩ := pkB_yes (bB_yes h).2
  go_enter Tryd.func9, Tryd.ntmps9
  go_wp2_with fail
  have hP := pair_start w s l y
  generalize w.heap.size = P at hP ⊢
  generalize P + 1 = Q at hP ⊢
  refine (off_w s l y n _ h hw).mono ?_
  rintro e w1 ⟨rfl, hb1⟩
  have hP := hP.below hb1
  clear hb1
  have hPc := hP
  obtain ⟨⟨pl, p0, p1, p2, pf0, pf1, pf2⟩, ⟨ql, q0, q1, q2, qf0, qf1, qf2⟩, hbel, hleP, hleQ, hne, hne'⟩ := hPc
  have hP2 := hP.setP 0 0 0
  go_wp2_with fail
  (try simp only [Exit.inBlock, Exit.then])
  refine bodyPost_ret (v := .tuple #[win 0 0 0, (.iface 33 (.int .i64 3))]) ?_ rfl ⟨rfl, ?_⟩
  · rw [results_cell_tmp rfl]; go_simp
  · repeat (first | (refine Below.setCell ?_ (by simp <;> omega) _) | exact hbel | (refine Below.alloc ?_ (by simp <;> omega) _))
set_option maxRecDepth 100000 in
set_option maxHeartbeats 2000000 in
theorem lost_low (s l y n : Int) (w : World) (h : bB s l y n = true) (hw : n ≤ y) (hs : s / 2 < 400) : Calls Tryd.prog 9 #[win s l y, .int .i64 n] w fun e w' => e = .returned (.tuple #[win 400 400 (y - n), .nilIface]) ∧ Below w.heap.size w w' := by
  obtain ⟨⟨s0, s1⟩, ⟨l0, l1⟩, y0, y1⟩ := wB_bd (bB_yes h).1
  obtain ⟨n0, n1⟩ := pkB_yes (bB_yes h).2
  go_enter Tryd.func9, Tryd.ntmps9
  go_wp2_with fail
  have hP := pair_start w s l y
  generalize w.heap.size = P at hP ⊢
  generalize P + 1 = Q at hP ⊢
  refine (off_ok s l y n _ h hw).mono ?_
  rintro e w1 ⟨rfl, hb1⟩
  have hP := hP.below hb1
  clear hb1
  have hPc := hP
  obtain ⟨⟨pl, p0, p1, p2, pf0, pf1, pf2⟩, ⟨ql, q0, q1, q2, qf0, qf1, qf2⟩, hbel, hleP, hleQ, hne, hne'⟩ := hPc
  go_upto_region 4 with fail
  clear pl p0 p1 p2 pf0 pf1 pf2 ql q0 q1 q2 qf0 qf1 qf2 hbel hleP hleQ hne hne'
  have hP2 := hP.setP s l (y - n)
  (try unfold set3 at hP2)
  generalize ((w1.setCell ⟨P, 0, none⟩ (.int .i64 s)).setCell ⟨P, 1, none⟩ (.int .i64 l)).setCell ⟨P, 2, none⟩ (.int .i64 (y - n)) = W at hP2 ⊢
  clear hP
  have hP := hP2
  clear hP2
  have hPc := hP
  obtain ⟨⟨pl, p0, p1, p2, pf0, pf1, pf2⟩, ⟨ql, q0, q1, q2, qf0, qf1, qf2⟩, hbel, hleP, hleQ, hne, hne'⟩ := hPc
  go_wp2_with fail
  (try simp only [Exit.inBlock, Exit.then])
  refine bodyPost_ret (v := .tuple #[win 400 400 (y - n), .nilIface]) ?_ rfl ⟨rfl, ?_⟩
  · rw [results_cell_tmp rfl]; go_simp
  · repeat (first | (refine Below.setCell ?_ (by simp <;> omega) _) | exact hbel | (refine Below.alloc ?_ (by simp <;> omega) _))
set_option maxRecDepth 100000 in
set_option maxHeartbeats 2000000 in
theorem lost_high (s l y n : Int) (w : World) (h : bB s l y n = true) (hw : n ≤ y) (hs : 400 ≤ s / 2) : Calls Tryd.prog 9 #[win s l y, .int .i64 n] w fun e w' => e = .returned (.tuple #[win (s / 2) (s / 2) (y - n), .nilIface]) ∧ Below w.heap.size w w' := by
  obtain ⟨⟨s0, s1⟩, ⟨l0, l1⟩, y0, y1⟩ := wB_bd (bB_yes h).1
  obtain ⟨n0, n1⟩ := pkB_yes (bB_yes h).2
  go_enter Tryd.func9, Tryd.ntmps9
  go_wp2_with fail
  have hP := pair_start w s l y
  generalize w.heap.size = P at hP ⊢
  generalize P + 1 = Q at hP ⊢
  refine (off_ok s l y n _ h hw).mono ?_
  rintro e w1 ⟨rfl, hb1⟩
  have hP := hP.below hb1
  clear hb1
  have hPc := hP
  obtain ⟨⟨pl, p0, p1, p2, pf0, pf1, pf2⟩, ⟨ql, q0, q1, q2, qf0, qf1, qf2⟩, hbel, hleP, hleQ, hne, hne'⟩ := hPc
  go_upto_region 4 with fail
  clear pl p0 p1 p2 pf0 pf1 pf2 ql q0 q1 q2 qf0 qf1 qf2 hbel hleP hleQ hne hne'
  have hP2 := hP.setP s l (y - n)
  (try unfold set3 at hP2)
  generalize ((w1.setCell ⟨P, 0, none⟩ (.int .i64 s)).setCell ⟨P, 1, none⟩ (.int .i64 l)).setCell ⟨P, 2, none⟩ (.int .i64 (y - n)) = W at hP2 ⊢
  clear hP
  have hP := hP2
  clear hP2
  have hPc := hP
  obtain ⟨⟨pl, p0, p1, p2, pf0, pf1, pf2⟩, ⟨ql, q0, q1, q2, qf0, qf1, qf2⟩, hbel, hleP, hleQ, hne, hne'⟩ := hPc
  go_wp2_with fail
  (try simp only [Exit.inBlock, Exit.then])
  refine bodyPost_ret (v := .tuple #[win (s / 2) (s / 2) (y - n), .nilIface]) ?_ rfl ⟨rfl, ?_⟩
  · rw [results_cell_tmp rfl]; go_simp
  · repeat (first | (refine Below.setCell ?_ (by simp <;> omega) _) | exact hbel | (refine Below.alloc ?_ (by simp <;> omega) _))
set_option maxRecDepth 100000 in
set_option maxHeartbeats 2000000 in
theorem came_less (s l y n : Int) (w : World) (h : bB s l y n = true) (hw : n ≤ y) (hs : s + grw s l n < 100000) : Calls Tryd.prog 8 #[win s l y, .int .i64 n] w fun e w' => e = .returned (.tuple #[win (s + grw s l n) l (y - n), .nilIface]) ∧ Below w.heap.size w w' := by
  obtain ⟨⟨s0, s1⟩, ⟨l0, l1⟩, y0, y1⟩ := wB_bd (bB_yes h).1
  obtain ⟨n0, n1⟩ := pkB_yes (bB_yes h).2
  go_enter Tryd.func8, Tryd.ntmps8
  go_wp2_with fail
  have hP := pair_start w s l y
  generalize w.heap.size = P at hP ⊢
  generalize P + 1 = Q at hP ⊢
  refine (off_ok s l y n _ h hw).mono ?_
  rintro e w1 ⟨rfl, hb1⟩
  have hP := hP.below hb1
  clear hb1
  have hPc := hP
  obtain ⟨⟨pl, p0, p1, p2, pf0, pf1, pf2⟩, ⟨ql, q0, q1, q2, qf0, qf1, qf2⟩, hbel, hleP, hleQ, hne, hne'⟩ := hPc
  go_upto_region 4 with fail
  clear pl p0 p1 p2 pf0 pf1 pf2 ql q0 q1 q2 qf0 qf1 qf2 hbel hleP hleQ hne hne'
  have hP2 := hP.setP s l (y - n)
  (try unfold set3 at hP2)
  generalize ((w1.setCell ⟨P, 0, none⟩ (.int .i64 s)).setCell ⟨P, 1, none⟩ (.int .i64 l)).setCell ⟨P, 2, none⟩ (.int .i64 (y - n)) = W at hP2 ⊢
  clear hP
  have hP := hP2
  clear hP2
  have hPc := hP
  obtain ⟨⟨pl, p0, p1, p2, pf0, pf1, pf2⟩, ⟨ql, q0, q1, q2, qf0, qf1, qf2⟩, hbel, hleP, hleQ, hne, hne'⟩ := hPc
  have hP2 := hP.below (below_put W s l (y - n))
  have hPc := hP2
  obtain ⟨⟨pl', p0', p1', p2', pf0', pf1', pf2'⟩, _⟩ := hPc
  have hg := grw_bd (l := l) s0 n0 n1
  have hwr : IntKind.i64.wrap (s + grw s l n) = s + grw s l n := wrap_small _ (by omega) (by omega)
  have GC := fun w => growth_calls s l (y - n) n w s0 n0 n1
  obtain ⟨g, hgE⟩ : ∃ g, Hid (grw s l n = g) := ⟨_, rfl⟩
  rw [hgE.out] at hs hg hwr GC
  go_cut [23] (fun s23 wx => s23 = .int .i64 (s + g) ∧ Pair w wx P Q (s + g) l (y - n) 0 0 0)
  case first =>
    go_region_with (go_at_call 16; refine (GC _).mono ?_; rintro e w3 ⟨rfl, rfl⟩)
    all_goals (try go_wp2_with fail)
    all_goals go_meet
    all_goals (first | exact ⟨by simp <;> omega, ((hP.setP0 _).below (below_put _ s l (y - n))).drew⟩ | (have e : s + g = 100000 := by omega); rw [e]; exact ⟨by simp <;> omega, ((hP.setP0 _).below (below_put _ s l (y - n))).drew⟩ | (exfalso; omega))
  case rest =>
  obtain ⟨rfl, hP3⟩ := hcut
  clear pl p0 p1 p2 pf0 pf1 pf2 ql q0 q1 q2 qf0 qf1 qf2 hbel hleP hleQ hne hne' pl' p0' p1' p2' pf0' pf1' pf2' hP hP2
  have hP := hP3
  clear hP3
  have hPc := hP
  obtain ⟨⟨pl, p0, p1, p2, pf0, pf1, pf2⟩, ⟨ql, q0, q1, q2, qf0, qf1, qf2⟩, hbel, hleP, hleQ, hne, hne'⟩ := hPc
  go_wp2_with fail
  (try simp only [Exit.inBlock, Exit.then])
  refine bodyPost_ret (v := .tuple #[win (s + g) l (y - n), .nilIface]) ?_ rfl ⟨(by rw [hgE.out]), ?_⟩
  · rw [results_cell_tmp rfl]; go_simp
  · repeat (first | (refine Below.setCell ?_ (by simp <;> omega) _) | exact hbel | (refine Below.alloc ?_ (by simp <;> omega) _))
set_option maxRecDepth 100000 in
set_option maxHeartbeats 2000000 in
theorem came_more (s l y n : Int) (w : World) (h : bB s l y n = true) (hw : n ≤ y) (hs : 100000 ≤ s + grw s l n) : Calls Tryd.prog 8 #[win s l y, .int .i64 n] w fun e w' => e = .returned (.tuple #[win 100000 l (y - n), .nilIface]) ∧ Below w.heap.size w w' := by
  obtain ⟨⟨s0, s1⟩, ⟨l0, l1⟩, y0, y1⟩ := wB_bd (bB_yes h).1
  obtain ⟨n0, n1⟩ := pkB_yes (bB_yes h).2
  go_enter Tryd.func8, Tryd.ntmps8
  go_wp2_with fail
  have hP := pair_start w s l y
  generalize w.heap.size = P at hP ⊢
  generalize P + 1 = Q at hP ⊢
  refine (off_ok s l y n _ h hw).mono ?_
  rintro e w1 ⟨rfl, hb1⟩
  have hP := hP.below hb1
  clear hb1
  have hPc := hP
  obtain ⟨⟨pl, p0, p1, p2, pf0, pf1, pf2⟩, ⟨ql, q0, q1, q2, qf0, qf1, qf2⟩, hbel, hleP, hleQ, hne, hne'⟩ := hPc
  go_upto_region 4 with fail
  clear pl p0 p1 p2 pf0 pf1 pf2 ql q0 q1 q2 qf0 qf1 qf2 hbel hleP hleQ hne hne'
  have hP2 := hP.setP s l (y - n)
  (try unfold set3 at hP2)
  generalize ((w1.setCell ⟨P, 0, none⟩ (.int .i64 s)).setCell ⟨P, 1, none⟩ (.int .i64 l)).setCell ⟨P, 2, none⟩ (.int .i64 (y - n)) = W at hP2 ⊢
  clear hP
  have hP := hP2
  clear hP2
  have hPc := hP
  obtain ⟨⟨pl, p0, p1, p2, pf0, pf1, pf2⟩, ⟨ql, q0, q1, q2, qf0, qf1, qf2⟩, hbel, hleP, hleQ, hne, hne'⟩ := hPc
  have hP2 := hP.below (below_put W s l (y - n))
  have hPc := hP2
  obtain ⟨⟨pl', p0', p1', p2', pf0', pf1', pf2'⟩, _⟩ := hPc
  have hg := grw_bd (l := l) s0 n0 n1
  have hwr : IntKind.i64.wrap (s + grw s l n) = s + grw s l n := wrap_small _ (by omega) (by omega)
  have GC := fun w => growth_calls s l (y - n) n w s0 n0 n1
  obtain ⟨g, hgE⟩ : ∃ g, Hid (grw s l n = g) := ⟨_, rfl⟩
  rw [hgE.out] at hs hg hwr GC
  go_cut [23] (fun s23 wx => s23 = .int .i64 100000 ∧ Pair w wx P Q 100000 l (y - n) 0 0 0)
  case first =>
    go_region_with (go_at_call 16; refine (GC _).mono ?_; rintro e w3 ⟨rfl, rfl⟩)
    all_goals (try go_wp2_with fail)
    all_goals go_meet
    all_goals (first | exact ⟨by simp <;> omega, ((hP.setP0 _).below (below_put _ s l (y - n))).drew⟩ | (have e : s + g = 100000 := by omega); rw [e]; exact ⟨by simp <;> omega, ((hP.setP0 _).below (below_put _ s l (y - n))).drew⟩ | (exfalso; omega))
  case rest =>
  obtain ⟨rfl, hP3⟩ := hcut
  clear pl p0 p1 p2 pf0 pf1 pf2 ql q0 q1 q2 qf0 qf1 qf2 hbel hleP hleQ hne hne' pl' p0' p1' p2' pf0' pf1' pf2' hP hP2
  have hP := hP3
  clear hP3
  have hPc := hP
  obtain ⟨⟨pl, p0, p1, p2, pf0, pf1, pf2⟩, ⟨ql, q0, q1, q2, qf0, qf1, qf2⟩, hbel, hleP, hleQ, hne, hne'⟩ := hPc
  go_wp2_with fail
  (try simp only [Exit.inBlock, Exit.then])
  refine bodyPost_ret (v := .tuple #[win 100000 l (y - n), .nilIface]) ?_ rfl ⟨rfl, ?_⟩
  · rw [results_cell_tmp rfl]; go_simp
  · repeat (first | (refine Below.setCell ?_ (by simp <;> omega) _) | exact hbel | (refine Below.alloc ?_ (by simp <;> omega) _))
end Go.Proofs.YtaiapmibpogoeaaDoor
