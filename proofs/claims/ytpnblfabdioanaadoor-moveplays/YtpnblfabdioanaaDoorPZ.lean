/- The texts E of path, at this seat. -/
import Derived.Test.YtpnblfabdioanaaDoorPX
import Derived.Laws.StructEq
namespace Go.Proofs.YtpnblfabdioanaaDoor.Px
open Go.RowKit Go.Lib Go.Sort
set_option linter.unusedVariables false
set_option linter.unusedSimpArgs false


set_option maxRecDepth 100000 in
set_option maxHeartbeats 2000000 in
theorem rmay_calls (n : Int) (w : World) : Calls Tryd.prog 37 #[.int .i64 n] w fun e w' => e = .returned (.bool (byB n)) ∧ w' = w := by
  by_cases h1 : 0 ≤ n
  · by_cases h2 : n ≤ 1073741823
    · go_enter Tryd.func37, Tryd.ntmps37
      go_wp2
      go_ret
      exact ⟨by simp [byB, h1, h2], rfl⟩
    · go_enter Tryd.func37, Tryd.ntmps37
      go_wp2
      go_ret
      exact ⟨by simp [byB, h1, h2], rfl⟩
  · go_enter Tryd.func37, Tryd.ntmps37
    go_wp2
    go_ret
    exact ⟨by simp [byB] <;> omega, rfl⟩
set_option maxRecDepth 100000 in
set_option maxHeartbeats 2000000 in
theorem rpath_i (i o : Int) (k : Bool) (w : World) (a b : Bool) (hi : byB i = a) (ho : byB o = b) (hab : a = false) : Calls Tryd.prog 38 #[path i o k] w fun e w' => e = .returned (.int .i64 1) ∧ Below w.heap.size w w' := by
  subst hab
  go_enter Tryd.func38, Tryd.ntmps38
  go_wp2_with fail
  refine (rmay_calls i _).mono ?_
  rintro e w1 ⟨rfl, rfl⟩
  rw [hi]
  go_wp2_with fail
  refine (rmay_calls o _).mono ?_
  rintro e w1 ⟨rfl, rfl⟩
  rw [ho]
  cases b
  all_goals go_wp2_with fail
  all_goals go_ret
  all_goals exact ⟨rfl, below_put _ _ _ _⟩
set_option maxRecDepth 100000 in
set_option maxHeartbeats 2000000 in
theorem rpath_o (i o : Int) (k : Bool) (w : World) (a b : Bool) (hi : byB i = a) (ho : byB o = b) (ha : a = true) (hab : b = false) : Calls Tryd.prog 38 #[path i o k] w fun e w' => e = .returned (.int .i64 1) ∧ Below w.heap.size w w' := by
  subst ha hab
  go_enter Tryd.func38, Tryd.ntmps38
  go_wp2_with fail
  refine (rmay_calls i _).mono ?_
  rintro e w1 ⟨rfl, rfl⟩
  rw [hi]
  go_wp2_with fail
  refine (rmay_calls o _).mono ?_
  rintro e w1 ⟨rfl, rfl⟩
  rw [ho]
  go_wp2_with fail
  all_goals go_ret
  all_goals exact ⟨rfl, below_put _ _ _ _⟩
set_option maxRecDepth 100000 in
set_option maxHeartbeats 2000000 in
theorem rpath_known (i o : Int) (k : Bool) (w : World) (a b : Bool) (hi : byB i = a) (ho : byB o = b) (ha : a = true) (hab : b = true) : Calls Tryd.prog 38 #[path i o true] w fun e w' => e = .returned (.int .i64 0) ∧ Below w.heap.size w w' := by
  subst ha hab
  obtain ⟨i0, i1⟩ := byB_yes hi
  obtain ⟨o0, o1⟩ := byB_yes ho
  go_enter Tryd.func38, Tryd.ntmps38
  go_wp2_with fail
  refine (rmay_calls i _).mono ?_
  rintro e w1 ⟨rfl, rfl⟩
  rw [hi]
  go_wp2_with fail
  refine (rmay_calls o _).mono ?_
  rintro e w1 ⟨rfl, rfl⟩
  rw [ho]
  go_wp2_with fail
  all_goals go_ret
  all_goals exact ⟨rfl, below_put _ _ _ _⟩
set_option maxRecDepth 100000 in
set_option maxHeartbeats 2000000 in
theorem rpath_shape (i o : Int) (k : Bool) (w : World) (a b : Bool) (hi : byB i = a) (ho : byB o = b) (ha : a = true) (hab : b = true) (hs : 3 * i < o) : Calls Tryd.prog 38 #[path i o false] w fun e w' => e = .returned (.int .i64 3) ∧ Below w.heap.size w w' := by
  subst ha hab
  obtain ⟨i0, i1⟩ := byB_yes hi
  obtain ⟨o0, o1⟩ := byB_yes ho
  go_enter Tryd.func38, Tryd.ntmps38
  go_wp2_with fail
  refine (rmay_calls i _).mono ?_
  rintro e w1 ⟨rfl, rfl⟩
  rw [hi]
  go_wp2_with fail
  refine (rmay_calls o _).mono ?_
  rintro e w1 ⟨rfl, rfl⟩
  rw [ho]
  go_wp2_with fail
  all_goals go_ret
  all_goals exact ⟨rfl, below_put _ _ _ _⟩
set_option maxRecDepth 100000 in
set_option maxHeartbeats 2000000 in
theorem rpath_ok (i o : Int) (k : Bool) (w : World) (a b : Bool) (hi : byB i = a) (ho : byB o = b) (ha : a = true) (hab : b = true) (hs : o ≤ 3 * i) : Calls Tryd.prog 38 #[path i o false] w fun e w' => e = .returned (.int .i64 0) ∧ Below w.heap.size w w' := by
  subst ha hab
  obtain ⟨i0, i1⟩ := byB_yes hi
  obtain ⟨o0, o1⟩ := byB_yes ho
  go_enter Tryd.func38, Tryd.ntmps38
  go_wp2_with fail
  refine (rmay_calls i _).mono ?_
  rintro e w1 ⟨rfl, rfl⟩
  rw [hi]
  go_wp2_with fail
  refine (rmay_calls o _).mono ?_
  rintro e w1 ⟨rfl, rfl⟩
  rw [ho]
  go_wp2_with fail
  all_goals go_ret
  all_goals exact ⟨rfl, below_put _ _ _ _⟩
theorem flt_shape {i o : Int} (hi : byB i = true) (ho : byB o = true) (h : 3 * i < o) : flt i o false = 3 := by
  have h1 := byB_yes hi
  have h2 := byB_yes ho
  have e : bnd i false < o := by have := bnd_three i; omega
  simp [flt, hi, ho, e]
theorem le_bnd {i o : Int} (ho : byB o = true) (h : o ≤ 3 * i) : o ≤ bnd i false := by
  have h2 := byB_yes ho
  show o ≤ (if 3 * i < 1073741823 then 3 * i else 1073741823)
  split <;> omega
theorem rpath_calls (i o : Int) (k : Bool) (w : World) : Calls Tryd.prog 38 #[path i o k] w fun e w' => e = .returned (.int .i64 (flt i o k)) ∧ Below w.heap.size w w' := by
  cases hi : byB i with
  | false => rw [show flt i o k = 1 by simp [flt, hi]]; exact rpath_i i o k w false _ hi rfl rfl
  | true => cases ho : byB o with
    | false => rw [show flt i o k = 1 by simp [flt, ho]]; exact rpath_o i o k w true false hi ho rfl rfl
    | true =>
      cases k with
      | true =>
        have h2 := byB_yes ho
        rw [show flt i o true = 0 by simp [flt, hi, ho, bnd]; omega]
        exact rpath_known i o true w true true hi ho rfl rfl
      | false =>
        by_cases hs : 3 * i < o
        · rw [flt_shape hi ho hs]; exact rpath_shape i o true w true true hi ho rfl rfl hs
        · have e := le_bnd (i := i) ho (by omega)
          rw [show flt i o false = 0 by simp [flt, hi, ho]; omega]
          exact rpath_ok i o true w true true hi ho rfl rfl (by omega)

set_option maxRecDepth 100000 in
set_option maxHeartbeats 2000000 in
theorem rcame_f (i o : Int) (k : Bool) (n : Int) (w : World) (f : Int) (h : flt i o k = f) (h0 : f ≠ 0) : Calls Tryd.prog 14 #[path i o k, .int .i64 n] w fun e w' => e = .returned (.tuple #[path 0 0 false, .int .i64 f]) ∧ Below w.heap.size w w' := by
  go_enter Tryd.func14, Tryd.ntmps14
  go_wp2_with fail
  have hP := pair_start w i o k
  generalize w.heap.size = P at hP ⊢
  generalize P + 1 = Q at hP ⊢
  refine (rpath_calls i o k _).mono ?_
  rintro e w1 ⟨rfl, hb1⟩
  rw [h]
  have hP := hP.below hb1
  clear hb1
  have hPc := hP
  obtain ⟨⟨pl, p0, p1, p2, pf0, pf1, pf2⟩, ⟨ql, q0, q1, q2, qf0, qf1, qf2⟩, hbel, hleP, hleQ, hne, hne'⟩ := hPc
  go_wp2_with fail
  (try simp only [Exit.inBlock, Exit.then])
  refine bodyPost_ret (v := .tuple #[path 0 0 false, .int .i64 f]) ?_ rfl ⟨rfl, ?_⟩
  · rw [results_cell_tmp rfl]; go_simp
  · repeat (first | exact hbel | (refine Below.alloc ?_ (by simp <;> omega) _) | (refine Below.setCell ?_ (by simp <;> omega) _))
set_option maxRecDepth 100000 in
set_option maxHeartbeats 2000000 in
theorem rcame_lo (i o : Int) (k : Bool) (n : Int) (w : World) (h : flt i o k = 0) (hn : n < 0) : Calls Tryd.prog 14 #[path i o k, .int .i64 n] w fun e w' => e = .returned (.tuple #[path 0 0 false, .int .i64 1]) ∧ Below w.heap.size w w' := by
  obtain ⟨hi, ho, hbd⟩ := flt_zero h
  obtain ⟨i0, i1⟩ := byB_yes hi
  obtain ⟨o0, o1⟩ := byB_yes ho
  go_enter Tryd.func14, Tryd.ntmps14
  go_wp2_with fail
  have hP := pair_start w i o k
  generalize w.heap.size = P at hP ⊢
  generalize P + 1 = Q at hP ⊢
  refine (rpath_calls i o k _).mono ?_
  rintro e w1 ⟨rfl, hb1⟩
  rw [h]
  have hP := hP.below hb1
  clear hb1
  have hPc := hP
  obtain ⟨⟨pl, p0, p1, p2, pf0, pf1, pf2⟩, ⟨ql, q0, q1, q2, qf0, qf1, qf2⟩, hbel, hleP, hleQ, hne, hne'⟩ := hPc
  go_wp2_with fail
  (try simp only [Exit.inBlock, Exit.then])
  refine bodyPost_ret (v := .tuple #[path 0 0 false, .int .i64 1]) ?_ rfl ⟨rfl, ?_⟩
  · rw [results_cell_tmp rfl]; go_simp
  · repeat (first | exact hbel | (refine Below.alloc ?_ (by simp <;> omega) _) | (refine Below.setCell ?_ (by simp <;> omega) _))
set_option maxRecDepth 100000 in
set_option maxHeartbeats 2000000 in
theorem rcame_hi (i o : Int) (k : Bool) (n : Int) (w : World) (h : flt i o k = 0) (hn : 200 < n) : Calls Tryd.prog 14 #[path i o k, .int .i64 n] w fun e w' => e = .returned (.tuple #[path 0 0 false, .int .i64 1]) ∧ Below w.heap.size w w' := by
  obtain ⟨hi, ho, hbd⟩ := flt_zero h
  obtain ⟨i0, i1⟩ := byB_yes hi
  obtain ⟨o0, o1⟩ := byB_yes ho
  go_enter Tryd.func14, Tryd.ntmps14
  go_wp2_with fail
  have hP := pair_start w i o k
  generalize w.heap.size = P at hP ⊢
  generalize P + 1 = Q at hP ⊢
  refine (rpath_calls i o k _).mono ?_
  rintro e w1 ⟨rfl, hb1⟩
  rw [h]
  have hP := hP.below hb1
  clear hb1
  have hPc := hP
  obtain ⟨⟨pl, p0, p1, p2, pf0, pf1, pf2⟩, ⟨ql, q0, q1, q2, qf0, qf1, qf2⟩, hbel, hleP, hleQ, hne, hne'⟩ := hPc
  go_wp2_with fail
  (try simp only [Exit.inBlock, Exit.then])
  refine bodyPost_ret (v := .tuple #[path 0 0 false, .int .i64 1]) ?_ rfl ⟨rfl, ?_⟩
  · rw [results_cell_tmp rfl]; go_simp
  · repeat (first | exact hbel | (refine Below.alloc ?_ (by simp <;> omega) _) | (refine Below.setCell ?_ (by simp <;> omega) _))
set_option maxRecDepth 100000 in
set_option maxHeartbeats 2000000 in
theorem rcame_s (i o : Int) (k : Bool) (n : Int) (w : World) (h : flt i o k = 0) (hn : pkB n = true) (hs : byB (i + n) = false) : Calls Tryd.prog 14 #[path i o k, .int .i64 n] w fun e w' => e = .returned (.tuple #[path 0 0 false, .int .i64 1]) ∧ Below w.heap.size w w' := by
  obtain ⟨hi, ho, hbd⟩ := flt_zero h
  obtain ⟨i0, i1⟩ := byB_yes hi
  obtain ⟨o0, o1⟩ := byB_yes ho
  obtain ⟨n0, n1⟩ := pkB_yes hn
  go_enter Tryd.func14, Tryd.ntmps14
  go_wp2_with fail
  have hP := pair_start w i o k
  generalize w.heap.size = P at hP ⊢
  generalize P + 1 = Q at hP ⊢
  refine (rpath_calls i o k _).mono ?_
  rintro e w1 ⟨rfl, hb1⟩
  rw [h]
  have hP := hP.below hb1
  clear hb1
  have hPc := hP
  obtain ⟨⟨pl, p0, p1, p2, pf0, pf1, pf2⟩, ⟨ql, q0, q1, q2, qf0, qf1, qf2⟩, hbel, hleP, hleQ, hne, hne'⟩ := hPc
  go_wp2_with fail
  refine (rmay_calls (i + n) _).mono ?_
  rintro e w2 ⟨rfl, rfl⟩
  rw [hs]
  go_wp2_with fail
  (try simp only [Exit.inBlock, Exit.then])
  refine bodyPost_ret (v := .tuple #[path 0 0 false, .int .i64 1]) ?_ rfl ⟨rfl, ?_⟩
  · rw [results_cell_tmp rfl]; go_simp
  · repeat (first | exact hbel | (refine Below.alloc ?_ (by simp <;> omega) _) | (refine Below.setCell ?_ (by simp <;> omega) _))
set_option maxRecDepth 100000 in
set_option maxHeartbeats 2000000 in
theorem rsend_f (i o : Int) (k : Bool) (n : Int) (w : World) (f : Int) (h : flt i o k = f) (h0 : f ≠ 0) : Calls Tryd.prog 15 #[path i o k, .int .i64 n] w fun e w' => e = .returned (.tuple #[path 0 0 false, .int .i64 f]) ∧ Below w.heap.size w w' := by
  go_enter Tryd.func15, Tryd.ntmps15
  go_wp2_with fail
  have hP := pair_start w i o k
  generalize w.heap.size = P at hP ⊢
  generalize P + 1 = Q at hP ⊢
  refine (rpath_calls i o k _).mono ?_
  rintro e w1 ⟨rfl, hb1⟩
  rw [h]
  have hP := hP.below hb1
  clear hb1
  have hPc := hP
  obtain ⟨⟨pl, p0, p1, p2, pf0, pf1, pf2⟩, ⟨ql, q0, q1, q2, qf0, qf1, qf2⟩, hbel, hleP, hleQ, hne, hne'⟩ := hPc
  go_wp2_with fail
  (try simp only [Exit.inBlock, Exit.then])
  refine bodyPost_ret (v := .tuple #[path 0 0 false, .int .i64 f]) ?_ rfl ⟨rfl, ?_⟩
  · rw [results_cell_tmp rfl]; go_simp
  · repeat (first | exact hbel | (refine Below.alloc ?_ (by simp <;> omega) _) | (refine Below.setCell ?_ (by simp <;> omega) _))
set_option maxRecDepth 100000 in
set_option maxHeartbeats 2000000 in
theorem rsend_lo (i o : Int) (k : Bool) (n : Int) (w : World) (h : flt i o k = 0) (hn : n < 0) : Calls Tryd.prog 15 #[path i o k, .int .i64 n] w fun e w' => e = .returned (.tuple #[path 0 0 false, .int .i64 1]) ∧ Below w.heap.size w w' := by
  obtain ⟨hi, ho, hbd⟩ := flt_zero h
  obtain ⟨i0, i1⟩ := byB_yes hi
  obtain ⟨o0, o1⟩ := byB_yes ho
  go_enter Tryd.func15, Tryd.ntmps15
  go_wp2_with fail
  have hP := pair_start w i o k
  generalize w.heap.size = P at hP ⊢
  generalize P + 1 = Q at hP ⊢
  refine (rpath_calls i o k _).mono ?_
  rintro e w1 ⟨rfl, hb1⟩
  rw [h]
  have hP := hP.below hb1
  clear hb1
  have hPc := hP
  obtain ⟨⟨pl, p0, p1, p2, pf0, pf1, pf2⟩, ⟨ql, q0, q1, q2, qf0, qf1, qf2⟩, hbel, hleP, hleQ, hne, hne'⟩ := hPc
  go_wp2_with fail
  (try simp only [Exit.inBlock, Exit.then])
  refine bodyPost_ret (v := .tuple #[path 0 0 false, .int .i64 1]) ?_ rfl ⟨rfl, ?_⟩
  · rw [results_cell_tmp rfl]; go_simp
  · repeat (first | exact hbel | (refine Below.alloc ?_ (by simp <;> omega) _) | (refine Below.setCell ?_ (by simp <;> omega) _))
set_option maxRecDepth 100000 in
set_option maxHeartbeats 2000000 in
theorem rsend_hi (i o : Int) (k : Bool) (n : Int) (w : World) (h : flt i o k = 0) (hn : 200 < n) : Calls Tryd.prog 15 #[path i o k, .int .i64 n] w fun e w' => e = .returned (.tuple #[path 0 0 false, .int .i64 1]) ∧ Below w.heap.size w w' := by
  obtain ⟨hi, ho, hbd⟩ := flt_zero h
  obtain ⟨i0, i1⟩ := byB_yes hi
  obtain ⟨o0, o1⟩ := byB_yes ho
  go_enter Tryd.func15, Tryd.ntmps15
  go_wp2_with fail
  have hP := pair_start w i o k
  generalize w.heap.size = P at hP ⊢
  generalize P + 1 = Q at hP ⊢
  refine (rpath_calls i o k _).mono ?_
  rintro e w1 ⟨rfl, hb1⟩
  rw [h]
  have hP := hP.below hb1
  clear hb1
  have hPc := hP
  obtain ⟨⟨pl, p0, p1, p2, pf0, pf1, pf2⟩, ⟨ql, q0, q1, q2, qf0, qf1, qf2⟩, hbel, hleP, hleQ, hne, hne'⟩ := hPc
  go_wp2_with fail
  (try simp only [Exit.inBlock, Exit.then])
  refine bodyPost_ret (v := .tuple #[path 0 0 false, .int .i64 1]) ?_ rfl ⟨rfl, ?_⟩
  · rw [results_cell_tmp rfl]; go_simp
  · repeat (first | exact hbel | (refine Below.alloc ?_ (by simp <;> omega) _) | (refine Below.setCell ?_ (by simp <;> omega) _))
set_option maxRecDepth 100000 in
set_option maxHeartbeats 2000000 in
theorem rsend_s (i o : Int) (k : Bool) (n : Int) (w : World) (h : flt i o k = 0) (hn : pkB n = true) (hs : byB (o + n) = false) : Calls Tryd.prog 15 #[path i o k, .int .i64 n] w fun e w' => e = .returned (.tuple #[path 0 0 false, .int .i64 1]) ∧ Below w.heap.size w w' := by
  obtain ⟨hi, ho, hbd⟩ := flt_zero h
  obtain ⟨i0, i1⟩ := byB_yes hi
  obtain ⟨o0, o1⟩ := byB_yes ho
  obtain ⟨n0, n1⟩ := pkB_yes hn
  go_enter Tryd.func15, Tryd.ntmps15
  go_wp2_with fail
  have hP := pair_start w i o k
  generalize w.heap.size = P at hP ⊢
  generalize P + 1 = Q at hP ⊢
  refine (rpath_calls i o k _).mono ?_
  rintro e w1 ⟨rfl, hb1⟩
  rw [h]
  have hP := hP.below hb1
  clear hb1
  have hPc := hP
  obtain ⟨⟨pl, p0, p1, p2, pf0, pf1, pf2⟩, ⟨ql, q0, q1, q2, qf0, qf1, qf2⟩, hbel, hleP, hleQ, hne, hne'⟩ := hPc
  go_wp2_with fail
  refine (rmay_calls (o + n) _).mono ?_
  rintro e w2 ⟨rfl, rfl⟩
  rw [hs]
  go_wp2_with fail
  (try simp only [Exit.inBlock, Exit.then])
  refine bodyPost_ret (v := .tuple #[path 0 0 false, .int .i64 1]) ?_ rfl ⟨rfl, ?_⟩
  · rw [results_cell_tmp rfl]; go_simp
  · repeat (first | exact hbel | (refine Below.alloc ?_ (by simp <;> omega) _) | (refine Below.setCell ?_ (by simp <;> omega) _))
set_option maxRecDepth 100000 in
set_option maxHeartbeats 2000000 in
theorem rcame_ok (i o : Int) (k : Bool) (n : Int) (w : World) (h : flt i o k = 0) (hn : pkB n = true) (hs : byB (i + n) = true) : Calls Tryd.prog 14 #[path i o k, .int .i64 n] w fun e w' => e = .returned (.tuple #[path (i + n) o k, .int .i64 0]) ∧ Below w.heap.size w w' := by
  obtain ⟨hi, ho, hbd⟩ := flt_zero h
  obtain ⟨i0, i1⟩ := byB_yes hi
  obtain ⟨o0, o1⟩ := byB_yes ho
  obtain ⟨n0, n1⟩ := pkB_yes hn
  go_enter Tryd.func14, Tryd.ntmps14
  go_wp2_with fail
  have hP := pair_start w i o k
  generalize w.heap.size = P at hP ⊢
  generalize P + 1 = Q at hP ⊢
  refine (rpath_calls i o k _).mono ?_
  rintro e w1 ⟨rfl, hb1⟩
  rw [h]
  have hP := hP.below hb1
  clear hb1
  have hPc := hP
  obtain ⟨⟨pl, p0, p1, p2, pf0, pf1, pf2⟩, ⟨ql, q0, q1, q2, qf0, qf1, qf2⟩, hbel, hleP, hleQ, hne, hne'⟩ := hPc
  go_wp2_with fail
  refine (rmay_calls (i + n) _).mono ?_
  rintro e w2 ⟨rfl, rfl⟩
  rw [hs]
  go_wp2_with fail
  (try simp only [Exit.inBlock, Exit.then])
  refine bodyPost_ret (v := .tuple #[path (i + n) o k, .int .i64 0]) ?_ rfl ⟨rfl, ?_⟩
  · rw [results_cell_tmp rfl]; go_simp
  · repeat (first | exact hbel | (refine Below.alloc ?_ (by simp <;> omega) _) | (refine Below.setCell ?_ (by simp <;> omega) _))
set_option maxRecDepth 100000 in
set_option maxHeartbeats 2000000 in
theorem rsend_known (i o : Int) (n : Int) (w : World) (h : flt i o true = 0) (hn : pkB n = true) (hs : byB (o + n) = true) : Calls Tryd.prog 15 #[path i o true, .int .i64 n] w fun e w' => e = .returned (.tuple #[path i (o + n) true, .int .i64 0]) ∧ Below w.heap.size w w' := by
  obtain ⟨hi, ho, hbd⟩ := flt_zero h
  obtain ⟨i0, i1⟩ := byB_yes hi
  obtain ⟨o0, o1⟩ := byB_yes ho
  obtain ⟨n0, n1⟩ := pkB_yes hn
  go_enter Tryd.func15, Tryd.ntmps15
  go_wp2_with fail
  have hP := pair_start w i o true
  generalize w.heap.size = P at hP ⊢
  generalize P + 1 = Q at hP ⊢
  refine (rpath_calls i o true _).mono ?_
  rintro e w1 ⟨rfl, hb1⟩
  rw [h]
  have hP := hP.below hb1
  clear hb1
  have hPc := hP
  obtain ⟨⟨pl, p0, p1, p2, pf0, pf1, pf2⟩, ⟨ql, q0, q1, q2, qf0, qf1, qf2⟩, hbel, hleP, hleQ, hne, hne'⟩ := hPc
  go_wp2_with fail
  refine (rmay_calls (o + n) _).mono ?_
  rintro e w2 ⟨rfl, rfl⟩
  rw [hs]
  go_wp2_with fail
  (try simp only [Exit.inBlock, Exit.then])
  refine bodyPost_ret (v := .tuple #[path i (o + n) true, .int .i64 0]) ?_ rfl ⟨rfl, ?_⟩
  · rw [results_cell_tmp rfl]; go_simp
  · repeat (first | exact hbel | (refine Below.alloc ?_ (by simp <;> omega) _) | (refine Below.setCell ?_ (by simp <;> omega) _))
set_option maxRecDepth 100000 in
set_option maxHeartbeats 2000000 in
theorem rsend_w (i o : Int) (n : Int) (w : World) (h : flt i o false = 0) (hn : pkB n = true) (hs : byB (o + n) = true) (hw : 3 * i < o + n) : Calls Tryd.prog 15 #[path i o false, .int .i64 n] w fun e w' => e = .returned (.tuple #[path 0 0 false, .int .i64 8]) ∧ Below w.heap.size w w' := by
  obtain ⟨hi, ho, hbd⟩ := flt_zero h
  obtain ⟨i0, i1⟩ := byB_yes hi
  obtain ⟨o0, o1⟩ := byB_yes ho
  obtain ⟨n0, n1⟩ := pkB_yes hn
  go_enter Tryd.func15, Tryd.ntmps15
  go_wp2_with fail
  have hP := pair_start w i o false
  generalize w.heap.size = P at hP ⊢
  generalize P + 1 = Q at hP ⊢
  refine (rpath_calls i o false _).mono ?_
  rintro e w1 ⟨rfl, hb1⟩
  rw [h]
  have hP := hP.below hb1
  clear hb1
  have hPc := hP
  obtain ⟨⟨pl, p0, p1, p2, pf0, pf1, pf2⟩, ⟨ql, q0, q1, q2, qf0, qf1, qf2⟩, hbel, hleP, hleQ, hne, hne'⟩ := hPc
  go_wp2_with fail
  refine (rmay_calls (o + n) _).mono ?_
  rintro e w2 ⟨rfl, rfl⟩
  rw [hs]
  go_wp2_with fail
  (try simp only [Exit.inBlock, Exit.then])
  refine bodyPost_ret (v := .tuple #[path 0 0 false, .int .i64 8]) ?_ rfl ⟨rfl, ?_⟩
  · rw [results_cell_tmp rfl]; go_simp
  · repeat (first | exact hbel | (refine Below.alloc ?_ (by simp <;> omega) _) | (refine Below.setCell ?_ (by simp <;> omega) _))
set_option maxRecDepth 100000 in
set_option maxHeartbeats 2000000 in
theorem rsend_ok (i o : Int) (n : Int) (w : World) (h : flt i o false = 0) (hn : pkB n = true) (hs : byB (o + n) = true) (hw : o + n ≤ 3 * i) : Calls Tryd.prog 15 #[path i o false, .int .i64 n] w fun e w' => e = .returned (.tuple #[path i (o + n) false, .int .i64 0]) ∧ Below w.heap.size w w' := by
  obtain ⟨hi, ho, hbd⟩ := flt_zero h
  obtain ⟨i0, i1⟩ := byB_yes hi
  obtain ⟨o0, o1⟩ := byB_yes ho
  obtain ⟨n0, n1⟩ := pkB_yes hn
  go_enter Tryd.func15, Tryd.ntmps15
  go_wp2_with fail
  have hP := pair_start w i o false
  generalize w.heap.size = P at hP ⊢
  generalize P + 1 = Q at hP ⊢
  refine (rpath_calls i o false _).mono ?_
  rintro e w1 ⟨rfl, hb1⟩
  rw [h]
  have hP := hP.below hb1
  clear hb1
  have hPc := hP
  obtain ⟨⟨pl, p0, p1, p2, pf0, pf1, pf2⟩, ⟨ql, q0, q1, q2, qf0, qf1, qf2⟩, hbel, hleP, hleQ, hne, hne'⟩ := hPc
  go_wp2_with fail
  refine (rmay_calls (o + n) _).mono ?_
  rintro e w2 ⟨rfl, rfl⟩
  rw [hs]
  go_wp2_with fail
  (try simp only [Exit.inBlock, Exit.then])
  refine bodyPost_ret (v := .tuple #[path i (o + n) false, .int .i64 0]) ?_ rfl ⟨rfl, ?_⟩
  · rw [results_cell_tmp rfl]; go_simp
  · repeat (first | exact hbel | (refine Below.alloc ?_ (by simp <;> omega) _) | (refine Below.setCell ?_ (by simp <;> omega) _))

theorem rcame_calls (i o : Int) (k : Bool) (n : Int) (w : World) : Calls Tryd.prog 14 #[path i o k, .int .i64 n] w fun e w' => e = .returned (.tuple #[cameP i o k n, .int .i64 (cameF i o k n)]) ∧ Below w.heap.size w w' := by
  by_cases h : flt i o k = 0
  · cases hn : pkB n with
    | false => have e : cameF i o k n = 1 := by simp [cameF, h, hn]
               rw [cameP_no (by omega), e]
               rcases pkB_no hn with c | c
               · exact rcame_lo i o k n w h c
               · exact rcame_hi i o k n w h c
    | true => cases hs : byB (i + n) with
      | false => have e : cameF i o k n = 1 := by simp [cameF, h, hs]
                 rw [cameP_no (by omega), e]; exact rcame_s i o k n w h hn hs
      | true => have e : cameF i o k n = 0 := by simp [cameF, h, hn, hs]
                rw [cameP_ok e, e]; exact rcame_ok i o k n w h hn hs
  · have e : cameF i o k n = flt i o k := by simp [cameF, h]
    rw [cameP_no (by omega), e]; exact rcame_f i o k n w _ rfl h
theorem rsend_calls (i o : Int) (k : Bool) (n : Int) (w : World) : Calls Tryd.prog 15 #[path i o k, .int .i64 n] w fun e w' => e = .returned (.tuple #[sendP i o k n, .int .i64 (sendF i o k n)]) ∧ Below w.heap.size w w' := by
  by_cases h : flt i o k = 0
  · cases hn : pkB n with
    | false => have e : sendF i o k n = 1 := by simp [sendF, h, hn]
               rw [sendP_no (by omega), e]
               rcases pkB_no hn with c | c
               · exact rsend_lo i o k n w h c
               · exact rsend_hi i o k n w h c
    | true => cases hs : byB (o + n) with
      | false => have e : sendF i o k n = 1 := by simp [sendF, h, hs]
                 rw [sendP_no (by omega), e]; exact rsend_s i o k n w h hn hs
      | true =>
        have hm := byB_yes hs
        cases k with
        | true => have e : sendF i o true n = 0 := by simp [sendF, h, hn, hs, bnd]; omega
                  rw [sendP_ok e, e]; exact rsend_known i o n w h hn hs
        | false =>
          by_cases hw : 3 * i < o + n
          · have hb : bnd i false < o + n := by have := bnd_three i; omega
            have e : sendF i o false n = 8 := by simp [sendF, h, hn, hs, hb]
            rw [sendP_no (by omega), e]; exact rsend_w i o n w h hn hs hw
          · have hb : ¬ bnd i false < o + n := by have := le_bnd (i := i) hs (by omega); omega
            have e : sendF i o false n = 0 := by simp [sendF, h, hn, hs, hb]
            rw [sendP_ok e, e]; exact rsend_ok i o n w h hn hs (by omega)
  · have e : sendF i o k n = flt i o k := by simp [sendF, h]
    rw [sendP_no (by omega), e]; exact rsend_f i o k n w _ rfl h

theorem structP : Tryd.prog.underlying 47 = some (.struct (Tryd.prog.fieldsOf 47)) := by kernel_rfl
theorem stoodP : Tryd.prog.stoodInHeld 47 = false := by kernel_rfl
theorem guardP (op : BinOp) (x y : Operand) (xs ys : Array Value) (w : World) : (eqGuard op 47 x y (.agg xs) (.agg ys)).run Tryd.prog w = .ok () w := run_eqGuard_agg w op 47 x y xs ys (by kernel_rfl)
theorem eqP (a b : Int) (c : Bool) (w : World) : (binOp .eql 47 (path a b c) (path a b c)).run Tryd.prog w = .ok (.bool true) w := by
  have u3 := Tryd.underlying3
  have a3 := Tryd.isAgg3
  have z3 := Tryd.sizeOf3
  have u4 := Tryd.underlying4
  have a4 := Tryd.isAgg4
  have z4 := Tryd.sizeOf4
  rw [run_eql_struct, show (10000 : Nat) = 9999 + 1 from rfl, run_equalIn_agg w 9999 47 _ _ structP stoodP]
  simp only [Program.fieldsOf, Tryd.underlying47]
  go_simp
end Go.Proofs.YtpnblfabdioanaaDoor.Px
