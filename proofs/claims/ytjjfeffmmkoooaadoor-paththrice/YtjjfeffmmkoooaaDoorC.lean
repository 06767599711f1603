/- What Send and Room answer; all of them told by what is wrong. -/
import Derived.Test.YtjjfeffmmkoooaaDoorB
namespace Go.Proofs.YtjjfeffmmkoooaaDoor
open Go.RowKit Go.Lib Go.Sort
set_option linter.unusedVariables false
set_option linter.unusedSimpArgs false

theorem wrap_small (x : Int) (h0 : -4000000000 ≤ x) (h1 : x ≤ 4000000000) : IntKind.i64.wrap x = x := by simp [IntKind.wrap, IntKind.bits, IntKind.signed]; omega

set_option maxRecDepth 100000 in
set_option maxHeartbeats 2000000 in
theorem send_f (i o : Int) (k : Bool) (n : Int) (w : World) (f : Int) (h : flt i o k = f) (h0 : f ≠ 0) : Calls Tryd.prog 12 #[path i o k, .int .i64 n] w fun e w' => e = .returned (.tuple #[path 0 0 false, .iface 41 (.int .i64 f)]) ∧ Below w.heap.size w w' := by
  go_enter Tryd.func12, Tryd.ntmps12
  go_wp2_with fail
  have hP := pair_start w i o k
  generalize w.heap.size = P at hP ⊢
  generalize P + 1 = Q at hP ⊢
  refine (check_no i o k f _ h h0).mono ?_
  rintro e w1 ⟨rfl, hb1⟩
  have hP := hP.below hb1
  clear hb1
  have hPc := hP
  obtain ⟨⟨pl, p0, p1, p2, pf0, pf1, pf2⟩, ⟨ql, q0, q1, q2, qf0, qf1, qf2⟩, hbel, hleP, hleQ, hne, hne'⟩ := hPc
  go_wp2_with fail
  (try simp only [Exit.inBlock, Exit.then])
  refine bodyPost_ret (v := .tuple #[path 0 0 false, .iface 41 (.int .i64 f)]) ?_ rfl ⟨rfl, ?_⟩
  · rw [results_cell_tmp rfl]; go_simp
  · repeat (first | exact hbel | (refine Below.alloc ?_ (by simp <;> omega) _) | (refine Below.setCell ?_ (by simp <;> omega) _))
set_option maxRecDepth 100000 in
set_option maxHeartbeats 2000000 in
theorem send_n (i o : Int) (k : Bool) (n : Int) (w : World) (h : flt i o k = 0) (hn : pkB n = false) : Calls Tryd.prog 12 #[path i o k, .int .i64 n] w fun e w' => e = .returned (.tuple #[path 0 0 false, .iface 41 (.int .i64 1)]) ∧ Below w.heap.size w w' := by
  obtain ⟨hi, ho, hbd⟩ := flt_zero h
  obtain ⟨i0, i1⟩ := byB_yes hi
  obtain ⟨o0, o1⟩ := byB_yes ho
  go_enter Tryd.func12, Tryd.ntmps12
  go_wp2_with fail
  have hP := pair_start w i o k
  generalize w.heap.size = P at hP ⊢
  generalize P + 1 = Q at hP ⊢
  refine (check_ok i o k _ h).mono ?_
  rintro e w1 ⟨rfl, hb1⟩
  have hP := hP.below hb1
  clear hb1
  have hPc := hP
  obtain ⟨⟨pl, p0, p1, p2, pf0, pf1, pf2⟩, ⟨ql, q0, q1, q2, qf0, qf1, qf2⟩, hbel, hleP, hleQ, hne, hne'⟩ := hPc
  go_wp2_with fail
  refine (isPacket_calls n _).mono ?_
  rintro e w2 ⟨rfl, rfl⟩
  rw [hn]
  go_wp2_with fail
  (try simp only [Exit.inBlock, Exit.then])
  refine bodyPost_ret (v := .tuple #[path 0 0 false, .iface 41 (.int .i64 1)]) ?_ rfl ⟨rfl, ?_⟩
  · rw [results_cell_tmp rfl]; go_simp
  · repeat (first | exact hbel | (refine Below.alloc ?_ (by simp <;> omega) _) | (refine Below.setCell ?_ (by simp <;> omega) _))
set_option maxRecDepth 100000 in
set_option maxHeartbeats 2000000 in
theorem send_s (i o : Int) (k : Bool) (n : Int) (w : World) (h : flt i o k = 0) (hn : pkB n = true) (hs : byB (o + n) = false) : Calls Tryd.prog 12 #[path i o k, .int .i64 n] w fun e w' => e = .returned (.tuple #[path 0 0 false, .iface 41 (.int .i64 1)]) ∧ Below w.heap.size w w' := by
  obtain ⟨hi, ho, hbd⟩ := flt_zero h
  obtain ⟨i0, i1⟩ := byB_yes hi
  obtain ⟨o0, o1⟩ := byB_yes ho
  obtain ⟨n0, n1⟩ := pkB_yes hn
  go_enter Tryd.func12, Tryd.ntmps12
  go_wp2_with fail
  have hP := pair_start w i o k
  generalize w.heap.size = P at hP ⊢
  generalize P + 1 = Q at hP ⊢
  refine (check_ok i o k _ h).mono ?_
  rintro e w1 ⟨rfl, hb1⟩
  have hP := hP.below hb1
  clear hb1
  have hPc := hP
  obtain ⟨⟨pl, p0, p1, p2, pf0, pf1, pf2⟩, ⟨ql, q0, q1, q2, qf0, qf1, qf2⟩, hbel, hleP, hleQ, hne, hne'⟩ := hPc
  go_wp2_with fail
  refine (isPacket_calls n _).mono ?_
  rintro e w2 ⟨rfl, rfl⟩
  rw [hn]
  go_wp2_with fail
  refine (isBytes_calls (o + n) _).mono ?_
  rintro e w2 ⟨rfl, rfl⟩
  rw [hs]
  go_wp2_with fail
  (try simp only [Exit.inBlock, Exit.then])
  refine bodyPost_ret (v := .tuple #[path 0 0 false, .iface 41 (.int .i64 1)]) ?_ rfl ⟨rfl, ?_⟩
  · rw [results_cell_tmp rfl]; go_simp
  · repeat (first | exact hbel | (refine Below.alloc ?_ (by simp <;> omega) _) | (refine Below.setCell ?_ (by simp <;> omega) _))
set_option maxRecDepth 100000 in
set_option maxHeartbeats 2000000 in
theorem send_w (i o : Int) (k : Bool) (n : Int) (w : World) (h : flt i o k = 0) (hn : pkB n = true) (hs : byB (o + n) = true) (hw : bnd i k < o + n) : Calls Tryd.prog 12 #[path i o k, .int .i64 n] w fun e w' => e = .returned (.tuple #[path 0 0 false, .iface 41 (.int .i64 8)]) ∧ Below w.heap.size w w' := by
  obtain ⟨hi, ho, hbd⟩ := flt_zero h
  obtain ⟨i0, i1⟩ := byB_yes hi
  obtain ⟨o0, o1⟩ := byB_yes ho
  obtain ⟨n0, n1⟩ := pkB_yes hn
  go_enter Tryd.func12, Tryd.ntmps12
  go_wp2_with fail
  have hP := pair_start w i o k
  generalize w.heap.size = P at hP ⊢
  generalize P + 1 = Q at hP ⊢
  refine (check_ok i o k _ h).mono ?_
  rintro e w1 ⟨rfl, hb1⟩
  have hP := hP.below hb1
  clear hb1
  have hPc := hP
  obtain ⟨⟨pl, p0, p1, p2, pf0, pf1, pf2⟩, ⟨ql, q0, q1, q2, qf0, qf1, qf2⟩, hbel, hleP, hleQ, hne, hne'⟩ := hPc
  go_wp2_with fail
  refine (isPacket_calls n _).mono ?_
  rintro e w2 ⟨rfl, rfl⟩
  rw [hn]
  go_wp2_with fail
  refine (isBytes_calls (o + n) _).mono ?_
  rintro e w2 ⟨rfl, rfl⟩
  rw [hs]
  go_wp2_with fail
  have hP2 := hP.below (below_put w2 i o k)
  have hPc := hP2
  obtain ⟨⟨pl', p0', p1', p2', pf0', pf1', pf2'⟩, _⟩ := hPc
  have hwr : IntKind.i64.wrap (o + n) = o + n := wrap_small _ (by omega) (by omega)
  go_cut [32] (fun s32 wx => s32 = .bool true ∧ ∃ W, wx = W.drew ∧ Pair w W P Q i o k)
  case first =>
    go_region_with (go_at_call 18; refine (bound_calls i o k _ hi).mono ?_; rintro e w3 ⟨rfl, rfl⟩)
    all_goals (try go_wp2_with fail)
    all_goals go_meet
    all_goals exact ⟨by simp <;> omega, _, rfl, hP2⟩
  case rest =>
  obtain ⟨rfl, W, rfl, hP3⟩ := hcut
  clear pl p0 p1 p2 pf0 pf1 pf2 ql q0 q1 q2 qf0 qf1 qf2 hbel hleP hleQ hne hne' pl' p0' p1' p2' pf0' pf1' pf2' hP hP2
  have hP := hP3
  clear hP3
  have hPc := hP
  obtain ⟨⟨pl, p0, p1, p2, pf0, pf1, pf2⟩, ⟨ql, q0, q1, q2, qf0, qf1, qf2⟩, hbel, hleP, hleQ, hne, hne'⟩ := hPc
  go_wp2_with fail
  (try simp only [Exit.inBlock, Exit.then])
  refine bodyPost_ret (v := .tuple #[path 0 0 false, .iface 41 (.int .i64 8)]) ?_ rfl ⟨rfl, ?_⟩
  · rw [results_cell_tmp rfl]; go_simp
  · repeat (first | (refine Below.drew ?_) | exact hbel | (refine Below.alloc ?_ (by simp <;> omega) _) | (refine Below.setCell ?_ (by simp <;> omega) _))
set_option maxRecDepth 100000 in
set_option maxHeartbeats 2000000 in
theorem send_ok (i o : Int) (k : Bool) (n : Int) (w : World) (h : flt i o k = 0) (hn : pkB n = true) (hs : byB (o + n) = true) (hw : o + n ≤ bnd i k) : Calls Tryd.prog 12 #[path i o k, .int .i64 n] w fun e w' => e = .returned (.tuple #[path i (o + n) k, .nilIface]) ∧ Below w.heap.size w w' := by
  obtain ⟨hi, ho, hbd⟩ := flt_zero h
  obtain ⟨i0, i1⟩ := byB_yes hi
  obtain ⟨o0, o1⟩ := byB_yes ho
  obtain ⟨n0, n1⟩ := pkB_yes hn
  go_enter Tryd.func12, Tryd.ntmps12
  go_wp2_with fail
  have hP := pair_start w i o k
  generalize w.heap.size = P at hP ⊢
  generalize P + 1 = Q at hP ⊢
  refine (check_ok i o k _ h).mono ?_
  rintro e w1 ⟨rfl, hb1⟩
  have hP := hP.below hb1
  clear hb1
  have hPc := hP
  obtain ⟨⟨pl, p0, p1, p2, pf0, pf1, pf2⟩, ⟨ql, q0, q1, q2, qf0, qf1, qf2⟩, hbel, hleP, hleQ, hne, hne'⟩ := hPc
  go_wp2_with fail
  refine (isPacket_calls n _).mono ?_
  rintro e w2 ⟨rfl, rfl⟩
  rw [hn]
  go_wp2_with fail
  refine (isBytes_calls (o + n) _).mono ?_
  rintro e w2 ⟨rfl, rfl⟩
  rw [hs]
  go_wp2_with fail
  have hP2 := hP.below (below_put w2 i o k)
  have hPc := hP2
  obtain ⟨⟨pl', p0', p1', p2', pf0', pf1', pf2'⟩, _⟩ := hPc
  have hwr : IntKind.i64.wrap (o + n) = o + n := wrap_small _ (by omega) (by omega)
  go_cut [32] (fun s32 wx => s32 = .bool false ∧ ∃ W, wx = W.drew ∧ Pair w W P Q i o k)
  case first =>
    go_region_with (go_at_call 18; refine (bound_calls i o k _ hi).mono ?_; rintro e w3 ⟨rfl, rfl⟩)
    all_goals (try go_wp2_with fail)
    all_goals go_meet
    all_goals exact ⟨by simp <;> omega, _, rfl, hP2⟩
  case rest =>
  obtain ⟨rfl, W, rfl, hP3⟩ := hcut
  clear pl p0 p1 p2 pf0 pf1 pf2 ql q0 q1 q2 qf0 qf1 qf2 hbel hleP hleQ hne hne' pl' p0' p1' p2' pf0' pf1' pf2' hP hP2
  have hP := hP3
  clear hP3
  have hPc := hP
  obtain ⟨⟨pl, p0, p1, p2, pf0, pf1, pf2⟩, ⟨ql, q0, q1, q2, qf0, qf1, qf2⟩, hbel, hleP, hleQ, hne, hne'⟩ := hPc
  go_wp2_with fail
  (try simp only [Exit.inBlock, Exit.then])
  refine bodyPost_ret (v := .tuple #[path i (o + n) k, .nilIface]) ?_ rfl ⟨rfl, ?_⟩
  · rw [results_cell_tmp rfl]; go_simp
  · repeat (first | (refine Below.drew ?_) | exact hbel | (refine Below.alloc ?_ (by simp <;> omega) _) | (refine Below.setCell ?_ (by simp <;> omega) _))
set_option maxRecDepth 100000 in
set_option maxHeartbeats 2000000 in
theorem room_f (i o : Int) (k : Bool) (w : World) (f : Int) (h : flt i o k = f) (h0 : f ≠ 0) : Calls Tryd.prog 13 #[path i o k] w fun e w' => e = .returned (.tuple #[.int .i64 0, .iface 41 (.int .i64 f)]) ∧ Below w.heap.size w w' := by
  go_enter Tryd.func13, Tryd.ntmps13
  go_wp2_with fail
  have hX := Box.new w i o k
  have hB := below_put w i o k
  generalize w.heap.size = P at hX ⊢
  refine (check_no i o k f _ h h0).mono ?_
  rintro e w1 ⟨rfl, hb1⟩
  go_wp2_with fail
  go_ret2
  exact ⟨rfl, hB.trans (hb1.mono hB.size)⟩
set_option maxRecDepth 100000 in
set_option maxHeartbeats 2000000 in
theorem room_less (i o : Int) (k : Bool) (w : World) (h : flt i o k = 0) (hr : bnd i k - o < 200) : Calls Tryd.prog 13 #[path i o k] w fun e w' => e = .returned (.tuple #[.int .i64 (bnd i k - o), .nilIface]) ∧ Below w.heap.size w w' := by
  obtain ⟨hi, ho, hbd⟩ := flt_zero h
  obtain ⟨i0, i1⟩ := byB_yes hi
  obtain ⟨o0, o1⟩ := byB_yes ho
  have hbm := bnd_le i k
  have hwr : IntKind.i64.wrap (bnd i k - o) = bnd i k - o := wrap_small _ (by omega) (by omega)
  go_enter Tryd.func13, Tryd.ntmps13
  go_wp2_with fail
  have hX := Box.new w i o k
  have hB := below_put w i o k
  generalize w.heap.size = P at hX ⊢
  refine (check_ok i o k _ h).mono ?_
  rintro e w1 ⟨rfl, hb1⟩
  have hX1 := hX.below hb1
  have hX2 := hX1.below (below_put w1 i o k)
  have hB1 := hB.trans (hb1.mono hB.size)
  have hB2 := hB1.trans ((below_put w1 i o k).mono hB1.size)
  obtain ⟨pl, p0, p1, p2, pf0, pf1, pf2⟩ := hX1
  obtain ⟨pl', p0', p1', p2', pf0', pf1', pf2'⟩ := hX2
  clear hX
  go_wp2_with fail
  go_cut [2, 3] (fun s2 s3 wx => s2 = .int .i64 (bnd i k - o) ∧ s3 = .nilIface ∧ Below w.heap.size w wx)
  case first =>
    go_region_with (go_at_call 18; refine (bound_calls i o k _ hi).mono ?_; rintro e w3 ⟨rfl, rfl⟩)
    all_goals (try go_wp2_with fail)
    all_goals go_meet
    all_goals exact ⟨by simp <;> omega, rfl, by first | exact hB2.drew | exact hB2⟩
  case rest =>
  obtain ⟨rfl, rfl, hB3⟩ := hcut
  go_wp2_with fail
  go_ret2
  exact ⟨rfl, hB3⟩
set_option maxRecDepth 100000 in
set_option maxHeartbeats 2000000 in
theorem room_more (i o : Int) (k : Bool) (w : World) (h : flt i o k = 0) (hr : 200 ≤ bnd i k - o) : Calls Tryd.prog 13 #[path i o k] w fun e w' => e = .returned (.tuple #[.int .i64 (200), .nilIface]) ∧ Below w.heap.size w w' := by
  obtain ⟨hi, ho, hbd⟩ := flt_zero h
  obtain ⟨i0, i1⟩ := byB_yes hi
  obtain ⟨o0, o1⟩ := byB_yes ho
  have hbm := bnd_le i k
  have hwr : IntKind.i64.wrap (bnd i k - o) = bnd i k - o := wrap_small _ (by omega) (by omega)
  go_enter Tryd.func13, Tryd.ntmps13
  go_wp2_with fail
  have hX := Box.new w i o k
  have hB := below_put w i o k
  generalize w.heap.size = P at hX ⊢
  refine (check_ok i o k _ h).mono ?_
  rintro e w1 ⟨rfl, hb1⟩
  have hX1 := hX.below hb1
  have hX2 := hX1.below (below_put w1 i o k)
  have hB1 := hB.trans (hb1.mono hB.size)
  have hB2 := hB1.trans ((below_put w1 i o k).mono hB1.size)
  obtain ⟨pl, p0, p1, p2, pf0, pf1, pf2⟩ := hX1
  obtain ⟨pl', p0', p1', p2', pf0', pf1', pf2'⟩ := hX2
  clear hX
  go_wp2_with fail
  go_cut [2, 3] (fun s2 s3 wx => s2 = .int .i64 (200) ∧ s3 = .nilIface ∧ Below w.heap.size w wx)
  case first =>
    go_region_with (go_at_call 18; refine (bound_calls i o k _ hi).mono ?_; rintro e w3 ⟨rfl, rfl⟩)
    all_goals (try go_wp2_with fail)
    all_goals go_meet
    all_goals exact ⟨by simp <;> omega, rfl, by first | exact hB2.drew | exact hB2⟩
  case rest =>
  obtain ⟨rfl, rfl, hB3⟩ := hcut
  go_wp2_with fail
  go_ret2
  exact ⟨rfl, hB3⟩

/-- An error, or none, by its number. -/
def errV (f : Int) : Value := if f = 0 then .nilIface else .iface 41 (.int .i64 f)
theorem errV_0 : errV 0 = .nilIface := rfl
theorem errV_f {f : Int} (h : f ≠ 0) : errV f = .iface 41 (.int .i64 f) := if_neg h
theorem check_calls (i o : Int) (k : Bool) (w : World) : Calls Tryd.prog 8 #[path i o k] w fun e w' => e = .returned (errV (flt i o k)) ∧ Below w.heap.size w w' := by
  by_cases h : flt i o k = 0
  · rw [h]; exact check_ok i o k w h
  · rw [errV_f h]; exact check_no i o k _ w rfl h
/-- What came is answered: the path. -/
def cameI (i o : Int) (k : Bool) (n : Int) : Int := if cameF i o k n = 0 then i + n else 0
def cameO (i o : Int) (k : Bool) (n : Int) : Int := if cameF i o k n = 0 then o else 0
def cameK (i o : Int) (k : Bool) (n : Int) : Bool := if cameF i o k n = 0 then k else false
def sendI (i o : Int) (k : Bool) (n : Int) : Int := if sendF i o k n = 0 then i else 0
def sendO (i o : Int) (k : Bool) (n : Int) : Int := if sendF i o k n = 0 then o + n else 0
def sendK (i o : Int) (k : Bool) (n : Int) : Bool := if sendF i o k n = 0 then k else false
abbrev cameP (i o : Int) (k : Bool) (n : Int) : Value := path (cameI i o k n) (cameO i o k n) (cameK i o k n)
abbrev sendP (i o : Int) (k : Bool) (n : Int) : Value := path (sendI i o k n) (sendO i o k n) (sendK i o k n)
theorem cameP_ok {i o : Int} {k : Bool} {n : Int} (h : cameF i o k n = 0) : cameP i o k n = path (i + n) o k := by simp [cameP, cameI, cameO, cameK, h]
theorem cameP_no {i o : Int} {k : Bool} {n : Int} (h : cameF i o k n ≠ 0) : cameP i o k n = path 0 0 false := by simp [cameP, cameI, cameO, cameK, h]
theorem sendP_ok {i o : Int} {k : Bool} {n : Int} (h : sendF i o k n = 0) : sendP i o k n = path i (o + n) k := by simp [sendP, sendI, sendO, sendK, h]
theorem sendP_no {i o : Int} {k : Bool} {n : Int} (h : sendF i o k n ≠ 0) : sendP i o k n = path 0 0 false := by simp [sendP, sendI, sendO, sendK, h]
theorem came_calls (i o : Int) (k : Bool) (n : Int) (w : World) : Calls Tryd.prog 10 #[path i o k, .int .i64 n] w fun e w' => e = .returned (.tuple #[cameP i o k n, errV (cameF i o k n)]) ∧ Below w.heap.size w w' := by
  by_cases h : flt i o k = 0
  · cases hn : pkB n with
    | false => have e : cameF i o k n = 1 := by simp [cameF, h, hn]
               rw [cameP_no (by omega), e]; exact came_n i o k n w h hn
    | true => cases hs : byB (i + n) with
      | false => have e : cameF i o k n = 1 := by simp [cameF, h, hs]
                 rw [cameP_no (by omega), e]; exact came_s i o k n w h hn hs
      | true => have e : cameF i o k n = 0 := by simp [cameF, h, hn, hs]
                rw [cameP_ok e, e]; exact came_ok i o k n w h hn hs
  · have e : cameF i o k n = flt i o k := by simp [cameF, h]
    rw [cameP_no (by omega), e, errV_f h]; exact came_f i o k n w _ rfl h
theorem send_calls (i o : Int) (k : Bool) (n : Int) (w : World) : Calls Tryd.prog 12 #[path i o k, .int .i64 n] w fun e w' => e = .returned (.tuple #[sendP i o k n, errV (sendF i o k n)]) ∧ Below w.heap.size w w' := by
  by_cases h : flt i o k = 0
  · cases hn : pkB n with
    | false => have e : sendF i o k n = 1 := by simp [sendF, h, hn]
               rw [sendP_no (by omega), e]; exact send_n i o k n w h hn
    | true => cases hs : byB (o + n) with
      | false => have e : sendF i o k n = 1 := by simp [sendF, h, hs]
                 rw [sendP_no (by omega), e]; exact send_s i o k n w h hn hs
      | true =>
        by_cases hw : bnd i k < o + n
        · have e : sendF i o k n = 8 := by simp [sendF, h, hn, hs, hw]
          rw [sendP_no (by omega), e]; exact send_w i o k n w h hn hs hw
        · have e : sendF i o k n = 0 := by simp [sendF, h, hn, hs, hw]
          rw [sendP_ok e, e]; exact send_ok i o k n w h hn hs (by omega)
  · have e : sendF i o k n = flt i o k := by simp [sendF, h]
    rw [sendP_no (by omega), e, errV_f h]; exact send_f i o k n w _ rfl h
theorem room_ok (i o : Int) (k : Bool) (w : World) (h : flt i o k = 0) : Calls Tryd.prog 13 #[path i o k] w fun e w' => e = .returned (.tuple #[.int .i64 (rm i o k), .nilIface]) ∧ Below w.heap.size w w' := by
  by_cases hr : bnd i k - o < 200
  · rw [show rm i o k = bnd i k - o from if_pos hr]; exact room_less i o k w h hr
  · rw [show rm i o k = 200 from if_neg hr]; exact room_more i o k w h (by omega)
end Go.Proofs.YtjjfeffmmkoooaaDoor
