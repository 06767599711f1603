/- What New, change, Came, Send and Path answer, and what they leave. -/
import Derived.Test.YtpnblfabdioanaaDoorMA
namespace Go.Proofs.YtpnblfabdioanaaDoor
open Go.RowKit Go.Lib Go.Sort
set_option linter.unusedVariables false
set_option linter.unusedSimpArgs false

set_option maxRecDepth 100000 in
set_option maxHeartbeats 2000000 in
theorem isPath_calls (n : Int) (w : World) : Calls Tryd.prog 30 #[.int .i64 n] w fun e w' => e = .returned (.bool (ptB n)) ∧ w = w' := by
  by_cases h1 : 0 ≤ n
  · by_cases h2 : n < 4
    · go_enter Tryd.func30, Tryd.ntmps30
      go_wp2
      go_ret
      exact ⟨by simp [ptB, Ox.pathB] <;> omega, rfl⟩
    · go_enter Tryd.func30, Tryd.ntmps30
      go_wp2
      go_ret
      exact ⟨by simp [ptB, Ox.pathB] <;> omega, rfl⟩
  · go_enter Tryd.func30, Tryd.ntmps30
    go_wp2
    go_ret
    exact ⟨by simp [ptB, Ox.pathB] <;> omega, rfl⟩
set_option maxRecDepth 100000 in
set_option maxHeartbeats 2000000 in
theorem isHeard_calls (i o : Int) (k : Bool) (w : World) : Calls Tryd.prog 31 #[Px.path i o k] w fun e w' => e = .returned (.bool (heardB i k)) ∧ Below w.heap.size w w' := by
  cases k with
  | true =>
    go_enter Tryd.func31, Tryd.ntmps31
    go_wp2
    go_ret
    exact ⟨rfl, Px.below_put _ _ _ _⟩
  | false =>
    go_enter Tryd.func31, Tryd.ntmps31
    go_wp2
    go_ret
    exact ⟨by simp [heardB], Px.below_put _ _ _ _⟩

set_option maxRecDepth 100000 in
set_option maxHeartbeats 2000000 in
/-- change where there is no such path. -/
theorem change_range (mb : Nat) (i : Int) (fv : Value) (w : World) (hi : ptB i = false) : Calls Tryd.prog 27 #[.pointer (some ⟨mb, 0, none⟩), .int .i64 i, fv] w fun e w' => e = .returned (.iface 72 (.int .i64 1)) ∧ w' = w := by
  go_enter Tryd.func27, Tryd.ntmps27
  go_wp2_with (go_at_call 30; refine (isPath_calls i _).mono ?_; rintro e w1 ⟨rfl, rfl⟩; rw [hi])
  go_ret
  exact ⟨rfl, rfl⟩
set_option maxRecDepth 100000 in
set_option maxHeartbeats 2000000 in
/-- change where it is refused. -/
theorem change_no {w : World} {B mb ib im pb pm : Nat} {iv : Value} {s : Mv} (h : MO w B mb ib im iv pb pm s) (j : Nat) (hj : j < 4) (g : Nat) (lb : Array Value) (eg : ∀ args w, (callFunc g args).run Tryd.prog w = .ok (.enter g args) w) (a b : Int) (c : Bool) (f : Int)
    (hcall : Calls Tryd.prog g (#[Px.path (s.pi j) (s.po j) (s.pk j)] ++ lb) w fun e w' => e = .returned (.tuple #[Px.path a b c, .iface 72 (.int .i64 f)]) ∧ Below w.heap.size w w') :
    Calls Tryd.prog 27 #[.pointer (some ⟨mb, 0, none⟩), .int .i64 (j : Int), .func (.func g) #[] lb] w fun e w' => e = .returned (.iface 72 (.int .i64 f)) ∧ Below w.heap.size w w' := by
  have hp := ptB_of hj
  have c0 := h.ci j hj
  have c1 := h.co j hj
  have c2 := h.ck j hj
  have hji : (j : Int) < 4 := by omega
  clear h
  generalize s.pi j = i0 at *
  generalize s.po j = o0 at *
  generalize s.pk j = k0 at *
  go_enter Tryd.func27, Tryd.ntmps27
  go_wp2_with (first | (go_at_call 30; refine (isPath_calls (j : Int) _).mono ?_; rintro e w1 ⟨rfl, rfl⟩; rw [hp]) | (go_at_fn g; refine hcall.mono ?_; rintro e w1 ⟨rfl, hb1⟩))
  go_ret
  exact ⟨rfl, hb1.alloc hb1.size _⟩
set_option maxRecDepth 100000 in
set_option maxHeartbeats 2000000 in
/-- change where it is done. -/
theorem change_yes {w : World} {B mb ib im pb pm : Nat} {iv : Value} {s : Mv} (h : MO w B mb ib im iv pb pm s) (j : Nat) (hj : j < 4) (g : Nat) (lb : Array Value) (eg : ∀ args w, (callFunc g args).run Tryd.prog w = .ok (.enter g args) w) (a b : Int) (c : Bool) (hf : Px.flt a b c = 0)
    (hcall : Calls Tryd.prog g (#[Px.path (s.pi j) (s.po j) (s.pk j)] ++ lb) w fun e w' => e = .returned (.tuple #[Px.path a b c, .nilIface]) ∧ Below w.heap.size w w') :
    Calls Tryd.prog 27 #[.pointer (some ⟨mb, 0, none⟩), .int .i64 (j : Int), .func (.func g) #[] lb] w fun e w' => e = .returned .nilIface ∧ MO w' B mb ib im iv pb pm (s.setP j a b c) ∧ Off (fun k => k = mb) w w' := by
  have hp := ptB_of hj
  have c0 := h.ci j hj
  have c1 := h.co j hj
  have c2 := h.ck j hj
  have hml := h.ltm
  have hji : (j : Int) < 4 := by omega
  have HM : Hid (MO w B mb ib im iv pb pm s) := h
  clear h
  generalize s.pi j = i0 at *
  generalize s.po j = o0 at *
  generalize s.pk j = k0 at *
  go_enter Tryd.func27, Tryd.ntmps27
  go_wp2_with (first | (go_at_call 30; refine (isPath_calls (j : Int) _).mono ?_; rintro e w1 ⟨rfl, rfl⟩; rw [hp]) | (go_at_fn g; refine hcall.mono ?_; rintro e w1 ⟨rfl, hb1⟩; have HM1 : Hid (MO w1 B mb ib im iv pb pm s) := HM.out.below hb1; clear hcall))
  obtain ⟨xl, x0, x1, x2, xf0, xf1, xf2⟩ := Px.Box.new w1 a b c
  have HO : Hid (Off (fun k => k = mb) w (Px.put w1 a b c)) := Off.of_below (hb1.alloc hb1.size _)
  have hM2 := HM1.out.below (Px.below_put w1 a b c)
  have HM2 : Hid (MO (Px.put w1 a b c) B mb ib im iv pb pm s) := hM2
  have d0 := hM2.ci j hj
  have d1 := hM2.co j hj
  have d2 := hM2.ck j hj
  have e0 := hM2.fr (j * 3) (by omega)
  have e1 := hM2.fr (j * 3 + 1) (by omega)
  have e2 := hM2.fr (j * 3 + 2) (by omega)
  have hne : w1.heap.size ≠ mb := by have := hb1.size; omega
  have hne' : mb ≠ w1.heap.size := fun e => hne e.symm
  clear HM HM1 hM2 hb1 c0 c1 c2
  unfold Px.put at x0 x1 x2 xf0 xf1 xf2 d0 d1 d2 e0 e1 e2 HO HM2
  generalize w1.heap.size = P at *
  generalize w1.alloc (.cells #[.int .i64 a, .int .i64 b, .bool c] 47) = W at *
  go_region
  all_goals go_wp2
  all_goals go_ret
  all_goals exact ⟨rfl, (HM2.out.set j hj hf).drew, (((HO.out.setCell rfl _).setCell rfl _).setCell rfl _).drew⟩

set_option maxRecDepth 100000 in
set_option maxHeartbeats 2000000 in
theorem cameC_calls (i o : Int) (k : Bool) (n : Int) (b : Nat) (w : World) (hc : w.cell? ⟨b, 0, none⟩ = some (.int .i64 n)) :
    Calls Tryd.prog 28 #[Px.path i o k, .pointer (some ⟨b, 0, none⟩)] w fun e w' => e = .returned (.tuple #[Px.path (Px.cameI i o k n) (Px.cameO i o k n) (Px.cameK i o k n), errV (Px.cameF i o k n)]) ∧ Below w.heap.size w w' := by
  have hB : b < w.heap.size := World.block_lt_of_cell? w _ hc
  have hcon := fun W => Px.came_calls i o k n W
  have hP := Px.pair_start w i o k
  have hc1 := (hP.bel.cell (p := ⟨b, 0, none⟩) hB).trans hc
  unfold Px.cameP at hcon
  generalize Px.cameI i o k n = i2 at *
  generalize Px.cameO i o k n = o2 at *
  generalize Px.cameK i o k n = k2 at *
  generalize errV (Px.cameF i o k n) = ev at *
  go_enter Tryd.func28, Tryd.ntmps28
  go_wp2_with fail
  generalize w.heap.size = P at hP hc1 ⊢
  generalize P + 1 = Q at hP hc1 ⊢
  refine (hcon _).mono ?_
  rintro e w1 ⟨rfl, hb1⟩
  have hP := hP.below hb1
  obtain ⟨⟨pl, p0, p1, p2, pf0, pf1, pf2⟩, ⟨ql, q0, q1, q2, qf0, qf1, qf2⟩, hbel, hleP, hleQ, hne, hne'⟩ := hP
  go_wp2_with fail
  (try simp only [Exit.inBlock, Exit.then])
  refine bodyPost_ret (v := .tuple #[Px.path i2 o2 k2, ev]) ?_ rfl ⟨rfl, ?_⟩
  · rw [results_cell_tmp rfl]; go_simp
  · repeat (first | exact hbel | (refine Below.alloc ?_ (by simp <;> omega) _) | (refine Below.setCell ?_ (by simp <;> omega) _))

set_option maxRecDepth 100000 in
set_option maxHeartbeats 2000000 in
theorem sendC_calls (i o : Int) (k : Bool) (n : Int) (b : Nat) (w : World) (hc : w.cell? ⟨b, 0, none⟩ = some (.int .i64 n)) :
    Calls Tryd.prog 39 #[Px.path i o k, .pointer (some ⟨b, 0, none⟩)] w fun e w' => e = .returned (.tuple #[Px.path (Px.sendI i o k n) (Px.sendO i o k n) (Px.sendK i o k n), errV (Px.sendF i o k n)]) ∧ Below w.heap.size w w' := by
  have hB : b < w.heap.size := World.block_lt_of_cell? w _ hc
  have hcon := fun W => Px.send_calls i o k n W
  have hP := Px.pair_start w i o k
  have hc1 := (hP.bel.cell (p := ⟨b, 0, none⟩) hB).trans hc
  unfold Px.sendP at hcon
  generalize Px.sendI i o k n = i2 at *
  generalize Px.sendO i o k n = o2 at *
  generalize Px.sendK i o k n = k2 at *
  generalize errV (Px.sendF i o k n) = ev at *
  go_enter Tryd.func39, Tryd.ntmps39
  go_wp2_with fail
  generalize w.heap.size = P at hP hc1 ⊢
  generalize P + 1 = Q at hP hc1 ⊢
  refine (hcon _).mono ?_
  rintro e w1 ⟨rfl, hb1⟩
  have hP := hP.below hb1
  obtain ⟨⟨pl, p0, p1, p2, pf0, pf1, pf2⟩, ⟨ql, q0, q1, q2, qf0, qf1, qf2⟩, hbel, hleP, hleQ, hne, hne'⟩ := hP
  go_wp2_with fail
  (try simp only [Exit.inBlock, Exit.then])
  refine bodyPost_ret (v := .tuple #[Px.path i2 o2 k2, ev]) ?_ rfl ⟨rfl, ?_⟩
  · rw [results_cell_tmp rfl]; go_simp
  · repeat (first | exact hbel | (refine Below.alloc ?_ (by simp <;> omega) _) | (refine Below.setCell ?_ (by simp <;> omega) _))
end Go.Proofs.YtpnblfabdioanaaDoor
