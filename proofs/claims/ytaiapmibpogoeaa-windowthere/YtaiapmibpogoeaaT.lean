/- The walk of the law WindowThere. -/
import Derived.Test.YtaiapmibpogoeaaD
namespace Go.Proofs.Ytaiapmibpogoeaa
open Go.RowKit Go.Lib Go.Sort
set_option linter.unusedVariables false
set_option linter.unusedSimpArgs false

theorem came_there (s l y n : Int) (w : World) (h : bB s l y n = true) (hw : y + n ≤ s) : Calls Try.prog 8 #[win s l (y + n), .int .i64 n] w fun e w' => e = .returned (.tuple #[win (cameS s l n) l y, .nilIface]) ∧ Below w.heap.size w w' := by
  obtain ⟨⟨s0, s1⟩, ⟨l0, l1⟩, y0, y1⟩ := wB_bd (bB_yes h).1
  obtain ⟨n0, n1⟩ := pkB_yes (bB_yes h).2
  have := came_ok s l (y + n) n w (bB_of (wB_of ⟨s0, s1⟩ ⟨l0, l1⟩ ⟨by omega, by omega⟩) (bB_yes h).2) (by omega)
  rw [Int.add_sub_cancel] at this
  exact this
theorem lost_there (s l y n : Int) (w : World) (h : bB s l y n = true) (hw : y + n ≤ s) : Calls Try.prog 5 #[win s l (y + n), .int .i64 n] w fun e w' => e = .returned (.tuple #[win (lostS s) (lostS s) y, .nilIface]) ∧ Below w.heap.size w w' := by
  obtain ⟨⟨s0, s1⟩, ⟨l0, l1⟩, y0, y1⟩ := wB_bd (bB_yes h).1
  obtain ⟨n0, n1⟩ := pkB_yes (bB_yes h).2
  have := lost_ok s l (y + n) n w (bB_of (wB_of ⟨s0, s1⟩ ⟨l0, l1⟩ ⟨by omega, by omega⟩) (bB_yes h).2) (by omega)
  rw [Int.add_sub_cancel] at this
  exact this

set_option maxRecDepth 100000 in
set_option maxHeartbeats 2000000 in
theorem there_no (s l y n f : Int) (w : World) (h : sendF s l y n = f) (h0 : f ≠ 0) : Calls Try.prog 4 #[win s l y, .int .i64 n] w fun e w' => e = .returned (.bool true) ∧ Below w.heap.size w w' := by
  have SC := fun w => send_calls s l y n w
  unfold sendP at SC
  rw [h, errV_f h0, ifz_f h0, ifz_f h0, ifz_f h0] at SC
  go_enter Try.func4, Try.ntmps4
  go_wp2_with fail
  have hB := below_put w s l y
  refine (SC _).mono ?_
  rintro e w1 ⟨rfl, hb1⟩
  have hB1 := hB.trans (hb1.mono hB.size)
  go_wp2_with fail
  go_ret
  exact ⟨rfl, hB1.alloc hB1.size _⟩
set_option maxRecDepth 100000 in
set_option maxHeartbeats 2000000 in
theorem there_yes (s l y n : Int) (w : World) (h : bB s l y n = true) (hw : y + n ≤ s) : Calls Try.prog 4 #[win s l y, .int .i64 n] w fun e w' => e = .returned (.bool true) ∧ Below w.heap.size w w' := by
  obtain ⟨⟨s0, s1⟩, ⟨l0, l1⟩, y0, y1⟩ := wB_bd (bB_yes h).1
  obtain ⟨n0, n1⟩ := pkB_yes (bB_yes h).2
  obtain ⟨c0, c1⟩ := cameS_bd (l := l) s0 s1 n0 n1
  obtain ⟨k0, k1⟩ := lostS_bd s0
  have SC := fun w => send_ok s l y n w h hw
  have CC := fun w => came_there s l y n w h hw
  have LC := fun w => lost_there s l y n w h hw
  generalize cameS s l n = c at c0 c1 CC
  generalize lostS s = k at k0 k1 LC
  go_enter Try.func4, Try.ntmps4
  go_wp2_with fail
  have hB := below_put w s l y
  have hX := Box.new w s l y
  unfold put at hX hB
  generalize w.heap.size = P at hX ⊢
  generalize hN : w.alloc (.cells #[.int .i64 s, .int .i64 l, .int .i64 y] 23) = W0 at hX hB ⊢
  clear hN
  refine (SC _).mono ?_
  rintro e w1 ⟨rfl, hb1⟩
  have hX := hX.below hb1
  have hB := hB.trans (hb1.mono hB.size)
  clear hb1
  go_wp2_with fail
  have hX := hX.below (below_put w1 s l (y + n))
  have hY := Box.new w1 s l (y + n)
  have hB := hB.trans ((below_put w1 s l (y + n)).mono hB.size)
  unfold put at hX hY hB
  generalize w1.heap.size = Q at hY ⊢
  generalize hN : w1.alloc (.cells #[.int .i64 s, .int .i64 l, .int .i64 (y + n)] 23) = W1 at hX hY hB ⊢
  clear hN
  refine (CC _).mono ?_
  rintro e w2 ⟨rfl, hb2⟩
  have hX := hX.below hb2
  have hY := hY.below hb2
  have hB := hB.trans (hb2.mono hB.size)
  clear hb2
  have hX := hX.below (below_put w2 c l y)
  have hY := hY.below (below_put w2 c l y)
  have hZ := Box.new w2 c l y
  have hB := hB.trans ((below_put w2 c l y).mono hB.size)
  unfold put at hX hY hZ hB
  obtain ⟨ql, q0, q1, q2, qf0, qf1, qf2⟩ := id hY
  go_wp2_with fail
  clear ql q0 q1 q2 qf0 qf1 qf2 hY
  generalize w2.heap.size = R at hZ ⊢
  generalize hN : w2.alloc (.cells #[.int .i64 c, .int .i64 l, .int .i64 y] 23) = W2 at hX hZ hB ⊢
  clear hN
  refine (LC _).mono ?_
  rintro e w3 ⟨rfl, hb3⟩
  have hX := (hX.below hb3).below (below_put w3 k k y)
  have hZ := (hZ.below hb3).below (below_put w3 k k y)
  have hB := hB.trans (hb3.mono hB.size)
  have hV := Box.new w3 k k y
  have hB := hB.trans ((below_put w3 k k y).mono hB.size)
  unfold put at hX hZ hV hB
  clear hb3
  obtain ⟨pl, p0, p1, p2, pf0, pf1, pf2⟩ := hX
  obtain ⟨rl, r0, r1, r2, rf0, rf1, rf2⟩ := hZ
  obtain ⟨vl, v0, v1, v2, vf0, vf1, vf2⟩ := hV
  go_wp2
  go_ret
  exact ⟨by simp <;> omega, hB⟩
theorem there_walk (s l y n : Int) (w : World) : Calls Try.prog 4 #[win s l y, .int .i64 n] w fun e w' => e = .returned (.bool true) ∧ Below w.heap.size w w' := by
  by_cases h : sendF s l y n = 0
  · exact there_yes s l y n w (sendF_zero h).1 (sendF_zero h).2
  · exact there_no s l y n _ w rfl h
end Go.Proofs.Ytaiapmibpogoeaa
