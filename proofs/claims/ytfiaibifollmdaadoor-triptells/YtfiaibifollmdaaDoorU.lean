/- The walk of the law TripTells. -/
import Derived.Test.YtfiaibifollmdaaDoorH
import Derived.Deep.DeepCutAuto
namespace Go.Proofs.YtfiaibifollmdaaDoor
open Go.RowKit Go.Lib Go.Sort
set_option linter.unusedVariables false
set_option linter.unusedSimpArgs false

set_option maxRecDepth 100000 in
set_option maxHeartbeats 4000000 in
theorem tells_ok (n s v l d : Int) (w : World) (hH : Handle w) (ht : timeB n = true) (hr : rightB s v l = true) (hn : nextB s v l n d = true) (hd : delayB d = true) :
    Calls Tryd.prog 3 #[.int .i64 n, trip s v l, .int .i64 d] w fun e w' => e = .returned (.bool true) ∧ Below w.heap.size w w' := by
  obtain ⟨t1, t2⟩ := timeB_yes ht
  obtain ⟨r1, r2, r3, r4, r5, r6⟩ := rightB_yes hr
  obtain ⟨d1, d2⟩ := delayB_yes hd
  have eqt := eqT
  have gdt := guardT
  go_enter Tryd.func3, Tryd.ntmps3
  go_upto_region 1 with fail
  go_cut [7] (fun s7 wx => s7 = .bool (timeB n) ∧ wx = w.alloc (.cells #[.int .i64 s, .int .i64 v, .int .i64 l] 23))
  case first =>
    by_cases k1 : 1 ≤ n
    · by_cases k2 : n ≤ 100000
      · go_wp2_with fail
        go_meet
        exact ⟨by simp [timeB] <;> omega, rfl⟩
      · go_wp2_with fail
        go_meet
        exact ⟨by simp [timeB] <;> omega, rfl⟩
    · go_wp2_with fail
      go_meet
      exact ⟨by simp [timeB] <;> omega, rfl⟩
  case rest =>
  obtain ⟨rfl, rfl⟩ := hcut
  rw [ht]
  go_wp2_with fail
  refine (first_yes n _ ht).mono ?_
  rintro e w1 ⟨rfl, hb1⟩
  have h3 := three_start hb1 (8 * n) (4 * n) n
  clear hb1
  generalize w.heap.size = P at h3 ⊢
  generalize P + 1 = Q at h3 ⊢
  go_wp2_with fail
  generalize w1.heap.size = X at h3 ⊢
  generalize w1.alloc (.cells #[.int .i64 (8 * n), .int .i64 (4 * n), .int .i64 n] 23) = W1 at h3 ⊢
  refine (same_nil 0 _).mono ?_
  rintro e wN ⟨rfl, hb⟩
  have h3 := h3.below hb
  clear hb
  have h3c := h3
  obtain ⟨⟨pl, p0, p1, p2, pf0, pf1, pf2⟩, ⟨ql, q0, q1, q2, qf0, qf1, qf2⟩, ⟨xl, x0, x1, x2, xf0, xf1, xf2⟩, _⟩ := h3c
  go_wp2_with fail
  clear pl p0 p1 p2 pf0 pf1 pf2 ql q0 q1 q2 qf0 qf1 qf2 xl x0 x1 x2 xf0 xf1 xf2
  refine (rtrip_bel s v l _).mono ?_
  rintro e wN ⟨rfl, hb⟩
  have h3 := h3.below hb
  clear hb
  rw [hr]
  have h4 := h3.setQ 0 0 0
  have h3c := h3
  obtain ⟨⟨pl, p0, p1, p2, pf0, pf1, pf2⟩, ⟨ql, q0, q1, q2, qf0, qf1, qf2⟩, ⟨xl, x0, x1, x2, xf0, xf1, xf2⟩, _⟩ := h3c
  have h4c := h4
  obtain ⟨⟨_, p0', p1', p2', pf0', pf1', pf2'⟩, ⟨_, q0', q1', q2', qf0', qf1', qf2'⟩, ⟨_, x0', x1', x2', xf0', xf1', xf2'⟩, _⟩ := h4c
  go_wp2_with fail
  clear pl p0 p1 p2 pf0 pf1 pf2 ql q0 q1 q2 qf0 qf1 qf2 xl x0 x1 x2 xf0 xf1 xf2
  clear p0' p1' p2' pf0' pf1' pf2' q0' q1' q2' qf0' qf1' qf2' x0' x1' x2' xf0' xf1' xf2'
  clear h3
  have h3 := h4
  clear h4
  refine (rnext_yes s v l n d _ hn).mono ?_
  rintro e wN ⟨rfl, hb⟩
  have h3 := h3.below hb
  clear hb
  have h4 := h3.setQ (smo s l n d) (vry s v l n d) (lst l n)
  have h3c := h3
  obtain ⟨⟨pl, p0, p1, p2, pf0, pf1, pf2⟩, ⟨ql, q0, q1, q2, qf0, qf1, qf2⟩, ⟨xl, x0, x1, x2, xf0, xf1, xf2⟩, _⟩ := h3c
  have h4c := h4
  obtain ⟨⟨_, p0', p1', p2', pf0', pf1', pf2'⟩, ⟨_, q0', q1', q2', qf0', qf1', qf2'⟩, ⟨_, x0', x1', x2', xf0', xf1', xf2'⟩, _⟩ := h4c
  go_wp2_with fail
  clear pl p0 p1 p2 pf0 pf1 pf2 ql q0 q1 q2 qf0 qf1 qf2 xl x0 x1 x2 xf0 xf1 xf2
  clear p0' p1' p2' pf0' pf1' pf2' q0' q1' q2' qf0' qf1' qf2' x0' x1' x2' xf0' xf1' xf2'
  clear h3
  have h3 := h4
  clear h4
  refine (next_yes s v l n d _ hn).mono ?_
  rintro e wN ⟨rfl, hb⟩
  have h3 := h3.below hb
  clear hb
  have h4 := h3.setX (smo s l n d) (vry s v l n d) (lst l n)
  have h3c := h3
  obtain ⟨⟨pl, p0, p1, p2, pf0, pf1, pf2⟩, ⟨ql, q0, q1, q2, qf0, qf1, qf2⟩, ⟨xl, x0, x1, x2, xf0, xf1, xf2⟩, _⟩ := h3c
  go_wp2_with fail
  clear pl p0 p1 p2 pf0 pf1 pf2 ql q0 q1 q2 qf0 qf1 qf2 xl x0 x1 x2 xf0 xf1 xf2
  clear h3
  have h3 := h4
  clear h4
  refine (same_nil 0 _).mono ?_
  rintro e wN ⟨rfl, hb⟩
  have h3 := h3.below hb
  clear hb
  have h3c := h3
  obtain ⟨⟨pl, p0, p1, p2, pf0, pf1, pf2⟩, ⟨ql, q0, q1, q2, qf0, qf1, qf2⟩, ⟨xl, x0, x1, x2, xf0, xf1, xf2⟩, _⟩ := h3c
  go_upto_if 80 with fail
  go_cut [8, 15] (fun e8 n15 wx => e8 = .int .i64 0 ∧ n15 = .int .i64 (half v + s / 8) ∧ wx = wN)
  case first =>
    by_cases k1 : v / 2 < 1
    · go_wp2_with fail
      go_meet
      exact ⟨rfl, by rw [show half v = 1 from if_pos k1], rfl⟩
    · go_wp2_with fail
      go_meet
      exact ⟨rfl, by rw [show half v = v / 2 from if_neg (by omega)], rfl⟩
  case rest =>
  obtain ⟨rfl, rfl, rfl⟩ := hcut
  go_wp2_with fail
  clear pl p0 p1 p2 pf0 pf1 pf2 ql q0 q1 q2 qf0 qf1 qf2 xl x0 x1 x2 xf0 xf1 xf2
  refine (wait_half s v l _ hr).mono ?_
  rintro e wN ⟨rfl, hb⟩
  have h3 := h3.below hb
  clear hb
  go_wp2_with fail
  refine (same_nil 0 _).mono ?_
  rintro e wN ⟨rfl, hb⟩
  have h3 := h3.below hb
  clear hb
  go_wp2
  go_ret
  exact ⟨by simp, h3.bel⟩
end Go.Proofs.YtfiaibifollmdaaDoor
