/- The walk of the law WindowTells, where nothing is wrong. -/
import Derived.Test.YtaiapmibpogoeaaDoorE
import Derived.Deep.DeepCutAuto
namespace Go.Proofs.YtaiapmibpogoeaaDoor
open Go.RowKit Go.Lib Go.Sort
set_option linter.unusedVariables false
set_option linter.unusedSimpArgs false

set_option maxRecDepth 100000 in
set_option maxHeartbeats 8000000 in
theorem tells_yes (s l y n e f a1 b1 c1 a2 b2 c2 a3 b3 c3 : Int) (v1 v2 : Value) (w : World) (hH : Handle w)
    (RW : ∀ w, Calls Tryd.prog 6 #[win s l y, .int .i64 n] w fun e w' => e = .returned (.int .i64 0) ∧ Below w.heap.size w w')
    (PS : ∀ w, Calls Tryd.prog 7 #[win s l y, .int .i64 n] w fun e w' => e = .returned (.tuple #[win a1 b1 c1, v1]) ∧ Below w.heap.size w w')
    (PC : ∀ w, Calls Tryd.prog 8 #[win s l y, .int .i64 n] w fun e w' => e = .returned (.tuple #[win a2 b2 c2, v2]) ∧ Below w.heap.size w w')
    (PL : ∀ w, Calls Tryd.prog 9 #[win s l y, .int .i64 n] w fun e w' => e = .returned (.tuple #[win a3 b3 c3, v2]) ∧ Below w.heap.size w w')
    (SS : ∀ w, Handle w → Calls Tryd.prog 4 #[v1, .int .i64 e] w fun e w' => e = .returned (.bool true) ∧ Below w.heap.size w w')
    (SO : ∀ w, Handle w → Calls Tryd.prog 4 #[v2, .int .i64 f] w fun e w' => e = .returned (.bool true) ∧ Below w.heap.size w w')
    (RB : Hid (400 ≤ s ∧ s ≤ 100000 ∧ 400 ≤ l ∧ l ≤ 100000 ∧ 0 ≤ y ∧ y ≤ 100000 ∧ 1 ≤ n ∧ n ≤ 200))
    (R1 : Hid ((s < y + n ∧ e = 8 ∧ a1 = 0 ∧ b1 = 0 ∧ c1 = 0) ∨ (y + n ≤ s ∧ e = 0 ∧ s = a1 ∧ l = b1 ∧ c1 = y + n)))
    (R2 : Hid ((y < n ∧ f = 3) ∨ (n ≤ y ∧ f = 0)))
    (R3 : Hid ((f ≠ 0 ∧ a2 = 0 ∧ b2 = 0 ∧ c2 = 0) ∨ (f = 0 ∧ n ≤ y ∧ a2 = cameS s l n ∧ l = b2 ∧ c2 = y - n)))
    (R4 : Hid ((f ≠ 0 ∧ a3 = 0 ∧ b3 = 0 ∧ c3 = 0) ∨ (f = 0 ∧ n ≤ y ∧ a3 = lostS s ∧ b3 = lostS s ∧ c3 = y - n))) :
    Calls Tryd.prog 3 #[win s l y, .int .i64 n] w fun e w' => e = .returned (.bool true) ∧ Below w.heap.size w w' := by
  have eqt := eqW
  have gdt := guardW
  go_enter Tryd.func3, Tryd.ntmps3
  go_upto_region 1 with fail
  have h1 := one_start w s l y
  unfold put at h1
  generalize w.heap.size = P at h1 ⊢
  generalize w.alloc (.cells #[.int .i64 s, .int .i64 l, .int .i64 y] 23) = W0 at h1 ⊢
  go_cut [5] (fun s5 wx => s5 = .bool true ∧ One w wx P s l y)
  case first =>
    obtain ⟨⟨pl, p0, p1, p2, pf0, pf1, pf2⟩, dbel, dleP⟩ := id h1
    go_region_with (first | (go_at_call 5; refine (check_calls s l y _).mono ?_; rintro e w5 ⟨rfl, hb⟩; have h1 : One w w5 P s l y := (by first | exact h1.below hb | exact h1.below (Below.of_drew hb)); obtain ⟨⟨pl, p0, p1, p2, pf0, pf1, pf2⟩, dbel, dleP⟩ := id h1) | (go_at_call 6; refine (rwin_one s l y _).mono ?_; rintro e w6 ⟨rfl, hb⟩; have h1 : One w w6 P s l y := (by first | exact h1.below hb | exact h1.below (Below.of_drew hb)); obtain ⟨⟨pl, p0, p1, p2, pf0, pf1, pf2⟩, dbel, dleP⟩ := id h1) | (go_at_call 4; refine (same_errV (flt s l y) _ (by first | exact hH.below h1.bel | exact hH.below h1.drew.bel)).mono ?_; rintro e w7 ⟨rfl, hb⟩; have h1 : One w w7 P s l y := (by first | exact h1.below hb | exact h1.below (Below.of_drew hb)); obtain ⟨⟨pl, p0, p1, p2, pf0, pf1, pf2⟩, dbel, dleP⟩ := id h1))
    all_goals (try go_wp2_with fail)
    all_goals go_meet
    all_goals exact ⟨rfl, by first | exact h1 | exact h1.drew⟩
  case rest =>
  clear h1
  obtain ⟨rfl, h1⟩ := hcut
  obtain ⟨s0, s1, l0, l1, y0, y1, n0, n1⟩ := RB.out
  obtain ⟨⟨pl, p0, p1, p2, pf0, pf1, pf2⟩, dbel, dleP⟩ := id h1
  go_wp2_with fail
  clear pl p0 p1 p2 pf0 pf1 pf2 dbel dleP
  refine (RW _).mono ?_
  rintro e_ w2 ⟨rfl, hb⟩
  have h1 := h1.below hb
  clear hb
  obtain ⟨⟨pl, p0, p1, p2, pf0, pf1, pf2⟩, dbel, dleP⟩ := id h1
  go_upto_if 33 with fail
  clear pl p0 p1 p2 pf0 pf1 pf2 dbel dleP
  have h2 := h1.duo 0 0 0
  unfold put at h2
  clear h1
  generalize w2.heap.size = Q at h2 ⊢
  generalize w2.alloc (.cells #[.int .i64 0, .int .i64 0, .int .i64 0] 23) = W2 at h2 ⊢
  go_cut [7] (fun s7 wx => s7 = .int .i64 e ∧ Pair w wx P Q s l y a1 b1 c1)
  case first =>
    rcases R1.out with ⟨g1, rfl, rfl, rfl, rfl⟩ | ⟨g1, rfl, rfl, rfl, rfl⟩
    · obtain ⟨⟨pl, p0, p1, p2, pf0, pf1, pf2⟩, ⟨ql, q0, q1, q2, qf0, qf1, qf2⟩, dbel, dleP, dleQ, dne, dne'⟩ := id h2
      go_wp2_with fail
      go_meet
      exact ⟨rfl, h2⟩
    · obtain ⟨⟨pl, p0, p1, p2, pf0, pf1, pf2⟩, ⟨ql, q0, q1, q2, qf0, qf1, qf2⟩, dbel, dleP, dleQ, dne, dne'⟩ := id h2
      go_upto_region 9 with fail
      clear pl p0 p1 p2 pf0 pf1 pf2 ql q0 q1 q2 qf0 qf1 qf2 dbel dleP dleQ dne dne'
      have hN := h2.setQ s l y
      (try unfold set3 at hN)
      generalize ((W2.setCell ⟨Q, 0, none⟩ (.int .i64 s)).setCell ⟨Q, 1, none⟩ (.int .i64 l)).setCell ⟨Q, 2, none⟩ (.int .i64 y) = W3 at hN ⊢
      clear h2
      have h2 := hN
      clear hN
      obtain ⟨⟨pl, p0, p1, p2, pf0, pf1, pf2⟩, ⟨ql, q0, q1, q2, qf0, qf1, qf2⟩, dbel, dleP, dleQ, dne, dne'⟩ := id h2
      go_wp2_with fail
      go_meet
      exact ⟨rfl, h2.setQ2 (y + n)⟩
  case rest =>
  clear h2
  obtain ⟨rfl, h2⟩ := hcut
  obtain ⟨⟨pl, p0, p1, p2, pf0, pf1, pf2⟩, ⟨ql, q0, q1, q2, qf0, qf1, qf2⟩, dbel, dleP, dleQ, dne, dne'⟩ := id h2
  go_wp2_with fail
  clear pl p0 p1 p2 pf0 pf1 pf2 ql q0 q1 q2 qf0 qf1 qf2 dbel dleP dleQ dne dne'
  refine (PS _).mono ?_
  rintro e_ w3 ⟨rfl, hb⟩
  have h2 := h2.below hb
  clear hb
  obtain ⟨⟨pl, p0, p1, p2, pf0, pf1, pf2⟩, ⟨ql, q0, q1, q2, qf0, qf1, qf2⟩, dbel, dleP, dleQ, dne, dne'⟩ := id h2
  go_wp2_with fail
  clear pl p0 p1 p2 pf0 pf1 pf2 ql q0 q1 q2 qf0 qf1 qf2 dbel dleP dleQ dne dne'
  have h3 := h2.three a1 b1 c1
  unfold put at h3
  clear h2
  generalize w3.heap.size = X at h3 ⊢
  generalize w3.alloc (.cells #[.int .i64 a1, .int .i64 b1, .int .i64 c1] 23) = W4 at h3 ⊢
  refine (SS _ (hH.below h3.two.bel)).mono ?_
  rintro e_ w4 ⟨rfl, hb⟩
  have h3 := h3.below hb
  clear hb
  obtain ⟨⟨⟨pl, p0, p1, p2, pf0, pf1, pf2⟩, ⟨ql, q0, q1, q2, qf0, qf1, qf2⟩, dbel, dleP, dleQ, dne, dne'⟩, ⟨xl, x0, x1, x2, xf0, xf1, xf2⟩, dleX, dxp, dxq, dpx, dqx⟩ := id h3
  go_upto_if 63 with fail
  clear pl p0 p1 p2 pf0 pf1 pf2 ql q0 q1 q2 qf0 qf1 qf2 dbel dleP dleQ dne dne' xl x0 x1 x2 xf0 xf1 xf2 dleX dxp dxq dpx dqx
  go_cut [6] (fun s6 wx => s6 = .int .i64 f ∧ wx = w4)
  case first =>
    rcases R2.out with ⟨g1, rfl⟩ | ⟨g1, rfl⟩
    · obtain ⟨⟨⟨pl, p0, p1, p2, pf0, pf1, pf2⟩, ⟨ql, q0, q1, q2, qf0, qf1, qf2⟩, dbel, dleP, dleQ, dne, dne'⟩, ⟨xl, x0, x1, x2, xf0, xf1, xf2⟩, dleX, dxp, dxq, dpx, dqx⟩ := id h3
      go_wp2_with fail
      go_meet
      exact ⟨rfl, rfl⟩
    · obtain ⟨⟨⟨pl, p0, p1, p2, pf0, pf1, pf2⟩, ⟨ql, q0, q1, q2, qf0, qf1, qf2⟩, dbel, dleP, dleQ, dne, dne'⟩, ⟨xl, x0, x1, x2, xf0, xf1, xf2⟩, dleX, dxp, dxq, dpx, dqx⟩ := id h3
      go_wp2_with fail
      go_meet
      exact ⟨rfl, rfl⟩
  case rest =>
  obtain ⟨rfl, hwE⟩ := hcut
  rw [hwE]
  clear hwE
  obtain ⟨⟨⟨pl, p0, p1, p2, pf0, pf1, pf2⟩, ⟨ql, q0, q1, q2, qf0, qf1, qf2⟩, dbel, dleP, dleQ, dne, dne'⟩, ⟨xl, x0, x1, x2, xf0, xf1, xf2⟩, dleX, dxp, dxq, dpx, dqx⟩ := id h3
  go_upto_if 66 with fail
  clear pl p0 p1 p2 pf0 pf1 pf2 ql q0 q1 q2 qf0 qf1 qf2 dbel dleP dleQ dne dne' xl x0 x1 x2 xf0 xf1 xf2 dleX dxp dxq dpx dqx
  have hN := h3.setQ 0 0 0
  (try unfold set3 at hN)
  generalize ((w4.setCell ⟨Q, 0, none⟩ (.int .i64 0)).setCell ⟨Q, 1, none⟩ (.int .i64 0)).setCell ⟨Q, 2, none⟩ (.int .i64 0) = W5 at hN ⊢
  clear h3
  have h3 := hN
  clear hN
  go_cut [6] (fun s6 wx => s6 = .int .i64 f ∧ Three w wx P Q X s l y a2 b2 c2 a1 b1 c1)
  case first =>
    rcases R3.out with ⟨f0, rfl, rfl, rfl⟩ | ⟨rfl, g1, rfl, rfl, rfl⟩
    · obtain ⟨⟨⟨pl, p0, p1, p2, pf0, pf1, pf2⟩, ⟨ql, q0, q1, q2, qf0, qf1, qf2⟩, dbel, dleP, dleQ, dne, dne'⟩, ⟨xl, x0, x1, x2, xf0, xf1, xf2⟩, dleX, dxp, dxq, dpx, dqx⟩ := id h3
      go_wp2_with fail
      go_meet
      exact ⟨rfl, h3⟩
    · obtain ⟨d0, d1⟩ := div_200 s0 n0 n1
      have hs0 : (s : Int) ≠ 0 := by omega
      obtain ⟨⟨⟨pl, p0, p1, p2, pf0, pf1, pf2⟩, ⟨ql, q0, q1, q2, qf0, qf1, qf2⟩, dbel, dleP, dleQ, dne, dne'⟩, ⟨xl, x0, x1, x2, xf0, xf1, xf2⟩, dleX, dxp, dxq, dpx, dqx⟩ := id h3
      go_upto_region 17 with fail
      clear pl p0 p1 p2 pf0 pf1 pf2 ql q0 q1 q2 qf0 qf1 qf2 dbel dleP dleQ dne dne' xl x0 x1 x2 xf0 xf1 xf2 dleX dxp dxq dpx dqx
      have hN := h3.setQ s l y
      (try unfold set3 at hN)
      generalize ((W5.setCell ⟨Q, 0, none⟩ (.int .i64 s)).setCell ⟨Q, 1, none⟩ (.int .i64 l)).setCell ⟨Q, 2, none⟩ (.int .i64 y) = W6 at hN ⊢
      clear h3
      have h3 := hN
      clear hN
      obtain ⟨⟨⟨pl, p0, p1, p2, pf0, pf1, pf2⟩, ⟨ql, q0, q1, q2, qf0, qf1, qf2⟩, dbel, dleP, dleQ, dne, dne'⟩, ⟨xl, x0, x1, x2, xf0, xf1, xf2⟩, dleX, dxp, dxq, dpx, dqx⟩ := id h3
      go_upto_if 77 with fail
      clear pl p0 p1 p2 pf0 pf1 pf2 ql q0 q1 q2 qf0 qf1 qf2 dbel dleP dleQ dne dne' xl x0 x1 x2 xf0 xf1 xf2 dleX dxp dxq dpx dqx
      have hN := h3.setQ2 (y - n)
      (try unfold set3 at hN)
      generalize W6.setCell ⟨Q, 2, none⟩ (.int .i64 (y - n)) = W7 at hN ⊢
      clear h3
      have h3 := hN
      clear hN
      go_cut [6] (fun s6 wx => s6 = .int .i64 0 ∧ Three w wx P Q X s l y (s + grw s l n) l (y - n) a1 b1 c1)
      case first =>
        by_cases c1 : s < l
        · have hg : Hid (grw s l n = n) := if_pos c1
          obtain ⟨⟨⟨pl, p0, p1, p2, pf0, pf1, pf2⟩, ⟨ql, q0, q1, q2, qf0, qf1, qf2⟩, dbel, dleP, dleQ, dne, dne'⟩, ⟨xl, x0, x1, x2, xf0, xf1, xf2⟩, dleX, dxp, dxq, dpx, dqx⟩ := id h3
          go_wp2_with fail
          go_meet
          exact ⟨rfl, by rw [hg.out]; exact h3.setQ0 (s + n)⟩
        · have hg : Hid (grw s l n = n * 200 / s) := if_neg c1
          have hw1 : IntKind.i64.wrap (n * 200) = n * 200 := wrap_small _ (by omega) (by omega)
          have hw2 : IntKind.i64.wrap (s + n * 200 / s) = s + n * 200 / s := wrap_small _ (by omega) (by omega)
          obtain ⟨⟨⟨pl, p0, p1, p2, pf0, pf1, pf2⟩, ⟨ql, q0, q1, q2, qf0, qf1, qf2⟩, dbel, dleP, dleQ, dne, dne'⟩, ⟨xl, x0, x1, x2, xf0, xf1, xf2⟩, dleX, dxp, dxq, dpx, dqx⟩ := id h3
          go_wp2_with fail
          go_region
          all_goals (try go_wp2_with fail)
          all_goals go_meet
          all_goals exact ⟨rfl, by rw [hg.out]; first | exact (h3.setQ0 (s + n * 200 / s)).drew | exact h3.setQ0 (s + n * 200 / s)⟩
      case rest =>
      clear h3
      obtain ⟨rfl, h3⟩ := hcut
      have hgb := grw_bd (l := l) s0 n0 n1
      have hcm : Hid (cameS s l n = if s + grw s l n < 100000 then s + grw s l n else 100000) := rfl
      generalize grw s l n = q at h3 hgb hcm ⊢
      by_cases c2 : 100000 < s + q
      · obtain ⟨⟨⟨pl, p0, p1, p2, pf0, pf1, pf2⟩, ⟨ql, q0, q1, q2, qf0, qf1, qf2⟩, dbel, dleP, dleQ, dne, dne'⟩, ⟨xl, x0, x1, x2, xf0, xf1, xf2⟩, dleX, dxp, dxq, dpx, dqx⟩ := id h3
        go_wp2_with fail
        go_meet
        exact ⟨rfl, by rw [hcm.out, if_neg (by omega)]; exact h3.setQ0 100000⟩
      · obtain ⟨⟨⟨pl, p0, p1, p2, pf0, pf1, pf2⟩, ⟨ql, q0, q1, q2, qf0, qf1, qf2⟩, dbel, dleP, dleQ, dne, dne'⟩, ⟨xl, x0, x1, x2, xf0, xf1, xf2⟩, dleX, dxp, dxq, dpx, dqx⟩ := id h3
        go_wp2_with fail
        go_meet
        exact ⟨rfl, by rw [hcm.out, show (if s + q < 100000 then s + q else 100000) = s + q by split <;> omega]; exact h3⟩
  case rest =>
  clear h3
  obtain ⟨rfl, h3⟩ := hcut
  obtain ⟨⟨⟨pl, p0, p1, p2, pf0, pf1, pf2⟩, ⟨ql, q0, q1, q2, qf0, qf1, qf2⟩, dbel, dleP, dleQ, dne, dne'⟩, ⟨xl, x0, x1, x2, xf0, xf1, xf2⟩, dleX, dxp, dxq, dpx, dqx⟩ := id h3
  go_wp2_with fail
  clear pl p0 p1 p2 pf0 pf1 pf2 ql q0 q1 q2 qf0 qf1 qf2 dbel dleP dleQ dne dne' xl x0 x1 x2 xf0 xf1 xf2 dleX dxp dxq dpx dqx
  refine (PC _).mono ?_
  rintro e_ w6 ⟨rfl, hb⟩
  have h3 := h3.below hb
  clear hb
  obtain ⟨⟨⟨pl, p0, p1, p2, pf0, pf1, pf2⟩, ⟨ql, q0, q1, q2, qf0, qf1, qf2⟩, dbel, dleP, dleQ, dne, dne'⟩, ⟨xl, x0, x1, x2, xf0, xf1, xf2⟩, dleX, dxp, dxq, dpx, dqx⟩ := id h3
  go_wp2_with fail
  clear pl p0 p1 p2 pf0 pf1 pf2 ql q0 q1 q2 qf0 qf1 qf2 dbel dleP dleQ dne dne' xl x0 x1 x2 xf0 xf1 xf2 dleX dxp dxq dpx dqx
  have hN := h3.setX a2 b2 c2
  (try unfold set3 at hN)
  generalize ((w6.setCell ⟨X, 0, none⟩ (.int .i64 a2)).setCell ⟨X, 1, none⟩ (.int .i64 b2)).setCell ⟨X, 2, none⟩ (.int .i64 c2) = W8 at hN ⊢
  clear h3
  have h3 := hN
  clear hN
  refine (SO _ (hH.below h3.two.bel)).mono ?_
  rintro e_ w7 ⟨rfl, hb⟩
  have h3 := h3.below hb
  clear hb
  obtain ⟨⟨⟨pl, p0, p1, p2, pf0, pf1, pf2⟩, ⟨ql, q0, q1, q2, qf0, qf1, qf2⟩, dbel, dleP, dleQ, dne, dne'⟩, ⟨xl, x0, x1, x2, xf0, xf1, xf2⟩, dleX, dxp, dxq, dpx, dqx⟩ := id h3
  go_upto_region 25 with fail
  clear pl p0 p1 p2 pf0 pf1 pf2 ql q0 q1 q2 qf0 qf1 qf2 dbel dleP dleQ dne dne' xl x0 x1 x2 xf0 xf1 xf2 dleX dxp dxq dpx dqx
  obtain ⟨⟨⟨pl, p0, p1, p2, pf0, pf1, pf2⟩, ⟨ql, q0, q1, q2, qf0, qf1, qf2⟩, dbel, dleP, dleQ, dne, dne'⟩, ⟨xl, x0, x1, x2, xf0, xf1, xf2⟩, dleX, dxp, dxq, dpx, dqx⟩ := id h3
  go_upto_if 112 with fail
  clear pl p0 p1 p2 pf0 pf1 pf2 ql q0 q1 q2 qf0 qf1 qf2 dbel dleP dleQ dne dne' xl x0 x1 x2 xf0 xf1 xf2 dleX dxp dxq dpx dqx
  have hN := h3.setQ 0 0 0
  (try unfold set3 at hN)
  generalize ((w7.setCell ⟨Q, 0, none⟩ (.int .i64 0)).setCell ⟨Q, 1, none⟩ (.int .i64 0)).setCell ⟨Q, 2, none⟩ (.int .i64 0) = W9 at hN ⊢
  clear h3
  have h3 := hN
  clear hN
  go_cut [6] (fun s6 wx => s6 = .int .i64 f ∧ Three w wx P Q X s l y a3 b3 c3 a2 b2 c2)
  case first =>
    rcases R4.out with ⟨f0, rfl, rfl, rfl⟩ | ⟨rfl, g1, rfl, rfl, rfl⟩
    · obtain ⟨⟨⟨pl, p0, p1, p2, pf0, pf1, pf2⟩, ⟨ql, q0, q1, q2, qf0, qf1, qf2⟩, dbel, dleP, dleQ, dne, dne'⟩, ⟨xl, x0, x1, x2, xf0, xf1, xf2⟩, dleX, dxp, dxq, dpx, dqx⟩ := id h3
      go_wp2_with fail
      go_meet
      exact ⟨rfl, h3⟩
    · obtain ⟨⟨⟨pl, p0, p1, p2, pf0, pf1, pf2⟩, ⟨ql, q0, q1, q2, qf0, qf1, qf2⟩, dbel, dleP, dleQ, dne, dne'⟩, ⟨xl, x0, x1, x2, xf0, xf1, xf2⟩, dleX, dxp, dxq, dpx, dqx⟩ := id h3
      go_upto_region 28 with fail
      clear pl p0 p1 p2 pf0 pf1 pf2 ql q0 q1 q2 qf0 qf1 qf2 dbel dleP dleQ dne dne' xl x0 x1 x2 xf0 xf1 xf2 dleX dxp dxq dpx dqx
      have hN := h3.setQ s l y
      (try unfold set3 at hN)
      generalize ((W9.setCell ⟨Q, 0, none⟩ (.int .i64 s)).setCell ⟨Q, 1, none⟩ (.int .i64 l)).setCell ⟨Q, 2, none⟩ (.int .i64 y) = W10 at hN ⊢
      clear h3
      have h3 := hN
      clear hN
      obtain ⟨⟨⟨pl, p0, p1, p2, pf0, pf1, pf2⟩, ⟨ql, q0, q1, q2, qf0, qf1, qf2⟩, dbel, dleP, dleQ, dne, dne'⟩, ⟨xl, x0, x1, x2, xf0, xf1, xf2⟩, dleX, dxp, dxq, dpx, dqx⟩ := id h3
      go_upto_region 29 with fail
      clear pl p0 p1 p2 pf0 pf1 pf2 ql q0 q1 q2 qf0 qf1 qf2 dbel dleP dleQ dne dne' xl x0 x1 x2 xf0 xf1 xf2 dleX dxp dxq dpx dqx
      have hN := h3.setQ2 (y - n)
      (try unfold set3 at hN)
      generalize W10.setCell ⟨Q, 2, none⟩ (.int .i64 (y - n)) = W11 at hN ⊢
      clear h3
      have h3 := hN
      clear hN
      obtain ⟨⟨⟨pl, p0, p1, p2, pf0, pf1, pf2⟩, ⟨ql, q0, q1, q2, qf0, qf1, qf2⟩, dbel, dleP, dleQ, dne, dne'⟩, ⟨xl, x0, x1, x2, xf0, xf1, xf2⟩, dleX, dxp, dxq, dpx, dqx⟩ := id h3
      go_upto_if 125 with fail
      clear pl p0 p1 p2 pf0 pf1 pf2 ql q0 q1 q2 qf0 qf1 qf2 dbel dleP dleQ dne dne' xl x0 x1 x2 xf0 xf1 xf2 dleX dxp dxq dpx dqx
      have hN := h3.setQ0 (s / 2)
      (try unfold set3 at hN)
      generalize W11.setCell ⟨Q, 0, none⟩ (.int .i64 (s / 2)) = W12 at hN ⊢
      clear h3
      have h3 := hN
      clear hN
      by_cases c3 : s / 2 < 400
      · have hg : Hid (lostS s = 400) := if_pos c3
        obtain ⟨⟨⟨pl, p0, p1, p2, pf0, pf1, pf2⟩, ⟨ql, q0, q1, q2, qf0, qf1, qf2⟩, dbel, dleP, dleQ, dne, dne'⟩, ⟨xl, x0, x1, x2, xf0, xf1, xf2⟩, dleX, dxp, dxq, dpx, dqx⟩ := id h3
        go_upto_region 32 with fail
        clear pl p0 p1 p2 pf0 pf1 pf2 ql q0 q1 q2 qf0 qf1 qf2 dbel dleP dleQ dne dne' xl x0 x1 x2 xf0 xf1 xf2 dleX dxp dxq dpx dqx
        have hN := h3.setQ0 400
        (try unfold set3 at hN)
        generalize W12.setCell ⟨Q, 0, none⟩ (.int .i64 400) = W13 at hN ⊢
        clear h3
        have h3 := hN
        clear hN
        obtain ⟨⟨⟨pl, p0, p1, p2, pf0, pf1, pf2⟩, ⟨ql, q0, q1, q2, qf0, qf1, qf2⟩, dbel, dleP, dleQ, dne, dne'⟩, ⟨xl, x0, x1, x2, xf0, xf1, xf2⟩, dleX, dxp, dxq, dpx, dqx⟩ := id h3
        go_wp2_with fail
        go_meet
        exact ⟨rfl, by rw [hg.out]; exact h3.setQ1 400⟩
      · have hg : Hid (lostS s = s / 2) := if_neg c3
        obtain ⟨⟨⟨pl, p0, p1, p2, pf0, pf1, pf2⟩, ⟨ql, q0, q1, q2, qf0, qf1, qf2⟩, dbel, dleP, dleQ, dne, dne'⟩, ⟨xl, x0, x1, x2, xf0, xf1, xf2⟩, dleX, dxp, dxq, dpx, dqx⟩ := id h3
        go_wp2_with fail
        go_meet
        exact ⟨rfl, by rw [hg.out]; exact h3.setQ1 (s / 2)⟩
  case rest =>
  clear h3
  obtain ⟨rfl, h3⟩ := hcut
  obtain ⟨⟨⟨pl, p0, p1, p2, pf0, pf1, pf2⟩, ⟨ql, q0, q1, q2, qf0, qf1, qf2⟩, dbel, dleP, dleQ, dne, dne'⟩, ⟨xl, x0, x1, x2, xf0, xf1, xf2⟩, dleX, dxp, dxq, dpx, dqx⟩ := id h3
  go_wp2_with fail
  clear pl p0 p1 p2 pf0 pf1 pf2 ql q0 q1 q2 qf0 qf1 qf2 dbel dleP dleQ dne dne' xl x0 x1 x2 xf0 xf1 xf2 dleX dxp dxq dpx dqx
  refine (PL _).mono ?_
  rintro e_ w8 ⟨rfl, hb⟩
  have h3 := h3.below hb
  clear hb
  obtain ⟨⟨⟨pl, p0, p1, p2, pf0, pf1, pf2⟩, ⟨ql, q0, q1, q2, qf0, qf1, qf2⟩, dbel, dleP, dleQ, dne, dne'⟩, ⟨xl, x0, x1, x2, xf0, xf1, xf2⟩, dleX, dxp, dxq, dpx, dqx⟩ := id h3
  go_wp2_with fail
  clear pl p0 p1 p2 pf0 pf1 pf2 ql q0 q1 q2 qf0 qf1 qf2 dbel dleP dleQ dne dne' xl x0 x1 x2 xf0 xf1 xf2 dleX dxp dxq dpx dqx
  have hN := h3.setX a3 b3 c3
  (try unfold set3 at hN)
  generalize ((w8.setCell ⟨X, 0, none⟩ (.int .i64 a3)).setCell ⟨X, 1, none⟩ (.int .i64 b3)).setCell ⟨X, 2, none⟩ (.int .i64 c3) = W14 at hN ⊢
  clear h3
  have h3 := hN
  clear hN
  refine (SO _ (hH.below h3.two.bel)).mono ?_
  rintro e_ w9 ⟨rfl, hb⟩
  have h3 := h3.below hb
  clear hb
  obtain ⟨⟨⟨pl, p0, p1, p2, pf0, pf1, pf2⟩, ⟨ql, q0, q1, q2, qf0, qf1, qf2⟩, dbel, dleP, dleQ, dne, dne'⟩, ⟨xl, x0, x1, x2, xf0, xf1, xf2⟩, dleX, dxp, dxq, dpx, dqx⟩ := id h3
  go_wp2_with fail
  refine (least_calls _).mono ?_
  rintro e_ w10 ⟨rfl, rfl⟩
  go_wp2_with fail
  go_ret
  exact ⟨by simp, h3.two.bel⟩
end Go.Proofs.YtaiapmibpogoeaaDoor
