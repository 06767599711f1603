/- The walk of the law WindowTells, where something is wrong. -/
import Derived.Test.YtaiapmibpogoeaaDoorE
import Derived.Deep.DeepCutAuto
namespace Go.Proofs.YtaiapmibpogoeaaDoor
open Go.RowKit Go.Lib Go.Sort
set_option linter.unusedVariables false
set_option linter.unusedSimpArgs false

set_option maxRecDepth 100000 in
set_option maxHeartbeats 8000000 in
theorem tells_no (s l y n : Int) (v : Value) (w : World) (hH : Handle w)
    (RW : ∀ w, Calls Tryd.prog 6 #[win s l y, .int .i64 n] w fun e w' => e = .returned (.int .i64 1) ∧ Below w.heap.size w w')
    (PS : ∀ w, Calls Tryd.prog 7 #[win s l y, .int .i64 n] w fun e w' => e = .returned (.tuple #[win 0 0 0, v]) ∧ Below w.heap.size w w')
    (PC : ∀ w, Calls Tryd.prog 8 #[win s l y, .int .i64 n] w fun e w' => e = .returned (.tuple #[win 0 0 0, v]) ∧ Below w.heap.size w w')
    (PL : ∀ w, Calls Tryd.prog 9 #[win s l y, .int .i64 n] w fun e w' => e = .returned (.tuple #[win 0 0 0, v]) ∧ Below w.heap.size w w')
    (SO : ∀ w, Handle w → Calls Tryd.prog 4 #[v, .int .i64 1] w fun e w' => e = .returned (.bool true) ∧ Below w.heap.size w w') :
    Calls Tryd.prog 3 #[win s l y, .int .i64 n] w fun e w' => e = .returned (.bool true) ∧ Below w.heap.size w w' := by
  have eqt := eqW
  have gdt := guardW
  go_enter Tryd.func3, Tryd.ntmps3
  go_upto_region 1 with fail
  have h1 := one_start w s l y
  unfold put at h1
  generalize w.heap.size = P at h1 ⊢
  generalize w.alloc (.cells #[.int .i64 s, .int .i64 l, .int .i64 y] 23) = W0 at h1 ⊢
  go_cut [5] (fun s5 wx => s5 = .bool true ∧ One w wx P s l y)
  case first =>
    obtain ⟨⟨pl, p0, p1, p2, pf0, pf1, pf2⟩, dbel, dleP⟩ := id h1
    go_region_with (first | (go_at_call 5; refine (check_calls s l y _).mono ?_; rintro e w5 ⟨rfl, hb⟩; have h1 : One w w5 P s l y := (by first | exact h1.below hb | exact h1.below (Below.of_drew hb)); obtain ⟨⟨pl, p0, p1, p2, pf0, pf1, pf2⟩, dbel, dleP⟩ := id h1) | (go_at_call 6; refine (rwin_one s l y _).mono ?_; rintro e w6 ⟨rfl, hb⟩; have h1 : One w w6 P s l y := (by first | exact h1.below hb | exact h1.below (Below.of_drew hb)); obtain ⟨⟨pl, p0, p1, p2, pf0, pf1, pf2⟩, dbel, dleP⟩ := id h1) | (go_at_call 4; refine (same_errV (flt s l y) _ (by first | exact hH.below h1.bel | exact hH.below h1.drew.bel)).mono ?_; rintro e w7 ⟨rfl, hb⟩; have h1 : One w w7 P s l y := (by first | exact h1.below hb | exact h1.below (Below.of_drew hb)); obtain ⟨⟨pl, p0, p1, p2, pf0, pf1, pf2⟩, dbel, dleP⟩ := id h1))
    all_goals (try go_wp2_with fail)
    all_goals go_meet
    all_goals exact ⟨rfl, by first | exact h1 | exact h1.drew⟩
  case rest =>
  clear h1
  obtain ⟨rfl, h1⟩ := hcut
  obtain ⟨⟨pl, p0, p1, p2, pf0, pf1, pf2⟩, dbel, dleP⟩ := id h1
  go_wp2_with fail
  clear pl p0 p1 p2 pf0 pf1 pf2 dbel dleP
  refine (RW _).mono ?_
  rintro e_ w2 ⟨rfl, hb⟩
  have h1 := h1.below hb
  clear hb
  obtain ⟨⟨pl, p0, p1, p2, pf0, pf1, pf2⟩, dbel, dleP⟩ := id h1
  go_wp2_with fail
  clear pl p0 p1 p2 pf0 pf1 pf2 dbel dleP
  have h2 := h1.duo 0 0 0
  unfold put at h2
  clear h1
  generalize w2.heap.size = Q at h2 ⊢
  generalize w2.alloc (.cells #[.int .i64 0, .int .i64 0, .int .i64 0] 23) = W2 at h2 ⊢
  refine (PS _).mono ?_
  rintro e_ w3 ⟨rfl, hb⟩
  have h2 := h2.below hb
  clear hb
  obtain ⟨⟨pl, p0, p1, p2, pf0, pf1, pf2⟩, ⟨ql, q0, q1, q2, qf0, qf1, qf2⟩, dbel, dleP, dleQ, dne, dne'⟩ := id h2
  go_wp2_with fail
  clear pl p0 p1 p2 pf0 pf1 pf2 ql q0 q1 q2 qf0 qf1 qf2 dbel dleP dleQ dne dne'
  have h3 := h2.three 0 0 0
  unfold put at h3
  clear h2
  generalize w3.heap.size = X at h3 ⊢
  generalize w3.alloc (.cells #[.int .i64 0, .int .i64 0, .int .i64 0] 23) = W4 at h3 ⊢
  refine (SO _ (hH.below h3.two.bel)).mono ?_
  rintro e_ w4 ⟨rfl, hb⟩
  have h3 := h3.below hb
  clear hb
  obtain ⟨⟨⟨pl, p0, p1, p2, pf0, pf1, pf2⟩, ⟨ql, q0, q1, q2, qf0, qf1, qf2⟩, dbel, dleP, dleQ, dne, dne'⟩, ⟨xl, x0, x1, x2, xf0, xf1, xf2⟩, dleX, dxp, dxq, dpx, dqx⟩ := id h3
  have h4 := h3.setQ 0 0 0
  obtain ⟨⟨⟨pl_, p0_, p1_, p2_, pf0_, pf1_, pf2_⟩, _⟩, _⟩ := id h4
  go_wp2_with fail
  clear pl p0 p1 p2 pf0 pf1 pf2 ql q0 q1 q2 qf0 qf1 qf2 dbel dleP dleQ dne dne' xl x0 x1 x2 xf0 xf1 xf2 dleX dxp dxq dpx dqx
  clear pl_ p0_ p1_ p2_ pf0_ pf1_ pf2_ h4
  have hN := h3.setQ 0 0 0
  (try unfold set3 at hN)
  generalize ((w4.setCell ⟨Q, 0, none⟩ (.int .i64 0)).setCell ⟨Q, 1, none⟩ (.int .i64 0)).setCell ⟨Q, 2, none⟩ (.int .i64 0) = Vw6 at hN ⊢
  clear h3
  have h3 := hN
  clear hN
  refine (PC _).mono ?_
  rintro e_ w6 ⟨rfl, hb⟩
  have h3 := h3.below hb
  clear hb
  obtain ⟨⟨⟨pl, p0, p1, p2, pf0, pf1, pf2⟩, ⟨ql, q0, q1, q2, qf0, qf1, qf2⟩, dbel, dleP, dleQ, dne, dne'⟩, ⟨xl, x0, x1, x2, xf0, xf1, xf2⟩, dleX, dxp, dxq, dpx, dqx⟩ := id h3
  go_wp2_with fail
  clear pl p0 p1 p2 pf0 pf1 pf2 ql q0 q1 q2 qf0 qf1 qf2 dbel dleP dleQ dne dne' xl x0 x1 x2 xf0 xf1 xf2 dleX dxp dxq dpx dqx
  have hN := h3.setX 0 0 0
  (try unfold set3 at hN)
  generalize ((w6.setCell ⟨X, 0, none⟩ (.int .i64 0)).setCell ⟨X, 1, none⟩ (.int .i64 0)).setCell ⟨X, 2, none⟩ (.int .i64 0) = Uw6 at hN ⊢
  clear h3
  have h3 := hN
  clear hN
  refine (SO _ (hH.below h3.two.bel)).mono ?_
  rintro e_ w7 ⟨rfl, hb⟩
  have h3 := h3.below hb
  clear hb
  obtain ⟨⟨⟨pl, p0, p1, p2, pf0, pf1, pf2⟩, ⟨ql, q0, q1, q2, qf0, qf1, qf2⟩, dbel, dleP, dleQ, dne, dne'⟩, ⟨xl, x0, x1, x2, xf0, xf1, xf2⟩, dleX, dxp, dxq, dpx, dqx⟩ := id h3
  have h4 := h3.setQ 0 0 0
  obtain ⟨⟨⟨pl_, p0_, p1_, p2_, pf0_, pf1_, pf2_⟩, _⟩, _⟩ := id h4
  go_wp2_with fail
  clear pl p0 p1 p2 pf0 pf1 pf2 ql q0 q1 q2 qf0 qf1 qf2 dbel dleP dleQ dne dne' xl x0 x1 x2 xf0 xf1 xf2 dleX dxp dxq dpx dqx
  clear pl_ p0_ p1_ p2_ pf0_ pf1_ pf2_ h4
  have hN := h3.setQ 0 0 0
  (try unfold set3 at hN)
  generalize ((w7.setCell ⟨Q, 0, none⟩ (.int .i64 0)).setCell ⟨Q, 1, none⟩ (.int .i64 0)).setCell ⟨Q, 2, none⟩ (.int .i64 0) = Vw8 at hN ⊢
  clear h3
  have h3 := hN
  clear hN
  refine (PL _).mono ?_
  rintro e_ w8 ⟨rfl, hb⟩
  have h3 := h3.below hb
  clear hb
  obtain ⟨⟨⟨pl, p0, p1, p2, pf0, pf1, pf2⟩, ⟨ql, q0, q1, q2, qf0, qf1, qf2⟩, dbel, dleP, dleQ, dne, dne'⟩, ⟨xl, x0, x1, x2, xf0, xf1, xf2⟩, dleX, dxp, dxq, dpx, dqx⟩ := id h3
  go_wp2_with fail
  clear pl p0 p1 p2 pf0 pf1 pf2 ql q0 q1 q2 qf0 qf1 qf2 dbel dleP dleQ dne dne' xl x0 x1 x2 xf0 xf1 xf2 dleX dxp dxq dpx dqx
  have hN := h3.setX 0 0 0
  (try unfold set3 at hN)
  generalize ((w8.setCell ⟨X, 0, none⟩ (.int .i64 0)).setCell ⟨X, 1, none⟩ (.int .i64 0)).setCell ⟨X, 2, none⟩ (.int .i64 0) = Uw8 at hN ⊢
  clear h3
  have h3 := hN
  clear hN
  refine (SO _ (hH.below h3.two.bel)).mono ?_
  rintro e_ w9 ⟨rfl, hb⟩
  have h3 := h3.below hb
  clear hb
  obtain ⟨⟨⟨pl, p0, p1, p2, pf0, pf1, pf2⟩, ⟨ql, q0, q1, q2, qf0, qf1, qf2⟩, dbel, dleP, dleQ, dne, dne'⟩, ⟨xl, x0, x1, x2, xf0, xf1, xf2⟩, dleX, dxp, dxq, dpx, dqx⟩ := id h3
  go_wp2_with fail
  refine (least_calls _).mono ?_
  rintro e_ w10 ⟨rfl, rfl⟩
  go_wp2_with fail
  go_ret
  exact ⟨by simp, h3.two.bel⟩
end Go.Proofs.YtaiapmibpogoeaaDoor
