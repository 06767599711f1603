/- The walk of the law PathTells. -/
import Derived.Test.YtjjfeffmmkoooaaDoorH
import Derived.Deep.LoopGhost
import Derived.Deep.DeepCutAuto
namespace Go.Proofs.YtjjfeffmmkoooaaDoor
open Go.RowKit Go.Lib Go.Sort
set_option linter.unusedVariables false
set_option linter.unusedSimpArgs false

set_option maxRecDepth 100000 in
set_option maxHeartbeats 4000000 in
theorem tells_zero (o : Int) (k : Bool) (n : Int) (ci co cf si so sf : Int) (ck sk : Bool) (cv sv : Value) (w : World) (hH : Handle w)
    (RC : ∀ w, Calls Tryd.prog 9 #[path 0 o k, .int .i64 n] w fun e w' => e = .returned (.tuple #[path ci co ck, .int .i64 cf]) ∧ Below w.heap.size w w')
    (PC : ∀ w, Calls Tryd.prog 10 #[path 0 o k, .int .i64 n] w fun e w' => e = .returned (.tuple #[path ci co ck, cv]) ∧ Below w.heap.size w w')
    (SC : ∀ w, Handle w → Calls Tryd.prog 7 #[cv, .int .i64 cf] w fun e w' => e = .returned (.bool true) ∧ Below w.heap.size w w')
    (RS : ∀ w, Calls Tryd.prog 11 #[path 0 o k, .int .i64 n] w fun e w' => e = .returned (.tuple #[path si so sk, .int .i64 sf]) ∧ Below w.heap.size w w')
    (PS : ∀ w, Calls Tryd.prog 12 #[path 0 o k, .int .i64 n] w fun e w' => e = .returned (.tuple #[path si so sk, sv]) ∧ Below w.heap.size w w')
    (SS : ∀ w, Handle w → Calls Tryd.prog 7 #[sv, .int .i64 sf] w fun e w' => e = .returned (.bool true) ∧ Below w.heap.size w w') (h : flt 0 o k = 0) :
    Calls Tryd.prog 3 #[path 0 o k, .int .i64 n] w fun e w' => e = .returned (.bool true) ∧ Below w.heap.size w w' := by
  have eqt := eqP
  have gdt := guardP
  go_enter Tryd.func3, Tryd.ntmps3
  go_wp2_with fail
  have h1 := one_start w 0 o k
  generalize w.heap.size = P at h1 ⊢
  refine (rpath_calls 0 o k _).mono ?_
  rintro e wN ⟨rfl, hb⟩
  rw [h]
  have h1 := h1.below hb
  clear hb
  have hcc := h1
  obtain ⟨⟨pl, p0, p1, p2, pf0, pf1, pf2⟩, _⟩ := hcc
  go_wp2_with fail
  clear pl p0 p1 p2 pf0 pf1 pf2
  refine (check_ok 0 o k _ h).mono ?_
  rintro e wN ⟨rfl, hb⟩
  have h1 := h1.below hb
  clear hb
  have hcc := h1
  obtain ⟨⟨pl, p0, p1, p2, pf0, pf1, pf2⟩, _⟩ := hcc
  go_wp2_with fail
  clear pl p0 p1 p2 pf0 pf1 pf2
  refine (same_nil 0 _).mono ?_
  rintro e wN ⟨rfl, hb⟩
  have h1 := h1.below hb
  clear hb
  have hcc := h1
  obtain ⟨⟨pl, p0, p1, p2, pf0, pf1, pf2⟩, _⟩ := hcc
  go_wp2_with fail
  clear pl p0 p1 p2 pf0 pf1 pf2
  refine (RC _).mono ?_
  rintro e w3 ⟨rfl, hb⟩
  have h1 := h1.below hb
  clear hb
  have h2 := h1.below (below_put w3 ci co ck)
  have hcc := h2
  obtain ⟨⟨pl, p0, p1, p2, pf0, pf1, pf2⟩, _⟩ := hcc
  go_wp2_with fail
  clear pl p0 p1 p2 pf0 pf1 pf2
  clear h2
  refine (PC _).mono ?_
  rintro e w4 ⟨rfl, hb⟩
  have h3 := three_start h1 hb ci co ck
  clear hb h1
  unfold put at h3
  go_wp2_with fail
  generalize w4.heap.size = X at h3 ⊢
  generalize w3.heap.size = Q at h3 ⊢
  generalize w4.alloc (.cells #[.int .i64 ci, .int .i64 co, .bool ck] 23) = W4 at h3 ⊢
  refine (SC _ (hH.below h3.bel)).mono ?_
  rintro e wN ⟨rfl, hb⟩
  have h3 := h3.below hb
  clear hb
  have hcc := h3
  obtain ⟨⟨pl, p0, p1, p2, pf0, pf1, pf2⟩, ⟨ql, q0, q1, q2, qf0, qf1, qf2⟩, ⟨xl, x0, x1, x2, xf0, xf1, xf2⟩, _⟩ := hcc
  go_wp2_with fail
  clear pl p0 p1 p2 pf0 pf1 pf2 ql q0 q1 q2 qf0 qf1 qf2 xl x0 x1 x2 xf0 xf1 xf2
  refine (RS _).mono ?_
  rintro e wN ⟨rfl, hb⟩
  have h3 := h3.below hb
  clear hb
  have h4 := h3.setQ si so sk
  have hcc := h3
  obtain ⟨⟨pl, p0, p1, p2, pf0, pf1, pf2⟩, ⟨ql, q0, q1, q2, qf0, qf1, qf2⟩, ⟨xl, x0, x1, x2, xf0, xf1, xf2⟩, _⟩ := hcc
  have hcc := h4
  obtain ⟨⟨pl', p0', p1', p2', pf0', pf1', pf2'⟩, ⟨ql', q0', q1', q2', qf0', qf1', qf2'⟩, ⟨xl', x0', x1', x2', xf0', xf1', xf2'⟩, _⟩ := hcc
  go_wp2_with fail
  clear pl p0 p1 p2 pf0 pf1 pf2 ql q0 q1 q2 qf0 qf1 qf2 xl x0 x1 x2 xf0 xf1 xf2
  clear pl' p0' p1' p2' pf0' pf1' pf2' ql' q0' q1' q2' qf0' qf1' qf2' xl' x0' x1' x2' xf0' xf1' xf2'
  clear h3
  have h3 := h4
  clear h4
  refine (PS _).mono ?_
  rintro e wN ⟨rfl, hb⟩
  have h3 := h3.below hb
  clear hb
  have h4 := h3.setX si so sk
  have hcc := h3
  obtain ⟨⟨pl, p0, p1, p2, pf0, pf1, pf2⟩, ⟨ql, q0, q1, q2, qf0, qf1, qf2⟩, ⟨xl, x0, x1, x2, xf0, xf1, xf2⟩, _⟩ := hcc
  go_wp2_with fail
  clear pl p0 p1 p2 pf0 pf1 pf2 ql q0 q1 q2 qf0 qf1 qf2 xl x0 x1 x2 xf0 xf1 xf2
  clear h3
  have h3 := h4
  clear h4
  refine (SS _ (hH.below h3.bel)).mono ?_
  rintro e wN ⟨rfl, hb⟩
  have h3 := h3.below hb
  clear hb
  have hcc := h3
  obtain ⟨⟨pl, p0, p1, p2, pf0, pf1, pf2⟩, ⟨ql, q0, q1, q2, qf0, qf1, qf2⟩, ⟨xl, x0, x1, x2, xf0, xf1, xf2⟩, _⟩ := hcc
  go_wp2_with fail
  clear pl p0 p1 p2 pf0 pf1 pf2 ql q0 q1 q2 qf0 qf1 qf2 xl x0 x1 x2 xf0 xf1 xf2
  generalize hWN : wN = W0 at h3 ⊢
  clear hWN
  obtain ⟨hi, ho, hbd⟩ := flt_zero h
  have hr0 : Hid (0 ≤ bnd 0 k - o) := (by omega : 0 ≤ bnd 0 k - o)
  go_loopg [8, 13, 14] 201 (fun gk s8 s13 s14 wr => ∃ (j : Nat) (z : Int), gk + j = 201 ∧ s13 = .int .i64 z ∧ s14 = .int .i64 j ∧ Hid (upTo z j (bnd 0 k - o)) ∧ Three w wr P Q X 0 o k si so sk si so sk)
  case atStart => exact ⟨0, 0, rfl, rfl, rfl, .inl ⟨rfl, rfl⟩, h3⟩
  case round =>
    clear h3
    obtain ⟨j, z, hk1, rfl, rfl, hU, h3⟩ := hrel
    have HK : Hid (gk + j = 201) := hk1
    clear hk1
    by_cases g1 : (j : Int) ≤ 200
    · obtain ⟨⟨pl, p0, p1, p2, pf0, pf1, pf2⟩, _⟩ := id h3
      go_wp2_with fail
      refine (rsend_calls 0 o k j _).mono ?_
      rintro e wN ⟨rfl, hb⟩
      have h3 := h3.below hb
      clear hb
      rcases sendF_at h j (by omega) g1 with ⟨c1, c2⟩ | ⟨c1, c2⟩
      · rw [c1]
        go_wp2_with fail
        go_roundg (gk - 1)
        case measure => have := HK.out; omega
        case rel => exact ⟨j + 1, j, by have := HK.out; omega, rfl, by go_num, upTo_yes hU.out c2, h3⟩
      · generalize sendF 0 o k j = sj at c1 ⊢
        go_wp2_with fail
        go_roundg (gk - 1)
        case measure => have := HK.out; omega
        case rel => exact ⟨j + 1, z, by have := HK.out; omega, rfl, by go_num, upTo_no hU.out hr0.out c2, h3⟩
    · have e201 : j = 201 := by have := HK.out; omega
      subst e201
      have ez := upTo_end hU.out
      subst ez
      clear hU
      have hcc := h3
      obtain ⟨⟨pl, p0, p1, p2, pf0, pf1, pf2⟩, ⟨ql, q0, q1, q2, qf0, qf1, qf2⟩, ⟨xl, x0, x1, x2, xf0, xf1, xf2⟩, _⟩ := hcc
      go_wp2_with fail
      clear pl p0 p1 p2 pf0 pf1 pf2 ql q0 q1 q2 qf0 qf1 qf2 xl x0 x1 x2 xf0 xf1 xf2
      refine (room_ok 0 o k _ h).mono ?_
      rintro e wN ⟨rfl, hb⟩
      have h3 := h3.below hb
      clear hb
      generalize rm 0 o k = r
      go_wp2_with fail
      refine (same_nil 0 _).mono ?_
      rintro e wN ⟨rfl, hb⟩
      have h3 := h3.below hb
      clear hb
      have h4 := h3.setQ 0 0 false
      have hcc := h3
      obtain ⟨⟨pl, p0, p1, p2, pf0, pf1, pf2⟩, ⟨ql, q0, q1, q2, qf0, qf1, qf2⟩, ⟨xl, x0, x1, x2, xf0, xf1, xf2⟩, _⟩ := hcc
      have hcc := h4
      obtain ⟨⟨pl', p0', p1', p2', pf0', pf1', pf2'⟩, ⟨ql', q0', q1', q2', qf0', qf1', qf2'⟩, ⟨xl', x0', x1', x2', xf0', xf1', xf2'⟩, _⟩ := hcc
      go_wp2_with fail
      clear pl p0 p1 p2 pf0 pf1 pf2 ql q0 q1 q2 qf0 qf1 qf2 xl x0 x1 x2 xf0 xf1 xf2
      clear pl' p0' p1' p2' pf0' pf1' pf2' ql' q0' q1' q2' qf0' qf1' qf2' xl' x0' x1' x2' xf0' xf1' xf2'
      clear h3
      have h3 := h4
      clear h4
      refine (prove_0 o k _ h).mono ?_
      rintro e wN ⟨rfl, hb⟩
      have h3 := h3.below hb
      clear hb
      have h4 := h3.setX 0 0 false
      have hcc := h3
      obtain ⟨⟨pl, p0, p1, p2, pf0, pf1, pf2⟩, ⟨ql, q0, q1, q2, qf0, qf1, qf2⟩, ⟨xl, x0, x1, x2, xf0, xf1, xf2⟩, _⟩ := hcc
      go_wp2_with fail
      clear pl p0 p1 p2 pf0 pf1 pf2 ql q0 q1 q2 qf0 qf1 qf2 xl x0 x1 x2 xf0 xf1 xf2
      clear h3
      have h3 := h4
      clear h4
      refine (same_err 5 5 _ (hH.below h3.bel)).mono ?_
      rintro e wN ⟨rfl, hb⟩
      have h3 := h3.below hb
      clear hb
      have hcc := h3
      obtain ⟨⟨pl, p0, p1, p2, pf0, pf1, pf2⟩, ⟨ql, q0, q1, q2, qf0, qf1, qf2⟩, ⟨xl, x0, x1, x2, xf0, xf1, xf2⟩, _⟩ := hcc
      go_wp2
      go_ret
      exact ⟨by simp, h3.bel⟩
end Go.Proofs.YtjjfeffmmkoooaaDoor
