/- The walk of the law ProofPlays. -/
import Derived.Test.YtkfhfljoalbkkaaDoorQ
import Derived.Deep.CutBlock
namespace Go.Proofs.YtkfhfljoalbkkaaDoor
open Go.RowKit Go.Lib Go.Sort
set_option linter.unusedVariables false
set_option linter.unusedSimpArgs false

set_option maxRecDepth 100000 in
set_option maxHeartbeats 8000000 in
theorem plays_yes (ao : Option Addr) (len sc : Nat) (w : World) (hH : Handle w) (hS : len = 0 ∨ ∃ b off, ao = some ⟨b, off, none⟩ ∧ Steps w b off len) : Calls Tryd.prog 5 #[.slice ao len sc] w fun e w' => e = .returned (.bool true) ∧ Below w.heap.size w w' := by
  have HS : Hid (len = 0 ∨ ∃ b off, ao = some ⟨b, off, none⟩ ∧ Steps w b off len) := hS
  clear hS
  go_enter Tryd.func5, Tryd.ntmps5
  go_wp2_with fail
  refine (new_calls _).mono ?_
  rintro e w1 ⟨sb, bm, rfl, hO1, hb1⟩
  have b3 : Below w1.heap.size w1 (w1.alloc (.cells #[.slice none 0 0] 37)) := (Below.refl _ _).alloc (Nat.le_refl _) _
  have hE0 : Two w (w1.alloc (.cells #[.slice none 0 0] 37)) sb bm w1.heap.size (.slice none 0 0) [] [] :=
    ⟨hO1.below b3, Ref.new w1 _ hb1.size, (fun k hk hr => by
      have h1 := hO1.lt hk
      rcases hr with e | e
      · omega
      · cases e), hb1.trans (b3.mono hb1.size)⟩
  go_wp2_with fail
  clear hO1 hb1 b3
  generalize w1.heap.size = mb at hE0 ⊢
  generalize w1.alloc (.cells #[.slice none 0 0] 37) = W0 at hE0 ⊢
  go_loopg [5] 120 (fun gk s5 wr => ∃ (k : Nat) (v : Value) (ls : List T), gk + k = 120 ∧ s5 = .int .i64 k ∧ Two w wr sb bm mb v ls ls)
  case atStart => exact ⟨0, _, [], rfl, rfl, hE0⟩
  case round =>
    clear hE0
    obtain ⟨k, v, ls, hk, rfl, hE⟩ := hrel
    have HK : Hid (gk + k = 120) := hk
    clear hk
    by_cases g1 : (k : Int) < (len : Int)
    · by_cases g2 : (k : Int) < 120
      · obtain ⟨b, off, rfl, hSt⟩ : ∃ b off, ao = some ⟨b, off, none⟩ ∧ Steps w b off len := by
          rcases HS.out with e | e
          · omega
          · exact e
        have hlen : len ≤ 9223372036854775807 := hSt.2.1
        obtain ⟨ar, cr, zs, hcell, hI⟩ := row_at' hSt (Below.refl _ _) (k := k) (by omega)
        have hzl : zs.length ≤ 9223372036854775807 := hI.1
        have HC : Hid (w.cell? ⟨b, off + k, none⟩ = some (.slice ar zs.length cr)) := hcell
        have hbw : b < w.heap.size := hSt.1
        have HI : Hid (Ints w ar zs) := hI
        have hP0 := Play.new hE
        clear hSt hcell hI hE
        go_wp2_with fail
        generalize wr.heap.size = V at hP0 ⊢
        generalize wr.alloc (.cells #[.int .i64 0, .int .i64 0, .int .i64 0, .int .i64 0, .int .i64 0] 38) = W1 at hP0 ⊢
        go_loopg [7] 5 (fun gj s7 wr2 => ∃ (j : Nat) (ys : Nat → Int), gj + j = 5 ∧ s7 = .int .i64 j ∧ Play w wr2 sb bm mb V v ls ls ys)
        case atStart => exact ⟨0, _, rfl, rfl, hP0⟩
        case round =>
          clear hP0
          obtain ⟨j, ys, hj, rfl, hP⟩ := hrel
          have HJ : Hid (gk + j = 5) := hj
          clear hj
          have rc := (hP.two.bel.cell (p := ⟨b, off + k, none⟩) hbw).trans HC.out
          by_cases q1 : (j : Int) < (zs.length : Int) ∧ (j : Int) < 5
          · obtain ⟨q1, q2⟩ := q1
            obtain ⟨rb, ro, rfl, hrb, hcj⟩ : ∃ rb ro, ar = some ⟨rb, ro, none⟩ ∧ rb < w.heap.size ∧ ∀ j, j < zs.length → w.cell? ⟨rb, ro + j, none⟩ = some (.int .i64 (iat zs j)) := by
              rcases HI.out.2.2 with e | e
              · rw [e] at q1; simp at q1; omega
              · exact e
            have xj := (hP.two.bel.cell (p := ⟨rb, ro + j, none⟩) hrb).trans (hcj j (by omega))
            generalize iat zs j = z at xj
            clear hcj
            have hP2 := hP.set (show j < 5 by omega) z
            have vc := hP.box.c j (by omega)
            have vf := hP.box.f j (by omega)
            go_wp2_with fail
            go_roundg (5 - (j + 1))
            case measure => have := HJ.out; omega
            case rel => exact ⟨j + 1, _, by have := HJ.out; omega, by go_num, hP2⟩
          · go_upto_region 8 with fail
            go_cut [36] (fun s36 wx => s36 = .bool false ∧ wx = wr)
            case first =>
              by_cases q2 : (j : Int) < (zs.length : Int)
              · have q3 : ¬ (j : Int) < 5 := fun e => q1 ⟨q2, e⟩
                clear q1
                go_wp2_with fail
                go_meet
                exact ⟨rfl, rfl⟩
              · clear q1
                go_wp2_with fail
                go_meet
                exact ⟨rfl, rfl⟩
            case rest =>
              obtain ⟨rfl, rfl⟩ := hcut
              clear q1 rc
              have v0 := hP.box.c 0 (by decide)
              have v1 := hP.box.c 1 (by decide)
              have v2 := hP.box.c 2 (by decide)
              have v3 := hP.box.c 3 (by decide)
              have v4 := hP.box.c 4 (by decide)
              have HF : Hid (Inv ls) := hP.two.obj.inv
              obtain ⟨y0, hy0⟩ : ∃ y, ys 0 = y := ⟨_, rfl⟩
              rw [hy0] at v0
              have HY0 : Hid (ys 0 = y0) := hy0
              clear hy0
              obtain ⟨y1, hy1⟩ : ∃ y, ys 1 = y := ⟨_, rfl⟩
              rw [hy1] at v1
              have HY1 : Hid (ys 1 = y1) := hy1
              clear hy1
              obtain ⟨y2, hy2⟩ : ∃ y, ys 2 = y := ⟨_, rfl⟩
              rw [hy2] at v2
              have HY2 : Hid (ys 2 = y2) := hy2
              clear hy2
              obtain ⟨y3, hy3⟩ : ∃ y, ys 3 = y := ⟨_, rfl⟩
              rw [hy3] at v3
              have HY3 : Hid (ys 3 = y3) := hy3
              clear hy3
              obtain ⟨y4, hy4⟩ : ∃ y, ys 4 = y := ⟨_, rfl⟩
              rw [hy4] at v4
              have HY4 : Hid (ys 4 = y4) := hy4
              clear hy4
              go_upto_if 50 with fail
              go_cut [8] (fun s8 wx => s8 = .bool true ∧ ∃ (v : Value) (ls : List T), Two w wx sb bm mb v ls ls)
              case first =>
                by_cases s0 : y0 = 0
                · subst s0
                  go_wp2_with fail
                  refine (rans_play hP HF.out y1 y2 y3 y4).mono ?_
                  rintro e w11 ⟨rfl, va, hP11⟩
                  clear v0 v1 v2 v3 v4
                  have u1 := (hP11.box.c 1 (by decide)).trans (by rw [HY1.out])
                  have u2 := (hP11.box.c 2 (by decide)).trans (by rw [HY2.out])
                  have u3 := (hP11.box.c 3 (by decide)).trans (by rw [HY3.out])
                  have u4 := (hP11.box.c 4 (by decide)).trans (by rw [HY4.out])
                  go_wp2_with fail
                  refine (ans_play hP11 y1 y2 y3 y4).mono ?_
                  rintro e w12 ⟨rfl, hP12⟩
                  clear u1 u2 u3 u4
                  go_wp2_with fail
                  refine (same_errV _ _ (hH.below hP12.two.bel)).mono ?_
                  rintro e w13 ⟨rfl, hb13⟩
                  have hP13 := hP12.below hb13
                  clear hP11 hP12 hb13 hP
                  generalize ansB ls y1 y2 y3 y4 = bo at *
                  go_wp2_with fail
                  go_meet
                  exact ⟨by simp, va, _, hP13.two⟩
                · have hPd := hP.drew
                  go_wp2_with fail
                  go_region_held3 (fun w' => w'.cell? ⟨V, 1, none⟩ = some (.int .i64 y1) ∧ w'.cell? ⟨V, 2, none⟩ = some (.int .i64 y2) ∧ w'.cell? ⟨V, 3, none⟩ = some (.int .i64 y3)) (go_keep) (first | (go_at_call 7; refine (ask_play hPd y1 y2 y3).mono ?_; rintro e w11 ⟨rfl, hP11⟩; have u1 := (hP11.box.c 1 (by decide)).trans (by rw [HY1.out]); have u2 := (hP11.box.c 2 (by decide)).trans (by rw [HY2.out]); have u3 := (hP11.box.c 3 (by decide)).trans (by rw [HY3.out])) | (go_at_call 12; refine (rask_play hP11 HF.out.few y1 y2 y3).mono ?_; rintro e w12 ⟨rfl, va, hP12⟩; have r1 := (hP12.box.c 1 (by decide)).trans (by rw [HY1.out]); have r2 := (hP12.box.c 2 (by decide)).trans (by rw [HY2.out]); have r3 := (hP12.box.c 3 (by decide)).trans (by rw [HY3.out])) | (go_at_call 10; refine (same_errV _ _ (hH.below hP12.two.bel)).mono ?_; rintro e w13 ⟨rfl, hb13⟩; have hP13 := hP12.below hb13; have q1 := (hP13.box.c 1 (by decide)).trans (by rw [HY1.out]); have q2 := (hP13.box.c 2 (by decide)).trans (by rw [HY2.out]); have q3 := (hP13.box.c 3 (by decide)).trans (by rw [HY3.out])))
                  all_goals (try go_wp2_with fail)
                  all_goals go_meet
                  all_goals exact ⟨rfl, va, _, hP13.two⟩
              case rest =>
                clear hP v0 v1 v2 v3 v4
                obtain ⟨rfl, v2, ls2, hE⟩ := hcut
                have c0 := hE.ref.c0
                obtain ⟨a2, cap2, rfl⟩ := hE.ref.shape
                have hop := fun nq => open_calls (hE.obj.below (below_drewN (Below.refl wc.heap.size wc) nq))
                have hE2 := fun nq => hE.below (below_drewN (Below.refl wc.heap.size wc) nq)
                have hlm : ls2.length ≤ 8 := hE.obj.inv.few
                clear hE
                go_wp2_with fail
                go_quiet (first | (go_at_call 9; refine Calls.quiet_of_same (hop _)))
                go_wp2_with fail
                go_roundg (120 - (k + 1))
                case measure => have := HK.out; omega
                case rel => exact ⟨k + 1, _, ls2, by have := HK.out; omega, by go_num, hE2 _⟩
      · go_wp2_with fail
        go_ret
        exact ⟨rfl, hE.bel⟩
    · go_wp2_with fail
      go_ret
      exact ⟨rfl, hE.bel⟩
theorem plays_walk {v : Value} {w : World} (hv : StepsArg w v) (hH : Handle w) : Calls Tryd.prog 5 #[v] w fun e w' => e = .returned (.bool true) ∧ Below w.heap.size w w' := by
  obtain ⟨ao, len, c, rfl, hS⟩ := hv
  exact plays_yes ao len c w hH hS
end Go.Proofs.YtkfhfljoalbkkaaDoor
