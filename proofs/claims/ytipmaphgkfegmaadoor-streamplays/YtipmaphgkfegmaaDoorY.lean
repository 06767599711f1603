/- The walk of the law StreamPlays. -/
import Derived.Test.YtipmaphgkfegmaaDoorQ
import Derived.Deep.CutBlock
namespace Go.Proofs.YtipmaphgkfegmaaDoor
open Go.RowKit Go.Lib Go.Sort
set_option linter.unusedVariables false
set_option linter.unusedSimpArgs false

set_option maxRecDepth 100000 in
set_option maxHeartbeats 8000000 in
theorem plays_yes (ao : Option Addr) (len sc : Nat) (ta : Option Addr) (tl tc : Nat) (w : World) (hH : Handle w) (hS : len = 0 ∨ ∃ b off, ao = some ⟨b, off, none⟩ ∧ Steps w b off len) (htl : tl ≤ 9223372036854775807) (hT : tl = 0 ∨ ∃ b off, ta = some ⟨b, off, none⟩ ∧ Texts w b off tl) : Calls Tryd.prog 4 #[.slice ao len sc, .slice ta tl tc] w fun e w' => e = .returned (.bool true) ∧ Below w.heap.size w w' := by
  have HS : Hid (len = 0 ∨ ∃ b off, ao = some ⟨b, off, none⟩ ∧ Steps w b off len) := hS
  have HTX : Hid (tl = 0 ∨ ∃ b off, ta = some ⟨b, off, none⟩ ∧ Texts w b off tl) := hT
  clear hS hT
  go_enter Tryd.func4, Tryd.ntmps4
  go_wp2_with fail
  refine (new_calls w).mono ?_
  rintro e w0 ⟨rfl, hO0, hb0⟩
  obtain ⟨sb, hsb⟩ : ∃ sb, w.heap.size = sb := ⟨_, rfl⟩
  have hO1 : Obj w0 w.heap.size sb newS := by rw [← hsb]; exact hO0
  have c1 := rnew_two hO1 hb0
  rw [hsb]
  clear hO0 hsb
  go_wp2_with fail
  refine c1.mono ?_
  rintro e w1 ⟨mb, rfl, hE0⟩
  clear c1 hO1 hb0
  go_wp2_with fail
  go_loopg [7] 100 (fun gk s7 wr => ∃ (k : Nat) (s : St), gk + k = 100 ∧ s7 = .int .i64 k ∧ Two w wr sb mb s s)
  case atStart => exact ⟨0, _, rfl, rfl, hE0⟩
  case round =>
    clear hE0
    obtain ⟨k, s, hk, rfl, hE⟩ := hrel
    have HK : Hid (gk + k = 100) := hk
    clear hk
    by_cases g1 : (k : Int) < (len : Int)
    · by_cases g2 : (k : Int) < 100
      · obtain ⟨b, off, rfl, hSt⟩ : ∃ b off, ao = some ⟨b, off, none⟩ ∧ Steps w b off len := by
          rcases HS.out with e | e
          · omega
          · exact e
        have hlen : len ≤ 9223372036854775807 := hSt.2.1
        obtain ⟨ar, cr, zs, hcell, hI⟩ := row_at' hSt (Below.refl _ _) (k := k) (by omega)
        have hzl : zs.length ≤ 9223372036854775807 := hI.1
        have HC : Hid (w.cell? ⟨b, off + k, none⟩ = some (.slice ar zs.length cr)) := hcell
        have hbw : b < w.heap.size := hSt.1
        have HI : Hid (Ints w ar zs) := hI
        have hP0 := Play.new hE
        clear hSt hcell hI hE
        go_wp2_with fail
        generalize wr.heap.size = V at hP0 ⊢
        generalize wr.alloc (.cells #[.int .i64 0, .int .i64 0] 41) = W1 at hP0 ⊢
        go_loopg [9] 2 (fun gj s9 wr2 => ∃ (j : Nat) (ys : Nat → Int), gj + j = 2 ∧ s9 = .int .i64 j ∧ Play w wr2 sb mb V s s ys)
        case atStart => exact ⟨0, _, rfl, rfl, hP0⟩
        case round =>
          clear hP0
          obtain ⟨j, ys, hj, rfl, hP⟩ := hrel
          have HJ : Hid (gk + j = 2) := hj
          clear hj
          have rc := (hP.two.bel.cell (p := ⟨b, off + k, none⟩) hbw).trans HC.out
          by_cases q1 : (j : Int) < (zs.length : Int) ∧ (j : Int) < 2
          · obtain ⟨q1, q2⟩ := q1
            obtain ⟨rb, ro, rfl, hrb, hcj⟩ : ∃ rb ro, ar = some ⟨rb, ro, none⟩ ∧ rb < w.heap.size ∧ ∀ j, j < zs.length → w.cell? ⟨rb, ro + j, none⟩ = some (.int .i64 (iat zs j)) := by
              rcases HI.out.2.2 with e | e
              · rw [e] at q1; simp at q1; omega
              · exact e
            have xj := (hP.two.bel.cell (p := ⟨rb, ro + j, none⟩) hrb).trans (hcj j (by omega))
            generalize iat zs j = z at xj
            clear hcj
            have hP2 := hP.set (show j < 2 by omega) z
            have vc := hP.box.c j (by omega)
            have vf := hP.box.f j (by omega)
            go_wp2_with fail
            go_roundg (2 - (j + 1))
            case measure => have := HJ.out; omega
            case rel => exact ⟨j + 1, _, by have := HJ.out; omega, by go_num, hP2⟩
          · go_upto_region 8 with fail
            go_cut [38] (fun s38 wx => s38 = .bool false ∧ wx = wr)
            case first =>
              by_cases q2 : (j : Int) < (zs.length : Int)
              · have q3 : ¬ (j : Int) < 2 := fun e => q1 ⟨q2, e⟩
                clear q1
                go_wp2_with fail
                go_meet
                exact ⟨rfl, rfl⟩
              · clear q1
                go_wp2_with fail
                go_meet
                exact ⟨rfl, rfl⟩
            case rest =>
              obtain ⟨rfl, rfl⟩ := hcut
              clear q1 rc
              have v0 := hP.box.c 0 (by decide)
              have v1 := hP.box.c 1 (by decide)
              obtain ⟨y0, hy0⟩ : ∃ y, ys 0 = y := ⟨_, rfl⟩
              obtain ⟨y1, hy1⟩ : ∃ y, ys 1 = y := ⟨_, rfl⟩
              rw [hy0] at v0
              rw [hy1] at v1
              have HY1 : Hid (ys 1 = y1) := hy1
              clear hy0 hy1
              go_upto_if 52 with fail
              go_cut [10] (fun s10 wx => s10 = .bool true ∧ ∃ s : St, Two w wx sb mb s s)
              case first =>
                by_cases s0 : y0 = 0
                · subst s0
                  by_cases n0 : y1 < 0
                  · have c1 := take_no_play hP y1 n0
                    go_wp2_with fail
                    refine c1.mono ?_
                    rintro e w11 ⟨rfl, hP11⟩
                    clear c1 v0 v1 hP
                    go_wp2_with fail
                    refine (same_err 1 1 _ (hH.below hP11.two.bel)).mono ?_
                    rintro e w12 ⟨rfl, hb12⟩
                    have hP12 := hP11.below hb12
                    clear hP11 hb12
                    go_wp2_with fail
                    go_meet
                    exact ⟨by simp, _, hP12.two⟩
                  · have c1 := rtake_play hP y1 (by omega)
                    go_wp2_with fail
                    refine c1.mono ?_
                    rintro e w11 ⟨rfl, hP11⟩
                    clear c1 v0 v1 hP
                    have u1 := (hP11.box.c 1 (by decide)).trans (by rw [HY1.out])
                    have c1 := take_play hP11 y1 (by omega)
                    generalize strOfNums (takeL s y1) = x1 at c1
                    go_wp2_with fail
                    refine c1.mono ?_
                    rintro e w12 ⟨rfl, hP12⟩
                    clear c1 u1 hP11
                    go_wp2_with fail
                    refine (same_nil 0 _).mono ?_
                    rintro e w13 ⟨rfl, hb13⟩
                    have hP13 := hP12.below hb13
                    clear hP12 hb13
                    go_wp2_with fail
                    go_meet
                    exact ⟨by simp, _, hP13.two⟩
                · go_upto_if 78 with fail
                  go_cut [15] (fun s15 wx => ∃ d : ByteArray, s15 = .string d ∧ Hid (d.size ≤ 140737488351232) ∧ wx = wc)
                  case first =>
                    by_cases t1 : (k : Int) < (tl : Int)
                    · obtain ⟨tb, toff, rfl, hTx⟩ : ∃ b off, ta = some ⟨b, off, none⟩ ∧ Texts w b off tl := by
                        rcases HTX.out with e | e
                        · omega
                        · exact e
                      obtain ⟨d, hd, hds⟩ := hTx.2 k (by omega)
                      have td := (hP.two.bel.cell (p := ⟨tb, toff + k, none⟩) hTx.1).trans hd
                      have HDS : Hid (d.size ≤ 140737488351232) := hds
                      clear hd hTx hds hP v0 v1
                      go_wp2_with fail
                      go_meet
                      exact ⟨d, rfl, HDS, rfl⟩
                    · clear hP v0 v1
                      go_wp2_with fail
                      go_meet
                      exact ⟨_, rfl, (show (ByteArray.mk #[]).size ≤ 140737488351232 by decide), rfl⟩
                  case rest =>
                    obtain ⟨d, rfl, HD, rfl⟩ := hcut
                    have hPd := hP.drew
                    go_wp2_with fail
                    go_region_held3 (fun w' => w'.cell? ⟨V, 1, none⟩ = some (.int .i64 y1)) (go_keep) (first | (go_at_call 6; refine (put_play hPd y1 d HD.out).mono ?_; rintro e w11 ⟨rfl, hP11⟩; have u1 := (hP11.box.c 1 (by decide)).trans (by rw [HY1.out])) | (go_at_call 13; refine (rput_play hP11 y1 d HD.out).mono ?_; rintro e w12 ⟨rfl, hP12⟩; have r1 := (hP12.box.c 1 (by decide)).trans (by rw [HY1.out])) | (go_at_call 8; refine (same_errV _ _ (hH.below hP12.two.bel)).mono ?_; rintro e w13 ⟨rfl, hb13⟩; have hP13 := hP12.below hb13; have q1 := (hP13.box.c 1 (by decide)).trans (by rw [HY1.out])))
                    all_goals (try go_wp2_with fail)
                    all_goals go_meet
                    all_goals exact ⟨rfl, _, hP13.two⟩
              case rest =>
                clear hP v0 v1
                obtain ⟨rfl, s2, hE⟩ := hcut
                have c1 := ready_two hE
                generalize hr : (rdy s2 : Int) = r at c1
                have HR : Hid ((rdy s2 : Int) = r) := hr
                clear hr
                go_wp2_with fail
                refine c1.mono ?_
                rintro e w21 ⟨rfl, hE1⟩
                clear c1 hE
                have c1 := rready_two hE1
                rw [HR.out] at c1
                go_wp2_with fail
                refine c1.mono ?_
                rintro e w22 ⟨rfl, hE2⟩
                clear c1 hE1
                have c1 := gaps_two hE2
                go_wp2_with fail
                refine c1.mono ?_
                rintro e w23 ⟨va, rfl, hR1, hE3⟩
                clear c1 hE2
                have c1 := rgaps_two hE3 hR1
                go_wp2_with fail
                refine c1.mono ?_
                rintro e w24 ⟨vb, rfl, hR2, hR3, hE4⟩
                clear c1 hE3 hR1
                have c1 := same_two hE4 hR2 hR3
                go_wp2_with fail
                refine c1.mono ?_
                rintro e w25 ⟨rfl, hE5⟩
                clear c1 hE4 hR2 hR3
                go_wp2_with fail
                go_roundg (100 - (k + 1))
                case measure => have := HK.out; omega
                case rel => exact ⟨k + 1, s2, by have := HK.out; omega, by go_num, hE5⟩
      · go_wp2_with fail
        go_ret
        exact ⟨rfl, hE.bel⟩
    · go_wp2_with fail
      go_ret
      exact ⟨rfl, hE.bel⟩
theorem plays_walk {v u : Value} {w : World} (hv : StepsArg w v) (hu : TextsArg w u) (hH : Handle w) : Calls Tryd.prog 4 #[v, u] w fun e w' => e = .returned (.bool true) ∧ Below w.heap.size w w' := by
  obtain ⟨ao, len, c, rfl, hS⟩ := hv
  obtain ⟨ta, tl, tc, rfl, htl, hT⟩ := hu
  exact plays_yes ao len c ta tl tc w hH hS htl hT
end Go.Proofs.YtipmaphgkfegmaaDoor
