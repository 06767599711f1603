/- The walk of the law CreditPlays. -/
import Derived.Test.YtojhcmnmjdolpaaDoorQ
import Derived.Deep.CutBlock
namespace Go.Proofs.YtojhcmnmjdolpaaDoor
open Go.RowKit Go.Lib Go.Sort
set_option linter.unusedVariables false
set_option linter.unusedSimpArgs false

set_option maxRecDepth 100000 in
set_option maxHeartbeats 8000000 in
theorem plays_lo (n : Int) (v : Value) (w : World) (hH : Handle w) (c : n < 1) (hb : winB n = false) : Calls Tryd.prog 4 #[.int .i64 n, v] w fun e w' => e = .returned (.bool true) ∧ Below w.heap.size w w' := by
  go_enter Tryd.func4, Tryd.ntmps4
  go_wp2_with fail
  refine (new_no n _ hb).mono ?_
  rintro e w1 ⟨rfl, rfl⟩
  go_wp2_with fail
  refine (same_err 1 1 _ hH).mono ?_
  rintro e w2 ⟨rfl, hb2⟩
  go_wp2_with fail
  go_ret
  exact ⟨by simp, hb2⟩

set_option maxRecDepth 100000 in
set_option maxHeartbeats 8000000 in
theorem plays_hi (n : Int) (v : Value) (w : World) (hH : Handle w) (c : 1000 < n) (hb : winB n = false) : Calls Tryd.prog 4 #[.int .i64 n, v] w fun e w' => e = .returned (.bool true) ∧ Below w.heap.size w w' := by
  go_enter Tryd.func4, Tryd.ntmps4
  go_wp2_with fail
  refine (new_no n _ hb).mono ?_
  rintro e w1 ⟨rfl, rfl⟩
  go_wp2_with fail
  refine (same_err 1 1 _ hH).mono ?_
  rintro e w2 ⟨rfl, hb2⟩
  go_wp2_with fail
  go_ret
  exact ⟨by simp, hb2⟩

set_option maxRecDepth 100000 in
set_option maxHeartbeats 8000000 in
theorem plays_yes (n : Int) (ao : Option Addr) (len sc : Nat) (w : World) (hH : Handle w) (hb : winB n = true) (hS : len = 0 ∨ ∃ b off, ao = some ⟨b, off, none⟩ ∧ Steps w b off len) : Calls Tryd.prog 4 #[.int .i64 n, .slice ao len sc] w fun e w' => e = .returned (.bool true) ∧ Below w.heap.size w w' := by
  have HS : Hid (len = 0 ∨ ∃ b off, ao = some ⟨b, off, none⟩ ∧ Steps w b off len) := hS
  clear hS
  obtain ⟨n1, n2⟩ : 1 ≤ n ∧ n ≤ 1000 := of_decide_eq_true hb
  go_enter Tryd.func4, Tryd.ntmps4
  go_wp2_with fail
  refine (new_one (Below.refl w.heap.size w) hb).mono ?_
  rintro e w0 ⟨sb, rfl, hO0⟩
  go_wp2_with fail
  refine (same_nil 0 _).mono ?_
  rintro e w1 ⟨rfl, hb1⟩
  have hO1 := hO0.below hb1
  clear hO0 hb1
  have hE0 := Two.start hb hO1
  go_wp2_with fail
  clear hO1
  generalize w1.heap.size = mb at hE0 ⊢
  generalize w1.alloc (.cells #[.int .i64 n, .int .i64 n, .int .i64 0, .int .i64 0] 36) = W0 at hE0 ⊢
  clear n1 n2
  go_loopg [10] 120 (fun gk s10 wr => ∃ (k : Nat) (s : St), gk + k = 120 ∧ s10 = .int .i64 k ∧ Two w wr sb mb s s)
  case atStart => exact ⟨0, _, rfl, rfl, hE0⟩
  case round =>
    clear hE0
    obtain ⟨k, s, hk, rfl, hE⟩ := hrel
    have HK : Hid (gk + k = 120) := hk
    clear hk
    by_cases g1 : (k : Int) < (len : Int)
    · by_cases g2 : (k : Int) < 120
      · obtain ⟨b, off, rfl, hSt⟩ : ∃ b off, ao = some ⟨b, off, none⟩ ∧ Steps w b off len := by
          rcases HS.out with e | e
          · omega
          · exact e
        have hlen : len ≤ 9223372036854775807 := hSt.2.1
        obtain ⟨ar, cr, zs, hcell, hI⟩ := row_at' hSt (Below.refl _ _) (k := k) (by omega)
        have hzl : zs.length ≤ 9223372036854775807 := hI.1
        have HC : Hid (w.cell? ⟨b, off + k, none⟩ = some (.slice ar zs.length cr)) := hcell
        have hbw : b < w.heap.size := hSt.1
        have HI : Hid (Ints w ar zs) := hI
        have hP0 := Play.new hE
        clear hSt hcell hI hE
        go_wp2_with fail
        generalize wr.heap.size = V at hP0 ⊢
        generalize wr.alloc (.cells #[.int .i64 0, .int .i64 0] 37) = W1 at hP0 ⊢
        go_loopg [12] 2 (fun gj s12 wr2 => ∃ (j : Nat) (ys : Nat → Int), gj + j = 2 ∧ s12 = .int .i64 j ∧ Play w wr2 sb mb V s s ys)
        case atStart => exact ⟨0, _, rfl, rfl, hP0⟩
        case round =>
          clear hP0
          obtain ⟨j, ys, hj, rfl, hP⟩ := hrel
          have HJ : Hid (gk + j = 2) := hj
          clear hj
          have rc := (hP.two.bel.cell (p := ⟨b, off + k, none⟩) hbw).trans HC.out
          by_cases q1 : (j : Int) < (zs.length : Int) ∧ (j : Int) < 2
          · obtain ⟨q1, q2⟩ := q1
            obtain ⟨rb, ro, rfl, hrb, hcj⟩ : ∃ rb ro, ar = some ⟨rb, ro, none⟩ ∧ rb < w.heap.size ∧ ∀ j, j < zs.length → w.cell? ⟨rb, ro + j, none⟩ = some (.int .i64 (iat zs j)) := by
              rcases HI.out.2.2 with e | e
              · rw [e] at q1; simp at q1; omega
              · exact e
            have xj := (hP.two.bel.cell (p := ⟨rb, ro + j, none⟩) hrb).trans (hcj j (by omega))
            generalize iat zs j = z at xj
            clear hcj
            have hP2 := hP.set (show j < 2 by omega) z
            have vc := hP.box.c j (by omega)
            have vf := hP.box.f j (by omega)
            go_wp2_with fail
            go_roundg (2 - (j + 1))
            case measure => have := HJ.out; omega
            case rel => exact ⟨j + 1, _, by have := HJ.out; omega, by go_num, hP2⟩
          · go_upto_region 14 with fail
            go_cut [60] (fun s60 wx => s60 = .bool false ∧ wx = wr)
            case first =>
              by_cases q2 : (j : Int) < (zs.length : Int)
              · have q3 : ¬ (j : Int) < 2 := fun e => q1 ⟨q2, e⟩
                clear q1
                go_wp2_with fail
                go_meet
                exact ⟨rfl, rfl⟩
              · clear q1
                go_wp2_with fail
                go_meet
                exact ⟨rfl, rfl⟩
            case rest =>
              obtain ⟨rfl, rfl⟩ := hcut
              clear q1 rc
              have v0 := hP.box.c 0 (by decide)
              have v1 := hP.box.c 1 (by decide)
              obtain ⟨y0, hy0⟩ : ∃ y, ys 0 = y := ⟨_, rfl⟩
              obtain ⟨y1, hy1⟩ : ∃ y, ys 1 = y := ⟨_, rfl⟩
              rw [hy0] at v0
              rw [hy1] at v1
              have HY1 : Hid (ys 1 = y1) := hy1
              clear hy0 hy1
              go_upto_if 74 with fail
              go_cut [8] (fun s8 wx => s8 = .bool true ∧ ∃ s : St, Two w wx sb mb s s)
              case first =>
                by_cases s0 : y0 = 0
                · subst s0
                  have hPd := hP.drew
                  go_wp2_with fail
                  go_region_held3 (fun w' => w'.cell? ⟨V, 1, none⟩ = some (.int .i64 y1)) (go_keep) (first | (go_at_call 6; refine (take_play hPd y1).mono ?_; rintro e w11 ⟨rfl, hP11⟩; have u1 := (hP11.box.c 1 (by decide)).trans (by rw [HY1.out])) | (go_at_call 11; refine (rtake_play hP11 y1).mono ?_; rintro e w12 ⟨rfl, hP12⟩; have r1 := (hP12.box.c 1 (by decide)).trans (by rw [HY1.out])) | (go_at_call 8; refine (same_errV _ _ (hH.below hP12.two.bel)).mono ?_; rintro e w13 ⟨rfl, hb13⟩; have hP13 := hP12.below hb13; have q1 := (hP13.box.c 1 (by decide)).trans (by rw [HY1.out])))
                  all_goals (try go_wp2_with fail)
                  all_goals go_meet
                  all_goals exact ⟨rfl, _, hP13.two⟩
                · go_wp2_with fail
                  have hcg := rget_play hP y1
                  refine hcg.mono ?_
                  rintro e w11 ⟨rfl, hP11⟩
                  clear hcg v0 v1 hP
                  have u1 := (hP11.box.c 1 (by decide)).trans (by rw [HY1.out])
                  have hcr := read_play hP11 y1
                  go_wp2_with fail
                  refine hcr.mono ?_
                  rintro e w12 ⟨rfl, hP12⟩
                  clear hcr u1 hP11
                  go_wp2_with fail
                  refine (same_errV _ _ (hH.below hP12.two.bel)).mono ?_
                  rintro e w13 ⟨rfl, hb13⟩
                  have hP13 := hP12.below hb13
                  clear hP12 hb13
                  by_cases hf : getF s y1 = 0
                  · have l1 := hP13.two.ref.four.c1
                    have en : getN s y1 = (getS s y1).lim := by rw [getN_yes hf, getS_yes hf]
                    rw [hf, en]
                    clear hf en
                    generalize getS s y1 = s' at hP13 l1 ⊢
                    generalize s'.lim = l at l1 ⊢
                    go_wp2_with fail
                    go_meet
                    exact ⟨by simp, _, hP13.two⟩
                  · have en : getN s y1 = 0 := getN_no hf
                    rw [en]
                    clear en
                    generalize getF s y1 = f at hf ⊢
                    go_wp2_with fail
                    go_meet
                    exact ⟨by simp <;> omega, _, hP13.two⟩
              case rest =>
                clear hP v0 v1
                obtain ⟨rfl, s2, hE⟩ := hcut
                have c1 := hE.ref.four.c1
                have c2 := hE.ref.four.c2
                have c3 := hE.ref.four.c3
                obtain ⟨i1, i2, i3, i4, i5, i6, i7, _⟩ := hE.obj.inv
                have hlq := fun nq => limit_calls (hE.obj.below (below_drewN (Below.refl wc.heap.size wc) nq))
                have hfq := fun nq => left_quiet (hE.obj.below (below_drewN (Below.refl wc.heap.size wc) nq))
                have hE2 := fun nq => hE.drewN nq
                clear hE
                have HE2 : Hid (∀ nq, Two w (wc.drewN nq) sb mb s2 s2) := hE2
                clear hE2
                generalize s2.lim = l at c1 i3 i4 i6 i7 hlq
                generalize s2.came = ca at c2 i5 i6 hfq
                generalize s2.read = re at c3 i5 i7 hfq
                generalize s2.win = wi at i1 i2 i3 i7
                go_wp2_with fail
                go_quiet (first | (go_at_call 9; refine Calls.quiet_of_same (hlq _)) | (go_at_call 10; refine Calls.quiet_of (hfq _)))
                go_wp2_with fail
                go_roundg (120 - (k + 1))
                case measure => have := HK.out; omega
                case rel => exact ⟨k + 1, s2, by have := HK.out; omega, by go_num, HE2.out _⟩
      · go_wp2_with fail
        go_ret
        exact ⟨rfl, hE.bel⟩
    · go_wp2_with fail
      go_ret
      exact ⟨rfl, hE.bel⟩
theorem plays_walk (n : Int) {v : Value} {w : World} (hv : StepsArg w v) (hH : Handle w) : Calls Tryd.prog 4 #[.int .i64 n, v] w fun e w' => e = .returned (.bool true) ∧ Below w.heap.size w w' := by
  cases hb : winB n with
  | true =>
    obtain ⟨ao, len, c, rfl, hS⟩ := hv
    exact plays_yes n ao len c w hH hb hS
  | false =>
    by_cases h : n < 1
    · exact plays_lo n v w hH h hb
    · exact plays_hi n v w hH (by have := of_decide_eq_false hb; omega) hb
end Go.Proofs.YtojhcmnmjdolpaaDoor
