/- The walk of the law LinkPlays. -/
import Derived.Test.YtljilhhnejjifaaDoorQ
import Derived.Test.YtljilhhnejjifaaDoorP
import Derived.Deep.CutBlock
namespace Go.Proofs.YtljilhhnejjifaaDoor
open Go.RowKit Go.Lib Go.Sort
set_option linter.unusedVariables false
set_option linter.unusedSimpArgs false

theorem give_playx {w wr : World} {sb mb V : Nat} {s m : List LR} {ys : Nat → Int} (h : Play w wr sb mb V s m ys) (i q : Int) (n : ByteArray) (t : TypeId) : Calls Tryd.prog 10 #[.pointer (some ⟨sb, 0, none⟩), .int .i64 i] (wr.alloc (.cells #[.int .i64 q, .string n] t)) fun e w' => e = .returned (.tuple #[.int .i64 (giveV s i).1, .string (giveV s i).2, errV (giveF s i)]) ∧ Play w w' sb mb V (giveS s i) m ys ∧ LBox w' wr.heap.size q n := by
  obtain ⟨v, u, hT, hX, hV, hge⟩ := h
  have b : Below wr.heap.size wr (wr.alloc (.cells #[.int .i64 q, .string n] t)) := (Below.refl _ _).alloc (Nat.le_refl _) _
  exact (give_calls (hT.below b).obj i).mono fun e w' ⟨h1, h2⟩ => ⟨h1, Play.objTurn (hT.below b) (hX.below b) hV hge h2, by
    obtain ⟨_, _, ho, _⟩ := h2
    exact (LBox.new wr q n t).off ho (fun e => by have := hT.obj.lt e; omega)⟩

set_option maxRecDepth 100000 in
set_option maxHeartbeats 8000000 in
theorem plays_yes (ao : Option Addr) (len sc : Nat) (ta : Option Addr) (tl tc : Nat) (w : World) (hH : Handle w) (hS : len = 0 ∨ ∃ b off, ao = some ⟨b, off, none⟩ ∧ Steps w b off len) (htl : tl ≤ 9223372036854775807) (hT : tl = 0 ∨ ∃ b off, ta = some ⟨b, off, none⟩ ∧ Texts w b off tl) : Calls Tryd.prog 4 #[.slice ao len sc, .slice ta tl tc] w fun e w' => e = .returned (.bool true) ∧ Below w.heap.size w w' := by
  have HS : Hid (len = 0 ∨ ∃ b off, ao = some ⟨b, off, none⟩ ∧ Steps w b off len) := hS
  have HTX : Hid (tl = 0 ∨ ∃ b off, ta = some ⟨b, off, none⟩ ∧ Texts w b off tl) := hT
  have hz : ∀ W : World, (zeroValue 37).run Tryd.prog W = .ok (.agg #[.pointer none, .pointer none, .slice none 0 0]) W := fun W => by kernel_rfl
  clear hS hT
  go_enter Tryd.func4, Tryd.ntmps4
  go_wp2_with fail
  refine (new_one (Below.refl w.heap.size w)).mono ?_
  rintro e w0 ⟨sb, rfl, h0⟩
  have hE0 := Both.start h0
  go_wp2_with fail
  clear hz h0
  generalize w0.heap.size = mb at hE0 ⊢
  generalize w0.alloc (.cells #[.pointer none, .pointer none, .slice none 0 0] 37) = w1 at hE0 ⊢
  go_loopg [7] 150 (fun gk s7 wr => ∃ (k : Nat) (s : List LR), gk + k = 150 ∧ s7 = .int .i64 k ∧ Both w wr sb mb s s)
  case atStart => exact ⟨0, _, rfl, rfl, hE0⟩
  case round =>
    clear hE0
    obtain ⟨k, s, hk, rfl, hE⟩ := hrel
    have HK : Hid (gk + k = 150) := hk
    clear hk
    by_cases g1 : (k : Int) < (len : Int)
    · by_cases g2 : (k : Int) < 150
      · obtain ⟨b, off, rfl, hSt⟩ : ∃ b off, ao = some ⟨b, off, none⟩ ∧ Steps w b off len := by
          rcases HS.out with e | e
          · omega
          · exact e
        have hlen : len ≤ 9223372036854775807 := hSt.2.1
        obtain ⟨ar, cr, zs, hcell, hI⟩ := row_at' hSt (Below.refl _ _) (k := k) (by omega)
        have hzl : zs.length ≤ 9223372036854775807 := hI.1
        have HC : Hid (w.cell? ⟨b, off + k, none⟩ = some (.slice ar zs.length cr)) := hcell
        have hbw : b < w.heap.size := hSt.1
        have HI : Hid (Ints w ar zs) := hI
        have hP0 := Play.new hE
        clear hSt hcell hI hE
        go_wp2_with fail
        generalize wr.heap.size = V at hP0 ⊢
        generalize wr.alloc (.cells #[.int .i64 0, .int .i64 0] 38) = W1 at hP0 ⊢
        go_loopg [9] 2 (fun gj s9 wr2 => ∃ (j : Nat) (ys : Nat → Int), gj + j = 2 ∧ s9 = .int .i64 j ∧ Play w wr2 sb mb V s s ys)
        case atStart => exact ⟨0, _, rfl, rfl, hP0⟩
        case round =>
          clear hP0
          obtain ⟨j, ys, hj, rfl, hP⟩ := hrel
          have HJ : Hid (gk + j = 2) := hj
          clear hj
          have rc := (hP.bel.cell (p := ⟨b, off + k, none⟩) hbw).trans HC.out
          by_cases q1 : (j : Int) < (zs.length : Int) ∧ (j : Int) < 2
          · obtain ⟨q1, q2⟩ := q1
            obtain ⟨rb, ro, rfl, hrb, hcj⟩ : ∃ rb ro, ar = some ⟨rb, ro, none⟩ ∧ rb < w.heap.size ∧ ∀ j, j < zs.length → w.cell? ⟨rb, ro + j, none⟩ = some (.int .i64 (iat zs j)) := by
              rcases HI.out.2.2 with e | e
              · rw [e] at q1; simp at q1; omega
              · exact e
            have xj := (hP.bel.cell (p := ⟨rb, ro + j, none⟩) hrb).trans (hcj j (by omega))
            generalize iat zs j = z at xj
            clear hcj
            have hP2 := hP.set (show j < 2 by omega) z
            have vc := hP.box.c j (by omega)
            have vf := hP.box.f j (by omega)
            go_wp2_with fail
            go_roundg (2 - (j + 1))
            case measure => have := HJ.out; omega
            case rel => exact ⟨j + 1, _, by have := HJ.out; omega, by go_num, hP2⟩
          · go_upto_region 8 with fail
            go_cut [43] (fun s43 wx => s43 = .bool false ∧ wx = wr)
            case first =>
              by_cases q2 : (j : Int) < (zs.length : Int)
              · have q3 : ¬ (j : Int) < 2 := fun e => q1 ⟨q2, e⟩
                clear q1
                go_wp2_with fail
                go_meet
                exact ⟨rfl, rfl⟩
              · clear q1
                go_wp2_with fail
                go_meet
                exact ⟨rfl, rfl⟩
            case rest =>
              obtain ⟨rfl, rfl⟩ := hcut
              clear q1 rc
              go_upto_if 58 with fail
              go_cut [10] (fun s10 wx => ∃ d : ByteArray, s10 = .string d ∧ Hid (d.size ≤ 140737488351232) ∧ wx = wc)
              case first =>
                by_cases t1 : (k : Int) < (tl : Int)
                · obtain ⟨tb, toff, rfl, hTx⟩ : ∃ b off, ta = some ⟨b, off, none⟩ ∧ Texts w b off tl := by
                    rcases HTX.out with e | e
                    · omega
                    · exact e
                  obtain ⟨d, hd, hds⟩ := hTx.2 k (by omega)
                  have td := (hP.bel.cell (p := ⟨tb, toff + k, none⟩) hTx.1).trans hd
                  have HDS : Hid (d.size ≤ 140737488351232) := hds
                  clear hd hTx hds hP
                  go_wp2_with fail
                  go_meet
                  exact ⟨d, rfl, HDS, rfl⟩
                · clear hP
                  go_wp2_with fail
                  go_meet
                  exact ⟨_, rfl, (show (ByteArray.mk #[]).size ≤ 140737488351232 by decide), rfl⟩
              case rest =>
              obtain ⟨d, rfl, HD, rfl⟩ := hcut
              have v0 := hP.box.c 0 (by decide)
              have v1 := hP.box.c 1 (by decide)
              obtain ⟨y0, hy0⟩ : ∃ y, ys 0 = y := ⟨_, rfl⟩
              obtain ⟨y1, hy1⟩ : ∃ y, ys 1 = y := ⟨_, rfl⟩
              rw [hy0] at v0
              rw [hy1] at v1
              have HY1 : Hid (ys 1 = y1) := hy1
              clear hy0 hy1
              have hds : d.size ≤ 140737488351232 := HD.out
              go_upto_block 4 with fail
              go_cut [11] (fun s11 wx => s11 = .bool true ∧ ∃ s : List LR, Both w wx sb mb s s)
              case first =>
                by_cases s0 : y0 = 0
                · subst s0
                  have c1 := rout_play hP y1
                  have HV : Hid (giveV s y1 = ((giveV s y1).1, (giveV s y1).2)) := rfl
                  have c2 := fun W (h : Play w W sb mb V s (giveS s y1) ys) => give_playx h y1 (giveV s y1).1 (giveV s y1).2 41
                  generalize (giveV s y1).1 = z0 at c1 c2
                  generalize (giveV s y1).2 = z1 at c1 c2
                  go_upto_region 24 with fail
                  go_upto_region 25 with (go_at_call 9; refine c1.mono ?_; rintro e w11 ⟨rfl, hP11⟩)
                  clear c1 v0 v1
                  have c2 := c2 w11 hP11
                  have u1 := ((hP11.below ((Below.refl _ _).alloc (Nat.le_refl _) (.cells #[.int .i64 z0, .string z1] 41))).box.c 1 (by decide)).trans (by rw [HY1.out])
                  generalize w11.heap.size = X at c2 ⊢
                  generalize w11.alloc (.cells #[.int .i64 z0, .string z1] 41) = W1 at c2 u1 ⊢
                  generalize giveF s y1 = f at c2 ⊢
                  have c3 := errV_eq f
                  generalize errV f = er at c2 c3 ⊢
                  go_wp2_with fail
                  refine c2.mono ?_
                  rintro e w12 ⟨rfl, hP12, hX12⟩
                  clear c2 u1
                  have c3 := c3 w12 (hH.below hP12.bel)
                  go_wp2_with fail
                  refine c3.mono ?_
                  rintro e w13 ⟨rfl, hb13⟩
                  have hP13 := hP12.below hb13
                  obtain ⟨xl, x0, x1, xf0, xf1⟩ := hX12.below hb13
                  clear hP12 hX12 hb13 c3 hP11 hP
                  go_wp2_with fail
                  go_meet
                  exact ⟨by simp, _, hP13.both⟩
                by_cases s1 : y0 = 1
                · subst s1
                  have c1 := rout_play hP y1
                  have c2 := fun W (h : Play w W sb mb V s (giveS s y1) ys) => lose_play h y1
                  generalize (giveV s y1).1 = z0 at c1
                  generalize (giveV s y1).2 = z1 at c1
                  go_upto_region 28 with fail
                  go_upto_region 29 with (go_at_call 9; refine c1.mono ?_; rintro e w11 ⟨rfl, hP11⟩)
                  clear c1 v0 v1
                  have hP11 := hP11.below ((Below.refl _ _).alloc (Nat.le_refl _) (.cells #[.int .i64 z0, .string z1] 41))
                  have c2 := c2 _ hP11
                  have u1 := (hP11.box.c 1 (by decide)).trans (by rw [HY1.out])
                  generalize w11.heap.size = X at ⊢
                  generalize w11.alloc (.cells #[.int .i64 z0, .string z1] 41) = W1 at c2 u1 ⊢
                  generalize giveF s y1 = f at c2 ⊢
                  have c3 := errV_eq f
                  generalize errV f = er at c2 c3 ⊢
                  go_wp2_with fail
                  refine c2.mono ?_
                  rintro e w12 ⟨rfl, hP12⟩
                  clear c2 u1
                  have c3 := c3 w12 (hH.below hP12.bel)
                  go_wp2_with fail
                  refine c3.mono ?_
                  rintro e w13 ⟨rfl, hb13⟩
                  have hP13 := hP12.below hb13
                  clear hP12 hb13 c3 hP11 hP
                  go_wp2_with fail
                  go_meet
                  exact ⟨by simp, _, hP13.both⟩
                by_cases s2 : y0 = 2
                · subst s2
                  have hPd := hP.drew
                  have c1 := twice_play hPd y1
                  have c2 := fun W (h : Play w W sb mb V (twS s y1) s ys) => rtw_play h y1
                  generalize twF s y1 = f at c1 c2
                  have c3 := errV_eq f
                  generalize errV f = er at c1 c3
                  go_upto_region 31 with fail
                  go_region_held3 (fun w' => w'.cell? ⟨V, 1, none⟩ = some (.int .i64 y1)) (go_keep) (first | (go_at_call 12; refine c1.mono ?_; rintro e w11 ⟨rfl, hP11⟩; have u1 := (hP11.box.c 1 (by decide)).trans (by rw [HY1.out])) | (go_at_call 13; refine (c2 _ hP11).mono ?_; rintro e w12 ⟨rfl, hP12⟩; have r1 := (hP12.box.c 1 (by decide)).trans (by rw [HY1.out])) | (go_at_call 8; refine (c3 _ (hH.below hP12.bel)).mono ?_; rintro e w13 ⟨rfl, hb13⟩; have hP13 := hP12.below hb13; have q1 := (hP13.box.c 1 (by decide)).trans (by rw [HY1.out])))
                  all_goals (try go_wp2_with fail)
                  all_goals go_meet
                  all_goals exact ⟨rfl, _, hP13.both⟩
                · have k0 : (y0 == 0) = false := by simpa using s0
                  have k1 : (y0 == 1) = false := by simpa using s1
                  have k2 : (y0 == 2) = false := by simpa using s2
                  clear s0 s1 s2
                  go_upto_region 17 with fail
                  go_cut [72] (fun s72 wx => s72 = .bool (!endB y1) ∧ wx = wc)
                  case first =>
                    clear hP v0
                    by_cases e0 : y1 = 0
                    · have HE : Hid (endB y1 = true) := by show endB y1 = true; simp [endB, e0]
                      have b0 : (y1 != 0) = false := by simp [e0]
                      clear e0
                      go_wp2_with fail
                      go_meet
                      exact ⟨by rw [HE.out]; simp, rfl⟩
                    · have b0 : (y1 != 0) = true := by simp [e0]
                      by_cases e1 : y1 = 1
                      · have HE : Hid (endB y1 = true) := by show endB y1 = true; simp [endB, e1]
                        have b1 : (y1 != 1) = false := by simp [e1]
                        clear e0 e1
                        go_wp2_with fail
                        go_meet
                        exact ⟨by rw [HE.out]; simp, rfl⟩
                      · have HE : Hid (endB y1 = false) := by show endB y1 = false; simp [endB, e0, e1]
                        have b1 : (y1 != 1) = true := by simp [e1]
                        clear e0 e1
                        go_wp2_with fail
                        go_meet
                        exact ⟨by rw [HE.out]; simp, rfl⟩
                  case rest =>
                  obtain ⟨rfl, rfl⟩ := hcut
                  go_upto_if 72 with fail
                  go_cut [19, 72] (fun s19 _ wx => s19 = .int .i64 (sendF s y1 d) ∧ Play w wx sb mb V s (sendS s y1 d) ys)
                  case first =>
                    have hP0 := hP
                    cases he : endB y1 with
                    | true =>
                      have HE : Hid (endB y1 = true) := he
                      obtain ⟨v, u, hT, hXb, hVb, hge⟩ := hP0
                      obtain ⟨a, cc, rfl⟩ := hT.ref.shape
                      have m2 := hT.ref.c
                      have hlm : s.length ≤ 40 := hT.ref.inv.few
                      by_cases g4 : (40 : Int) ≤ (s.length : Int)
                      · have HF : Hid (sendF s y1 d = 4) := by
                          show sendF s y1 d = 4
                          unfold sendF
                          rw [if_pos HE.out, if_pos (by omega)]
                        clear HE
                        go_wp2_with fail
                        go_meet
                        exact ⟨by rw [HF.out], by rw [sendS_no (by rw [HF.out]; decide)]; exact hP⟩
                      · by_cases g5 : (200 : Int) < (d.size : Int)
                        · have HF : Hid (sendF s y1 d = 4) := by
                            show sendF s y1 d = 4
                            unfold sendF
                            rw [if_pos HE.out, if_pos (by omega)]
                          clear HE
                          go_wp2_with fail
                          go_meet
                          exact ⟨by rw [HF.out], by rw [sendS_no (by rw [HF.out]; decide)]; exact hP⟩
                        · have HF : Hid (sendF s y1 d = 0) := by
                            show sendF s y1 d = 0
                            unfold sendF
                            rw [if_pos HE.out, if_neg (by omega)]
                          have HS : Hid (sendS s y1 d = s ++ [(y1, d)]) := sendS_yes HF.out
                          have HI : Hid (Inv (s ++ [(y1, d)])) := by rw [← HS.out]; exact hT.ref.inv.send _ _
                          have LSL : Hid ((s ++ [(y1, d)]).length = s.length + 1) := by show (s ++ [(y1, d)]).length = s.length + 1; simp
                          have FL : Hid (flat (s ++ [(y1, d)]) = flat s ++ flat [(y1, d)]) := flat_append _ _
                          have HT : Hid (Two w wc sb mb v (.slice a s.length cc) s s) := hT
                          have H4 : Hid (s.length < 40) := by show s.length < 40; omega
                          have bd : Below wc.heap.size wc (wc.drew.alloc (.cells #[.int .i64 y1, .string d] 41)) := (Below.refl wc.heap.size wc).drew.alloc (Nat.le_refl _) _
                          have hL2 := hT.ref.below bd
                          have c2 := hL2.c
                          have hrow := hL2.row
                          have y2 := (bd.cell (p := ⟨V, 1, none⟩) hXb.lt).trans v1
                          have c2b : (wc.alloc (.cells #[.int .i64 y1, .string d] 41)).cell? ⟨mb, 2, none⟩ = some (.slice a s.length cc) := c2
                          have y2b : (wc.alloc (.cells #[.int .i64 y1, .string d] 41)).cell? ⟨V, 1, none⟩ = some (.int .i64 y1) := y2
                          obtain ⟨i0, hi0, hz0, hz1, hz2⟩ := info_parts infoD
                          clear hT HE hP
                          go_upto_region 21 with fail
                          go_region_law (refine step_append_own rfl (.tmp 88) (.tmp 93) 35 rfl w.heap.size 41 i0 _ 2 24 Tryd.underlying35 hi0 hz0 hz1 hz2 rfl (by decide) (.slice a s.length cc) s.length (flat s) (by simp [Act.eval, Act.put]) hrow ⟨wc.heap.size, 0, none⟩ 1 1 (flat [(y1, d)]) (by simp [Act.eval, Act.put]) rfl (cells_two_new wc.drew _ _ _) (fun u hu => flat_one u hu) (by have := H4.out; unfold maxLen; omega) (by have := H4.out; omega) hL2.le ?_; intro v' w3 ho3 hg3 hl3; obtain ⟨g3, cap3, rfl⟩ := own_shape ho3 (by omega); have og := Off.of_grown (K := fun k => (Value.slice a s.length cc).ownBlock = some k) hg3 (fun k e => e); have d2 := og.cell hL2.c (fun e => hL2.nv mb e rfl); have df := (og.frozen (p := ⟨mb, 2, none⟩) (hL2.lt (.inl rfl)) (fun e => hL2.nv mb e rfl)).trans hL2.f)
                          all_goals (try go_wp2_with fail)
                          all_goals go_meet
                          all_goals
                            have ow : Off (fun k => (Value.slice a s.length cc).ownBlock = some k) wc w3 := (Off.of_below bd).trans og
                            have hnew : ∀ k, (Value.slice (some ⟨g3, 0, none⟩) (s.length + 1) cap3).ownBlock = some k → (Value.slice a s.length cc).ownBlock = some k ∨ wc.heap.size ≤ k := fun k hk => by
                              rcases hl3 with e | e
                              · exact .inl (e.symm.trans hk)
                              · right
                                have e2 : k = (wc.drew.alloc (.cells #[.int .i64 y1, .string d] 41)).heap.size := Option.some.inj (hk.symm.trans e)
                                have := bd.size
                                omega
                            have ht : Turn wc (w3.setCell ⟨mb, 2, none⟩ (.slice (some ⟨g3, 0, none⟩) (s.length + 1) cap3)) 41 2 w.heap.size mb (.slice a s.length cc) (s ++ [(y1, d)]) :=
                              ⟨_, HT.out.ref.put ow (v' := .slice (some ⟨g3, 0, none⟩) (s.length + 1) cap3) (by rw [LSL.out, FL.out]; exact ho3) hnew HI.out, (ow.mono (fun k _ e => .inr e)).setCell (.inl rfl) _, hnew⟩
                            exact ⟨by rw [HF.out], by rw [HS.out]; exact Play.refTurn HT.out hXb hVb hge ht⟩
                    | false =>
                      have HF : Hid (sendF s y1 d = 1) := by show sendF s y1 d = 1; simp [sendF, he]
                      go_wp2_with fail
                      go_meet
                      exact ⟨by rw [HF.out], by rw [sendS_no (by rw [HF.out]; decide)]; exact hP⟩
                  case rest =>
                    obtain ⟨rfl, hPc⟩ := hcut
                    have c1 := send_play hPc y1 d HD.out
                    have u1 := (hPc.box.c 1 (by decide)).trans (by rw [HY1.out])
                    generalize sendF s y1 d = f at c1 ⊢
                    have c3 := errV_eq f
                    generalize errV f = er at c1 c3
                    clear hP v0 v1
                    go_wp2_with fail
                    refine c1.mono ?_
                    rintro e w11 ⟨rfl, hP11⟩
                    clear c1 u1 hPc
                    have c3 := c3 w11 (hH.below hP11.bel)
                    go_wp2_with fail
                    refine c3.mono ?_
                    rintro e w12 ⟨rfl, hb12⟩
                    have hP12 := hP11.below hb12
                    clear hP11 hb12 c3
                    go_wp2_with fail
                    go_meet
                    exact ⟨rfl, _, hP12.both⟩
              case rest =>
                clear hP v0 v1
                obtain ⟨rfl, s2, hE⟩ := hcut
                have hop := fun nq => count_both (hE.below (below_drewN (Below.refl wc.heap.size wc) nq))
                have hE2 := fun nq => hE.below (below_drewN (Below.refl wc.heap.size wc) nq)
                obtain ⟨v, u, hT⟩ := hE
                obtain ⟨a2, cap2, rfl⟩ := hT.ref.shape
                have c0 := hT.ref.c
                have hlm : s2.length ≤ 40 := hT.ref.inv.few
                clear hT
                go_wp2_with fail
                go_quiet (first | (go_at_call 6; refine Calls.quiet_of_same (hop _)))
                go_wp2_with fail
                go_roundg (150 - (k + 1))
                case measure => have := HK.out; omega
                case rel => exact ⟨k + 1, s2, by have := HK.out; omega, by go_num, hE2 _⟩
      · go_wp2_with fail
        go_ret
        exact ⟨rfl, hE.bel⟩
    · go_wp2_with fail
      go_ret
      exact ⟨rfl, hE.bel⟩
theorem plays_walk {v u : Value} {w : World} (hv : StepsArg w v) (hu : TextsArg w u) (hH : Handle w) : Calls Tryd.prog 4 #[v, u] w fun e w' => e = .returned (.bool true) ∧ Below w.heap.size w w' := by
  obtain ⟨ao, len, c, rfl, hS⟩ := hv
  obtain ⟨ta, tl, tc, rfl, htl, hT⟩ := hu
  exact plays_yes ao len c ta tl tc w hH hS htl hT
end Go.Proofs.YtljilhhnejjifaaDoor
