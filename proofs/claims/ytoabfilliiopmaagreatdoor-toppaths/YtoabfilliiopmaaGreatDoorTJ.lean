/- TopPaths' walk. -/
import Derived.Test.YtoabfilliiopmaaGreatDoorTI
import Derived.Deep.LoopGhost
import Derived.Deep.CutBlock
import Derived.Deep.RegionWith
import Derived.Deep.RegionHeld3
namespace Go.Proofs.YtoabfilliiopmaaGreatDoor
open Go.RowKit Go.Lib Go.Sort
set_option linter.unusedVariables false
set_option linter.unusedSimpArgs false

set_option maxRecDepth 100000 in
set_option maxHeartbeats 4000000 in
theorem paths_long (d : ByteArray) (v : Value) (w : World) (hV : V.Forms w ∧ Cnts w) (hd : 60 < d.size) (hdl : d.size ≤ 9223372036854775807) : Calls Tryz.prog 7 #[.string d, v] w fun e w' => e = .returned (.bool true) ∧ Below w.heap.size w w' := by
  have HO := one_calls w hV
  have hdi : (60 : Int) < (d.size : Int) := by omega
  clear hV hd
  go_enter Tryz.func7, Tryz.ntmps7
  go_wp2_with (go_at_call 24; refine HO.mono ?_; rintro e w1 ⟨rfl, hB1⟩; clear HO)
  go_ret
  exact ⟨rfl, hB1⟩
set_option maxRecDepth 100000 in
set_option maxHeartbeats 4000000 in
theorem paths_yes (d : ByteArray) (ao : Option Addr) (c : Nat) (zs : List Int) (w : World) (hV : V.Forms w ∧ Cnts w) (hd : d.size ≤ 60) (hl : zs.length ≤ 9223372036854775807) (hz : zs = [] ∨ ∃ b off, ao = some ⟨b, off, none⟩ ∧ b < w.heap.size ∧ ICells w b off zs) : Calls Tryz.prog 7 #[.string d, .slice ao zs.length c] w fun e w' => e = .returned (.bool true) ∧ Below w.heap.size w w' := by
  have HV : Hid (V.Forms w ∧ Cnts w) := hV
  have HZ : Hid (zs = [] ∨ ∃ b off, ao = some ⟨b, off, none⟩ ∧ b < w.heap.size ∧ ICells w b off zs) := hz
  have HD : Hid (d.size ≤ 60) := hd
  have HO := one_calls w hV
  have hdi : ¬ (60 : Int) < (d.size : Int) := by omega
  clear hV hz hd
  go_enter Tryz.func7, Tryz.ntmps7
  go_wp2_with (go_at_call 24; refine HO.mono ?_; rintro e w1 ⟨rfl, hB1⟩; clear HO)
  refine (Sx.new_calls w1).mono ?_
  rintro e w2 ⟨rfl, hS2, hb2⟩
  have hY : Wy w (Px.put w2 0 0 false) w2.heap.size w1.heap.size 0 0 Sx.newS :=
    ⟨Px.Box.new w2 0 0 false, (hS2.base hB1.size).below (Px.below_put _ _ _ _), (hB1.trans (hb2.mono hB1.size)).trans ((Px.below_put _ _ _ _).mono (Nat.le_trans hB1.size hb2.size)), Nat.le_trans hB1.size hb2.size, fun e => by have := hS2.lt; omega⟩
  go_wp2_with fail
  unfold Px.put at hY
  clear hb2 hS2 hB1
  generalize w2.heap.size = P at hY ⊢
  generalize w1.heap.size = sb at hY ⊢
  generalize w2.alloc (.cells #[.int .i64 0, .int .i64 0, .bool false] 87) = W0 at hY ⊢
  go_loopg [8, 9] 40 (fun gk s8 s9 wr => ∃ (j a : Nat) (i o : Int) (s : Sx.St), gk + j = 40 ∧ s8 = .int .i64 (a : Int) ∧ s9 = .int .i64 (j : Int) ∧ Hid (Px.flt i o false = 0 ∧ i ≤ 200 * (j : Int) ∧ Pre d a s ∧ a ≤ d.size) ∧ Wy w wr P sb i o s)
  case atStart => exact ⟨0, 0, 0, 0, Sx.newS, rfl, rfl, rfl, ⟨rfl, by omega, Pre.new d, Nat.zero_le _⟩, hY⟩
  case round =>
    clear hY
    obtain ⟨j, a, i, o, s, hk1, rfl, rfl, HF, hY⟩ := hrel
    have HK : Hid (gk + j = 40) := hk1
    clear hk1
    by_cases g1 : (j : Int) < (zs.length : Int)
    · by_cases g2 : (j : Int) < 40
      · obtain ⟨b, off, rfl, hb, hc⟩ : ∃ b off, ao = some ⟨b, off, none⟩ ∧ b < w.heap.size ∧ ICells w b off zs := by
          rcases HZ.out with e | e
          · exact absurd g1 (by rw [e]; simp)
          · exact e
        have ck := (hY.bel.cell (p := ⟨b, off + j, none⟩) hb).trans (hc j (by omega))
        generalize zs[j]?.getD 0 = n at ck
        have hbc : b < wr.heap.size := Nat.lt_of_lt_of_le hb hY.bel.size
        have HYH : Hid (Wy w wr P sb i o s) := hY
        obtain ⟨pl, p0, p1, p2, pf0, pf1, pf2⟩ := id hY.p
        clear hc hY
        go_upto_region 12 with fail
        go_cut [10, 11] (fun s10 s11 wx => ∃ Q, s10 = .pointer (some ⟨Q, 0, none⟩) ∧ s11 = Px.errV (Px.cameF i o false n) ∧ Wq w wx P Q sb i o (Px.cameI i o false n) (Px.cameO i o false n) (Px.cameK i o false n) s)
        case first =>
          go_region_with (go_at_call 36; refine (Px.came_calls i o false _ _).mono ?_; rintro e w5 ⟨rfl, hb5⟩; first | (have hz := HYH.out.below (below_of_drew hb5)) | (have hz := (HYH.out.more 0 0 false).below (below_of_drew hb5); obtain ⟨_, ⟨ql, q0, q1, q2, qf0, qf1, qf2⟩, _, _, _⟩ := id hz))
          all_goals (try go_wp2_with fail)
          all_goals go_meet
          all_goals first | exact ⟨_, rfl, rfl, hz.setQ _ _ _⟩ | exact ⟨_, rfl, rfl, hz.more _ _ _⟩
        case rest =>
        obtain ⟨Q, rfl, rfl, hQ⟩ := hcut
        clear pl p0 p1 p2 pf0 pf1 pf2 ck hbc HYH
        by_cases hcz : Px.cameF i o false n = 0
        · have hk2 := came_keep HF.out.2.1 hcz
          have HF2 : Hid (Px.flt (i + n) o false = 0 ∧ i + n ≤ 200 * ((j : Int) + 1)) := hk2
          have e1 : Px.cameI i o false n = i + n := by simp [Px.cameI, hcz]
          have e2 : Px.cameO i o false n = o := by simp [Px.cameO, hcz]
          have e3 : Px.cameK i o false n = false := by simp [Px.cameK, hcz]
          rw [e1, e2, e3] at hQ
          rw [hcz, Px.errV_0]
          clear e1 e2 e3 hk2 hcz
          have hQ2 := hQ.setP (i + n) o
          have h0 := hQ.y.p
          have h1 := hQ.q
          obtain ⟨pl, p0, p1, p2, pf0, pf1, pf2⟩ := id h0
          obtain ⟨ql, q0, q1, q2, qf0, qf1, qf2⟩ := id h1
          unfold Px.set3 at hQ2
          go_upto_region 15 with fail
          clear pl p0 p1 p2 pf0 pf1 pf2 ql q0 q1 q2 qf0 qf1 qf2 h0 h1 hQ
          generalize ((wc.setCell ⟨P, 0, none⟩ (.int .i64 (i + n))).setCell ⟨P, 1, none⟩ (.int .i64 o)).setCell ⟨P, 2, none⟩ (.bool false) = W at hQ2 ⊢
          generalize i + n = i2 at hQ2 HF2
          have HQ : Hid (Wq w W P Q sb i2 o i2 o false s) := hQ2
          clear hQ2
          obtain ⟨u, hu⟩ : ∃ u : Nat, u = min (a + 20) d.size := ⟨_, rfl⟩
          have ha := HF.out.2.2.2
          have h60 := HD.out
          go_upto_if 54 with fail
          go_cut [12] (fun s12 wx => s12 = .int .i64 (u : Int) ∧ wx = W)
          case first =>
            by_cases g3 : (d.size : Int) < (a : Int) + 20
            · go_wp2_with fail
              go_meet
              exact ⟨by rw [hu, Nat.min_eq_right (by omega)], rfl⟩
            · go_wp2_with fail
              go_meet
              exact ⟨by rw [hu, Nat.min_eq_left (by omega)]; go_num, rfl⟩
          case rest =>
          obtain ⟨rfl, rfl⟩ := hcut
          have h20 : (d.extract a u).size ≤ 20 := by rw [ByteArray.size_extract]; omega
          have huz : a ≤ u ∧ u ≤ d.size := by omega
          have hj40 : j ≤ 1000 := by omega
          have a60 : a ≤ 60 := by omega
          have hb2 : ∀ W, (Instr.slice 9 (.string d) (some (.int .i64 (a : Int))) (some (.int .i64 (u : Int))) none).run Tryz.prog W = .ok (.string (d.extract a u)) W := run_both d a u huz.1 huz.2 (by omega)
          obtain ⟨hpt, hpn⟩ := HF.out.2.2.1.put huz.1 huz.2 h60
          have HPN : Hid (Pre d u (Sx.putS s (a : Int) (d.extract a u)) ∧ a ≤ u ∧ u ≤ d.size) := ⟨hpn, huz⟩
          have HPT : Hid (Sx.putF s (a : Int) (d.extract a u) = 0) := hpt
          have hpk := onePc_ok a60 h20 hj40
          have hpr := onePc_back a60 h20 hj40
          have hps := (pkF_ok hpk).2.2.2.2
          have HPR : Hid (∀ W, Wq w W P Q sb i2 o i2 o false s → Calls Tryz.prog 37 #[.int .i64 (j : Int), .int .i64 ((j : Int) - 1), .slice (some ⟨W.heap.size + 1, 0, none⟩) 1 1] ((W.alloc (.cells #[.int .i64 (a : Int)] 3)).alloc (.cells #[.int .i64 3, .slice (some ⟨W.heap.size, 0, none⟩) 1 1, .string (d.extract a u)] 40)) fun e w' => e = .returned (.tuple #[.string (pkS (j : Int) ((j : Int) - 1) (onePc a (d.extract a u))), .nilIface]) ∧ Wq w w' P Q sb i2 o i2 o false s) := fun W hW => by
            have b1 : Below W.heap.size W ((W.alloc (.cells #[.int .i64 (a : Int)] 3)).alloc (.cells #[.int .i64 3, .slice (some ⟨W.heap.size, 0, none⟩) 1 1, .string (d.extract a u)] 40)) := ((Below.refl _ W).alloc (Nat.le_refl _) _).alloc (by simp) _
            have b2 := hW.y.bel.trans (b1.mono hW.y.bel.size)
            refine (pkt_print_ok (j : Int) ((j : Int) - 1) _ (onePc a (d.extract a u)) _ (HV.out.1.below b2) (HV.out.2.below b2) (onePc_row W a (d.extract a u) h20) hpk).mono ?_
            rintro e w' ⟨rfl, hb⟩
            exact ⟨rfl, (hW.below b1).below hb⟩
          have HPS : Hid (∀ W, Below w.heap.size w W → Calls Tryz.prog 16 #[.string (pkS (j : Int) ((j : Int) - 1) (onePc a (d.extract a u))), .int .i64 (j : Int)] W fun e w' => ∃ v us, e = .returned (.tuple #[.int .i64 (j : Int), v, .nilIface]) ∧ FOwn w' W.heap.size v us (onePc a (d.extract a u)) ∧ Below W.heap.size W w') := fun W hW => pkt_parse_yes _ (j : Int) W (HV.out.1.below hW) (HV.out.2.below hW) (decide_eq_true (by omega)) hps _ _ hpr
          have HPZ : Hid ((d.extract a u).size ≤ 20) := h20
          clear hpk hpr hpt hpn huz a60 hj40 h20 hu
          have hsi := hps
          generalize pkS (j : Int) ((j : Int) - 1) (onePc a (d.extract a u)) = pb at *
          have hY := HQ.out
          generalize d.extract a u = pc at *
          go_wp2_with fail
          refine (HPR.out _ hY).mono ?_
          rintro e w5 ⟨rfl, hQ5⟩
          clear HPR hY HQ hb2
          have hI := Px.byB_yes (Px.flt_zero HF2.out.1).1
          have hO := Px.byB_yes (Px.flt_zero HF2.out.1).2.1
          have hI8 : i2 ≤ 8000 := by have := HF2.out.2; omega
          have hRM := Px.room_ok i2 o false w5 HF2.out.1
          have hSI := send_iff (m := (pb.size : Int)) HF2.out.1 hI8 (by omega) (by omega)
          have hzs : (pb.size : Int) ≤ 200 := by omega
          clear hps hsi
          generalize Px.rm i2 o false = rm at hRM hSI
          obtain ⟨pl, p0, p1, p2, pf0, pf1, pf2⟩ := id hQ5.y.p
          go_wp2_with fail
          clear pl p0 p1 p2 pf0 pf1 pf2
          refine hRM.mono ?_
          rintro e w6 ⟨rfl, hb6⟩
          have hQ6 := hQ5.below hb6
          clear hRM hQ5 hb6
          have hSC := Px.send_calls i2 o false (pb.size : Int) w6
          obtain ⟨pl, p0, p1, p2, pf0, pf1, pf2⟩ := id hQ6.y.p
          rcases hSI with ⟨hm, hs0, hs1, hs2⟩ | ⟨hm, hs0⟩
          · rw [Px.sendP_ok hs0, hs0, Px.errV_0] at hSC
            clear hs0
            go_wp2_with fail
            clear pl p0 p1 p2 pf0 pf1 pf2
            refine hSC.mono ?_
            rintro e w7 ⟨rfl, hb7⟩
            have hQ7 := hQ6.below hb7
            clear hSC hQ6 hb7
            have hQ8 := hQ7.setQ i2 (o + (pb.size : Int)) false
            unfold Px.set3 at hQ8
            obtain ⟨ql, q0, q1, q2, qf0, qf1, qf2⟩ := id hQ7.q
            go_upto_region 28 with fail
            clear ql q0 q1 q2 qf0 qf1 qf2 hQ7
            generalize ((w7.setCell ⟨Q, 0, none⟩ (.int .i64 i2)).setCell ⟨Q, 1, none⟩ (.int .i64 (o + (pb.size : Int)))).setCell ⟨Q, 2, none⟩ (.bool false) = W8 at hQ8 ⊢
            have hQ9 := hQ8.setP i2 (o + (pb.size : Int))
            unfold Px.set3 at hQ9
            obtain ⟨ql, q0, q1, q2, qf0, qf1, qf2⟩ := id hQ8.q
            obtain ⟨pl, p0, p1, p2, pf0, pf1, pf2⟩ := id hQ8.y.p
            go_wp2_with fail
            clear ql q0 q1 q2 qf0 qf1 qf2 pl p0 p1 p2 pf0 pf1 pf2 hQ8
            generalize ((W8.setCell ⟨P, 0, none⟩ (.int .i64 i2)).setCell ⟨P, 1, none⟩ (.int .i64 (o + (pb.size : Int)))).setCell ⟨P, 2, none⟩ (.bool false) = W9 at hQ9 ⊢
            have HS1 : Hid (Px.flt i2 (o + (pb.size : Int)) false = 0) := hs1
            clear hs1
            have hO2 := Px.byB_yes (Px.flt_zero HS1.out).2.1
            generalize o + (pb.size : Int) = o2 at hQ9 HS1 hs2 hO2
            refine (HPS.out _ hQ9.y.bel).mono ?_
            rintro e w10 ⟨v, us, rfl, hFO, hb10⟩
            have hQ10 := hQ9.below hb10
            obtain ⟨fb, fc, rfl, hfb, hc0, ub, uo, uc, hc1, hub, hc1a, hc2⟩ := onePc_opn hFO
            have hf1 : fb ≠ sb := by have := hQ9.y.st.lt; omega
            have hf2 : ub ≠ sb := by have := hQ9.y.st.lt; omega
            have HPC : Hid (∀ X, Wq w X P Q sb i2 o2 i2 o2 false s → Calls Tryz.prog 40 #[.pointer (some ⟨sb, 0, none⟩), .agg #[.int .i64 (a : Int), .string pc]] X fun e w' => e = .returned .nilIface ∧ Wq w w' P Q sb i2 o2 i2 o2 false (Sx.putS s (a : Int) pc) ∧ Off (fun k => k = sb) X w') := fun X hX => (Sx.put_calls hX.y.st (a : Int) pc (by have := HPZ.out; omega)).mono fun e w' ⟨h1, h2⟩ => ⟨by rw [h1, HPT.out, errV_0], hX.turn h2, h2.2⟩
            clear hb10 hQ9 HPS hFO hfb hub
            go_upto_region 30 with fail
            have HQd : Hid (Wq w w10.drew P Q sb i2 o2 i2 o2 false s) := hQ10.drew
            have k1 : w10.drew.cell? ⟨fb, 1, none⟩ = some (.slice (some ⟨ub, uo, none⟩) 1 uc) := hc1
            have k2 : w10.drew.cell? ⟨fb, 2, none⟩ = some (.string pc) := hc2
            have k3 : w10.drew.cell? ⟨ub, uo, none⟩ = some (.int .i64 (a : Int)) := hc1a
            have HP2 := HPC.out _ HQd.out
            go_cut [135] (fun s135 wx => s135 = .bool false ∧ Wq w wx P Q sb i2 o2 i2 o2 false (Sx.putS s (a : Int) pc))
            case first =>
              clear HPC HQd hQ10
              go_region_held3 (fun X => X.cell? ⟨fb, 1, none⟩ = some (.slice (some ⟨ub, uo, none⟩) 1 uc) ∧ X.cell? ⟨fb, 2, none⟩ = some (.string pc) ∧ X.cell? ⟨ub, uo, none⟩ = some (.int .i64 (a : Int))) (go_keep) (first | (go_at_call 40; refine HP2.mono ?_; rintro e w11 ⟨rfl, hz, hoff⟩; have z1 := hoff.cell k1 hf1; have z2 := hoff.cell k2 hf1; have z3 := hoff.cell k3 hf2))
              all_goals (try go_wp2_with fail)
              all_goals go_meet
              all_goals exact ⟨by simp, by first | exact hz | exact hz.drew⟩
            case rest =>
            obtain ⟨rfl, hQ11⟩ := hcut
            clear hQ10 hc0 hc1 hc1a hc2 HPC k1 k2 k3 HP2 HQd hf1 hf2
            obtain ⟨pl, p0, p1, p2, pf0, pf1, pf2⟩ := id hQ11.y.p
            go_wp2_with fail
            go_roundg (40 - (j + 1))
            case measure => have := HK.out; omega
            case rel => exact ⟨j + 1, u, i2, o2, _, by have := HK.out; omega, rfl, by go_num, ⟨HS1.out, by have := HF2.out.2; omega, HPN.out.1, HPN.out.2.2⟩, hQ11.y⟩
          · rw [Px.sendP_no hs0, Px.errV_f hs0] at hSC
            go_wp2_with fail
            clear pl p0 p1 p2 pf0 pf1 pf2
            refine hSC.mono ?_
            rintro e w7 ⟨rfl, hb7⟩
            have hQ7 := hQ6.below hb7
            clear hSC hQ6 hb7 HPS
            generalize Px.sendF i2 o false (pb.size : Int) = sf at hs0 ⊢
            have hQ8 := hQ7.setQ 0 0 false
            unfold Px.set3 at hQ8
            obtain ⟨ql, q0, q1, q2, qf0, qf1, qf2⟩ := id hQ7.q
            go_wp2_with fail
            go_roundg (40 - (j + 1))
            case measure => have := HK.out; omega
            case rel => exact ⟨j + 1, a, i2, o, s, by have := HK.out; omega, rfl, by go_num, ⟨HF2.out.1, by have := HF2.out.2; omega, HF.out.2.2⟩, hQ8.y⟩
        · have HF2 : Hid (Px.flt i o false = 0 ∧ i ≤ 200 * ((j : Int) + 1)) := ⟨HF.out.1, by have := HF.out.2.1; omega⟩
          rw [Px.errV_f hcz]
          generalize Px.cameI i o false n = ca at hQ
          generalize Px.cameO i o false n = cb at hQ
          generalize Px.cameK i o false n = cc at hQ
          go_upto_region 15 with fail
          clear hcz
          have HQ : Hid (Wq w wc P Q sb i o ca cb cc s) := hQ
          clear hQ
          generalize wc = W at HQ ⊢
          obtain ⟨u, hu⟩ : ∃ u : Nat, u = min (a + 20) d.size := ⟨_, rfl⟩
          have ha := HF.out.2.2.2
          have h60 := HD.out
          go_upto_if 54 with fail
          go_cut [12] (fun s12 wx => s12 = .int .i64 (u : Int) ∧ wx = W)
          case first =>
            by_cases g3 : (d.size : Int) < (a : Int) + 20
            · go_wp2_with fail
              go_meet
              exact ⟨by rw [hu, Nat.min_eq_right (by omega)], rfl⟩
            · go_wp2_with fail
              go_meet
              exact ⟨by rw [hu, Nat.min_eq_left (by omega)]; go_num, rfl⟩
          case rest =>
          obtain ⟨rfl, rfl⟩ := hcut
          have h20 : (d.extract a u).size ≤ 20 := by rw [ByteArray.size_extract]; omega
          have huz : a ≤ u ∧ u ≤ d.size := by omega
          have hj40 : j ≤ 1000 := by omega
          have a60 : a ≤ 60 := by omega
          have hb2 : ∀ W, (Instr.slice 9 (.string d) (some (.int .i64 (a : Int))) (some (.int .i64 (u : Int))) none).run Tryz.prog W = .ok (.string (d.extract a u)) W := run_both d a u huz.1 huz.2 (by omega)
          obtain ⟨hpt, hpn⟩ := HF.out.2.2.1.put huz.1 huz.2 h60
          have HPN : Hid (Pre d u (Sx.putS s (a : Int) (d.extract a u)) ∧ a ≤ u ∧ u ≤ d.size) := ⟨hpn, huz⟩
          have HPT : Hid (Sx.putF s (a : Int) (d.extract a u) = 0) := hpt
          have hpk := onePc_ok a60 h20 hj40
          have hpr := onePc_back a60 h20 hj40
          have hps := (pkF_ok hpk).2.2.2.2
          have HPR : Hid (∀ W, Wq w W P Q sb i o ca cb cc s → Calls Tryz.prog 37 #[.int .i64 (j : Int), .int .i64 ((j : Int) - 1), .slice (some ⟨W.heap.size + 1, 0, none⟩) 1 1] ((W.alloc (.cells #[.int .i64 (a : Int)] 3)).alloc (.cells #[.int .i64 3, .slice (some ⟨W.heap.size, 0, none⟩) 1 1, .string (d.extract a u)] 40)) fun e w' => e = .returned (.tuple #[.string (pkS (j : Int) ((j : Int) - 1) (onePc a (d.extract a u))), .nilIface]) ∧ Wq w w' P Q sb i o ca cb cc s) := fun W hW => by
            have b1 : Below W.heap.size W ((W.alloc (.cells #[.int .i64 (a : Int)] 3)).alloc (.cells #[.int .i64 3, .slice (some ⟨W.heap.size, 0, none⟩) 1 1, .string (d.extract a u)] 40)) := ((Below.refl _ W).alloc (Nat.le_refl _) _).alloc (by simp) _
            have b2 := hW.y.bel.trans (b1.mono hW.y.bel.size)
            refine (pkt_print_ok (j : Int) ((j : Int) - 1) _ (onePc a (d.extract a u)) _ (HV.out.1.below b2) (HV.out.2.below b2) (onePc_row W a (d.extract a u) h20) hpk).mono ?_
            rintro e w' ⟨rfl, hb⟩
            exact ⟨rfl, (hW.below b1).below hb⟩
          have HPS : Hid (∀ W, Below w.heap.size w W → Calls Tryz.prog 16 #[.string (pkS (j : Int) ((j : Int) - 1) (onePc a (d.extract a u))), .int .i64 (j : Int)] W fun e w' => ∃ v us, e = .returned (.tuple #[.int .i64 (j : Int), v, .nilIface]) ∧ FOwn w' W.heap.size v us (onePc a (d.extract a u)) ∧ Below W.heap.size W w') := fun W hW => pkt_parse_yes _ (j : Int) W (HV.out.1.below hW) (HV.out.2.below hW) (decide_eq_true (by omega)) hps _ _ hpr
          have HPZ : Hid ((d.extract a u).size ≤ 20) := h20
          clear hpk hpr hpt hpn huz a60 hj40 h20 hu
          have hsi := hps
          generalize pkS (j : Int) ((j : Int) - 1) (onePc a (d.extract a u)) = pb at *
          have hY := HQ.out
          generalize d.extract a u = pc at *
          go_wp2_with fail
          refine (HPR.out _ hY).mono ?_
          rintro e w5 ⟨rfl, hQ5⟩
          clear HPR hY HQ hb2
          have hI := Px.byB_yes (Px.flt_zero HF2.out.1).1
          have hO := Px.byB_yes (Px.flt_zero HF2.out.1).2.1
          have hI8 : i ≤ 8000 := by have := HF2.out.2; omega
          have hRM := Px.room_ok i o false w5 HF2.out.1
          have hSI := send_iff (m := (pb.size : Int)) HF2.out.1 hI8 (by omega) (by omega)
          have hzs : (pb.size : Int) ≤ 200 := by omega
          clear hps hsi
          generalize Px.rm i o false = rm at hRM hSI
          obtain ⟨pl, p0, p1, p2, pf0, pf1, pf2⟩ := id hQ5.y.p
          go_wp2_with fail
          clear pl p0 p1 p2 pf0 pf1 pf2
          refine hRM.mono ?_
          rintro e w6 ⟨rfl, hb6⟩
          have hQ6 := hQ5.below hb6
          clear hRM hQ5 hb6
          have hSC := Px.send_calls i o false (pb.size : Int) w6
          obtain ⟨pl, p0, p1, p2, pf0, pf1, pf2⟩ := id hQ6.y.p
          rcases hSI with ⟨hm, hs0, hs1, hs2⟩ | ⟨hm, hs0⟩
          · rw [Px.sendP_ok hs0, hs0, Px.errV_0] at hSC
            clear hs0
            go_wp2_with fail
            clear pl p0 p1 p2 pf0 pf1 pf2
            refine hSC.mono ?_
            rintro e w7 ⟨rfl, hb7⟩
            have hQ7 := hQ6.below hb7
            clear hSC hQ6 hb7
            have hQ8 := hQ7.setQ i (o + (pb.size : Int)) false
            unfold Px.set3 at hQ8
            obtain ⟨ql, q0, q1, q2, qf0, qf1, qf2⟩ := id hQ7.q
            go_upto_region 28 with fail
            clear ql q0 q1 q2 qf0 qf1 qf2 hQ7
            generalize ((w7.setCell ⟨Q, 0, none⟩ (.int .i64 i)).setCell ⟨Q, 1, none⟩ (.int .i64 (o + (pb.size : Int)))).setCell ⟨Q, 2, none⟩ (.bool false) = W8 at hQ8 ⊢
            have hQ9 := hQ8.setP i (o + (pb.size : Int))
            unfold Px.set3 at hQ9
            obtain ⟨ql, q0, q1, q2, qf0, qf1, qf2⟩ := id hQ8.q
            obtain ⟨pl, p0, p1, p2, pf0, pf1, pf2⟩ := id hQ8.y.p
            go_wp2_with fail
            clear ql q0 q1 q2 qf0 qf1 qf2 pl p0 p1 p2 pf0 pf1 pf2 hQ8
            generalize ((W8.setCell ⟨P, 0, none⟩ (.int .i64 i)).setCell ⟨P, 1, none⟩ (.int .i64 (o + (pb.size : Int)))).setCell ⟨P, 2, none⟩ (.bool false) = W9 at hQ9 ⊢
            have HS1 : Hid (Px.flt i (o + (pb.size : Int)) false = 0) := hs1
            clear hs1
            have hO2 := Px.byB_yes (Px.flt_zero HS1.out).2.1
            generalize o + (pb.size : Int) = o2 at hQ9 HS1 hs2 hO2
            refine (HPS.out _ hQ9.y.bel).mono ?_
            rintro e w10 ⟨v, us, rfl, hFO, hb10⟩
            have hQ10 := hQ9.below hb10
            obtain ⟨fb, fc, rfl, hfb, hc0, ub, uo, uc, hc1, hub, hc1a, hc2⟩ := onePc_opn hFO
            have hf1 : fb ≠ sb := by have := hQ9.y.st.lt; omega
            have hf2 : ub ≠ sb := by have := hQ9.y.st.lt; omega
            have HPC : Hid (∀ X, Wq w X P Q sb i o2 i o2 false s → Calls Tryz.prog 40 #[.pointer (some ⟨sb, 0, none⟩), .agg #[.int .i64 (a : Int), .string pc]] X fun e w' => e = .returned .nilIface ∧ Wq w w' P Q sb i o2 i o2 false (Sx.putS s (a : Int) pc) ∧ Off (fun k => k = sb) X w') := fun X hX => (Sx.put_calls hX.y.st (a : Int) pc (by have := HPZ.out; omega)).mono fun e w' ⟨h1, h2⟩ => ⟨by rw [h1, HPT.out, errV_0], hX.turn h2, h2.2⟩
            clear hb10 hQ9 HPS hFO hfb hub
            go_upto_region 30 with fail
            have HQd : Hid (Wq w w10.drew P Q sb i o2 i o2 false s) := hQ10.drew
            have k1 : w10.drew.cell? ⟨fb, 1, none⟩ = some (.slice (some ⟨ub, uo, none⟩) 1 uc) := hc1
            have k2 : w10.drew.cell? ⟨fb, 2, none⟩ = some (.string pc) := hc2
            have k3 : w10.drew.cell? ⟨ub, uo, none⟩ = some (.int .i64 (a : Int)) := hc1a
            have HP2 := HPC.out _ HQd.out
            go_cut [135] (fun s135 wx => s135 = .bool false ∧ Wq w wx P Q sb i o2 i o2 false (Sx.putS s (a : Int) pc))
            case first =>
              clear HPC HQd hQ10
              go_region_held3 (fun X => X.cell? ⟨fb, 1, none⟩ = some (.slice (some ⟨ub, uo, none⟩) 1 uc) ∧ X.cell? ⟨fb, 2, none⟩ = some (.string pc) ∧ X.cell? ⟨ub, uo, none⟩ = some (.int .i64 (a : Int))) (go_keep) (first | (go_at_call 40; refine HP2.mono ?_; rintro e w11 ⟨rfl, hz, hoff⟩; have z1 := hoff.cell k1 hf1; have z2 := hoff.cell k2 hf1; have z3 := hoff.cell k3 hf2))
              all_goals (try go_wp2_with fail)
              all_goals go_meet
              all_goals exact ⟨by simp, by first | exact hz | exact hz.drew⟩
            case rest =>
            obtain ⟨rfl, hQ11⟩ := hcut
            clear hQ10 hc0 hc1 hc1a hc2 HPC k1 k2 k3 HP2 HQd hf1 hf2
            obtain ⟨pl, p0, p1, p2, pf0, pf1, pf2⟩ := id hQ11.y.p
            go_wp2_with fail
            go_roundg (40 - (j + 1))
            case measure => have := HK.out; omega
            case rel => exact ⟨j + 1, u, i, o2, _, by have := HK.out; omega, rfl, by go_num, ⟨HS1.out, by have := HF2.out.2; omega, HPN.out.1, HPN.out.2.2⟩, hQ11.y⟩
          · rw [Px.sendP_no hs0, Px.errV_f hs0] at hSC
            go_wp2_with fail
            clear pl p0 p1 p2 pf0 pf1 pf2
            refine hSC.mono ?_
            rintro e w7 ⟨rfl, hb7⟩
            have hQ7 := hQ6.below hb7
            clear hSC hQ6 hb7 HPS
            generalize Px.sendF i o false (pb.size : Int) = sf at hs0 ⊢
            have hQ8 := hQ7.setQ 0 0 false
            unfold Px.set3 at hQ8
            obtain ⟨ql, q0, q1, q2, qf0, qf1, qf2⟩ := id hQ7.q
            go_wp2_with fail
            go_roundg (40 - (j + 1))
            case measure => have := HK.out; omega
            case rel => exact ⟨j + 1, a, i, o, s, by have := HK.out; omega, rfl, by go_num, ⟨HF2.out.1, by have := HF2.out.2; omega, HF.out.2.2⟩, hQ8.y⟩
      · have ht := Sx.take_calls hY.st 60 (by omega)
        have hup := run_upto d a HF.out.2.2.2 (by have := HD.out; omega)
        rw [HF.out.2.2.1.take HF.out.2.2.2 HD.out] at ht
        generalize d.extract 0 a = ga at ht hup
        go_wp2_with (go_at_call 41; refine ht.mono ?_; rintro e w9 ⟨rfl, hT⟩)
        go_ret
        exact ⟨by simp, (hY.turn hT).bel⟩
    · have ht := Sx.take_calls hY.st 60 (by omega)
      have hup := run_upto d a HF.out.2.2.2 (by have := HD.out; omega)
      rw [HF.out.2.2.1.take HF.out.2.2.2 HD.out] at ht
      generalize d.extract 0 a = ga at ht hup
      go_wp2_with (go_at_call 41; refine ht.mono ?_; rintro e w9 ⟨rfl, hT⟩)
      go_ret
      exact ⟨by simp, (hY.turn hT).bel⟩
theorem paths_calls (d : ByteArray) (w : World) (hV : V.Forms w ∧ Cnts w) (hdl : d.size ≤ 140737488351232) {v : Value} {zs : List Int} (hR : IRow w v zs) : Calls Tryz.prog 7 #[.string d, v] w fun e w' => e = .returned (.bool true) ∧ Below w.heap.size w w' := by
  by_cases hd : d.size ≤ 60
  · obtain ⟨ao, c, rfl, hl, _, hz⟩ := hR
    exact paths_yes d ao c zs w hV hd hl hz
  · exact paths_long d v w hV (by omega) (by omega)
end Go.Proofs.YtoabfilliiopmaaGreatDoor
