/- TopFlight's walk. -/
import Derived.Test.YtoabfilliiopmaaGreatDoorTK
import Derived.Test.YtoabfilliiopmaaGreatDoorEW
import Derived.Test.YtoabfilliiopmaaGreatDoorRE
import Derived.Deep.LoopGhost
import Derived.Deep.CutBlock
import Derived.Deep.RegionWith
import Derived.BigQuiet
namespace Go.Proofs.YtoabfilliiopmaaGreatDoor
open Go.RowKit Go.Lib Go.Sort
set_option linter.unusedVariables false
set_option linter.unusedSimpArgs false


open Lx (S3)
theorem below_undrew {N : Nat} {w w' : World} (h : Below N w.drew w') : Below N w w' := ⟨h.os, h.tape, h.output, h.size, h.block⟩
/-- The law's window in a box of its own. -/
structure Fl (w W : World) (B : Nat) (a d y : Int) : Prop where
  q : Wx.Box W B a d y
  bel : Below w.heap.size w W
  le : w.heap.size ≤ B
section
variable {w W W' : World} {B : Nat} {a d y : Int}
theorem Fl.below (h : Fl w W B a d y) (hb : Below W.heap.size W W') : Fl w W' B a d y := ⟨h.q.below hb, h.bel.trans (hb.mono h.bel.size), h.le⟩
theorem Fl.set (h : Fl w W B a d y) (a' d' y' : Int) : Fl w (Wx.set3 W B a' d' y') B a' d' y' := ⟨h.q.set a' d' y', ((h.bel.setCell h.le _).setCell h.le _).setCell h.le _, h.le⟩
theorem Fl.drewN (h : Fl w W B a d y) (m : Nat) : Fl w (W.drewN m) B a d y := h.below ⟨rfl, rfl, rfl, Nat.le_refl _, fun _ _ => rfl⟩
theorem Fl.drew (h : Fl w W B a d y) : Fl w W.drew B a d y := h.below ⟨rfl, rfl, rfl, Nat.le_refl _, fun _ _ => rfl⟩
theorem Fl.new (w : World) (a d y : Int) : Fl w (Wx.put w a d y) w.heap.size a d y := ⟨Wx.Box.new w a d y, (Below.refl _ _).alloc (Nat.le_refl _) _, Nat.le_refl _⟩
end
set_option maxRecDepth 100000 in
set_option maxHeartbeats 4000000 in
theorem flight_time (uo ao : Option Addr) (uc ac : Nat) (zs : List S3) (acks : List R) (now t : Int) (w : World) (hV : V.Forms w ∧ Cnts w) (hZ : Lx.Row3 w (.slice uo zs.length uc) zs) (hR : Row w (.slice ao acks.length ac) acks) (ht : Tx.timeB t = false) : Calls Tryz.prog 6 #[.slice uo zs.length uc, .slice ao acks.length ac, .int .i64 now, .int .i64 t] w fun e w' => e = .returned (.bool true) ∧ Below w.heap.size w w' := by
  have HO := one_calls w hV
  clear hV
  go_enter Tryz.func6, Tryz.ntmps6
  go_wp2_with (go_at_call 24; refine HO.mono ?_; rintro e w1 ⟨rfl, hB1⟩; clear HO)
  refine (Tx.first_no t w1 ht).mono ?_
  rintro e w2 ⟨rfl, hb2⟩
  have hB2 := (hB1.trans (hb2.mono hB1.size)).alloc (Nat.le_trans hB1.size hb2.size) (.cells #[.int .i64 0, .int .i64 0, .int .i64 0] 62)
  go_wp2_with fail
  go_ret
  exact ⟨rfl, hB2⟩
set_option maxRecDepth 100000 in
set_option maxHeartbeats 4000000 in
theorem flight_lost (uo ao : Option Addr) (uc ac : Nat) (zs : List S3) (acks : List R) (now t : Int) (w : World) (hV : V.Forms w ∧ Cnts w) (hZ : Lx.Row3 w (.slice uo zs.length uc) zs) (hR : Row w (.slice ao acks.length ac) acks) (wt : Int) (hwt : wt = 8 * t / 8 + Tx.half (4 * t)) (ht : Tx.timeB t = true) (hf : Lx.lostF zs acks now wt ≠ 0) : Calls Tryz.prog 6 #[.slice uo zs.length uc, .slice ao acks.length ac, .int .i64 now, .int .i64 t] w fun e w' => e = .returned (.bool true) ∧ Below w.heap.size w w' := by
  have hr : Tx.rightB (8 * t) (4 * t) t = true := by
    have := Tx.timeB_yes ht
    simp only [Tx.rightB, Tx.timeB, Bool.and_eq_true, decide_eq_true_eq]
    omega
  have HW := fun W => Tx.wait_yes (8 * t) (4 * t) t W hr
  have hgt : t < 8 * t / 8 + Tx.half (4 * t) := by
    have := Tx.timeB_yes ht
    unfold Tx.half
    split <;> omega
  rw [← hwt] at HW hgt
  clear hwt hr
  have HL := fun X (hX : Below w.heap.size w X) => Lx.lost_calls _ _ zs acks now wt X (hZ.below hX) (hR.below hX)
  rw [errV_f hf] at HL
  clear hZ hR hf
  have HO := one_calls w hV
  clear hV
  go_enter Tryz.func6, Tryz.ntmps6
  go_wp2_with (go_at_call 24; refine HO.mono ?_; rintro e w1 ⟨rfl, hB1⟩; clear HO)
  refine (Tx.first_yes t w1 ht).mono ?_
  rintro e w2 ⟨rfl, hb2⟩
  have hB2 := (hB1.trans (hb2.mono hB1.size)).alloc (Nat.le_trans hB1.size hb2.size) (.cells #[.int .i64 (8 * t), .int .i64 (4 * t), .int .i64 t] 62)
  go_wp2_with fail
  generalize w2.alloc (.cells #[.int .i64 (8 * t), .int .i64 (4 * t), .int .i64 t] 62) = W2 at hB2 ⊢
  refine (HW W2).mono ?_
  rintro e w3 ⟨rfl, hb3⟩
  have hB3 := hB2.trans (hb3.mono hB2.size)
  clear hB1 hb2 hB2 hb3 HW
  have hng : ¬ wt ≤ t := by omega
  go_wp2_with fail
  refine (HL _ hB3).mono ?_
  rintro e w4 ⟨vo, rfl, _, hb4⟩
  have hB4 := hB3.trans (hb4.mono hB3.size)
  go_wp2_with fail
  go_ret
  exact ⟨rfl, hB4⟩
set_option maxRecDepth 100000 in
set_option maxHeartbeats 4000000 in
theorem flight_yes (uo ao : Option Addr) (uc ac : Nat) (zs : List S3) (acks : List R) (now t : Int) (w : World) (hV : V.Forms w ∧ Cnts w) (hZ : Lx.Row3 w (.slice uo zs.length uc) zs) (hR : Row w (.slice ao acks.length ac) acks) (wt : Int) (hwt : wt = 8 * t / 8 + Tx.half (4 * t)) (ht : Tx.timeB t = true) (hf : Lx.lostF zs acks now wt = 0) : Calls Tryz.prog 6 #[.slice uo zs.length uc, .slice ao acks.length ac, .int .i64 now, .int .i64 t] w fun e w' => e = .returned (.bool true) ∧ Below w.heap.size w w' := by
  have hr : Tx.rightB (8 * t) (4 * t) t = true := by
    have := Tx.timeB_yes ht
    simp only [Tx.rightB, Tx.timeB, Bool.and_eq_true, decide_eq_true_eq]
    omega
  have HW := fun W => Tx.wait_yes (8 * t) (4 * t) t W hr
  have hgt : t < 8 * t / 8 + Tx.half (4 * t) := by
    have := Tx.timeB_yes ht
    unfold Tx.half
    split <;> omega
  rw [← hwt] at HW hgt
  clear hwt hr
  obtain ⟨hbo, hti, hwi⟩ := lostF_0 hf
  obtain ⟨hsc, hck⟩ := Lx.both_0 hbo
  have HSC : Hid (Lx.sc zs = 0) := hsc
  have HCK : Hid (chk acks = 0) := hck
  have hnb := (Lx.isT_iff now).1 hti
  have hwb := (Lx.isW_iff wt).1 hwi
  have HC1 : ∀ X, Below w.heap.size w X → Calls Tryz.prog 27 #[.slice uo zs.length uc, .slice ao acks.length ac, .int .i64 now, .int .i64 wt] X fun e w' => ∃ vo, e = .returned (.tuple #[vo, .nilIface]) ∧ Lx.IRow w' vo (Lx.lostL acks now wt zs) ∧ Below X.heap.size X w' := fun X hX => by
    have := Lx.lost_calls _ _ zs acks now wt X (hZ.below hX) (hR.below hX)
    rwa [hf, errV_0, Lx.lostE, if_pos hf] at this
  have HC2 : ∀ X, Below w.heap.size w X → Calls Tryz.prog 28 #[.slice uo zs.length uc, .slice ao acks.length ac] X fun e w' => ∃ u', e = .returned (.tuple #[u', .nilIface]) ∧ Lx.Row3 w' u' (Lx.leftL acks zs) ∧ Below X.heap.size X w' := fun X hX => by
    have := Lx.leftx_calls _ _ zs acks X (hZ.below hX) (hR.below hX)
    rwa [hbo, errV_0, Lx.leftE, if_pos hbo] at this
  have HC3 : ∀ X, Below w.heap.size w X → Calls Tryz.prog 29 #[.slice uo zs.length uc] X fun e w' => e = .returned (.tuple #[.int .i64 (Lx.wayL zs), .nilIface]) ∧ Below X.heap.size X w' := fun X hX => by
    have := Lx.way_calls _ zs X (hZ.below hX)
    rwa [hsc, errV_0, Lx.wayE, if_pos hsc] at this
  have HC4 : ∀ X u', Lx.Row3 X u' (Lx.leftL acks zs) → Calls Tryz.prog 29 #[u'] X fun e w' => e = .returned (.tuple #[.int .i64 (Lx.wayL (Lx.leftL acks zs)), .nilIface]) ∧ Below X.heap.size X w' := fun X u' hX => by
    have := Lx.way_calls u' (Lx.leftL acks zs) X hX
    rwa [sc_left hsc, errV_0, Lx.wayE, if_pos (sc_left hsc)] at this
  have hlw := left_way (acks := acks) hsc
  have hlo := off_le (acks := acks) (now := now) (wait := wt) hsc zs.length (Nat.le_refl _)
  have htp := way_top hsc
  have hnl : ¬ Lx.wayL zs < Lx.wayL (Lx.leftL acks zs) := by omega
  have HLW : Hid (Lx.wayL (Lx.leftL acks zs) = Lx.wayL zs - filL (fun s => memB acks s.1) zs zs.length) := hlw
  have HL6 : Hid (0 ≤ Lx.wayL (Lx.leftL acks zs) ∧ Lx.wayL (Lx.leftL acks zs) ≤ 6000) := by
    have e := hlo.2.2
    rw [List.take_length] at e
    exact ⟨by omega, by omega⟩
  have HZH : Hid (Lx.Row3 w (.slice uo zs.length uc) zs) := hZ
  have HRH : Hid (Row w (.slice ao acks.length ac) acks) := hR
  have hlen : zs.length ≤ 30 := (Lx.sc_good hsc).1
  clear hZ hR hf hbo hti hwi hsc hck hlw hlo htp
  have HO := one_calls w hV
  clear hV
  go_enter Tryz.func6, Tryz.ntmps6
  go_wp2_with (go_at_call 24; refine HO.mono ?_; rintro e w1 ⟨rfl, hB1⟩; clear HO)
  refine (Tx.first_yes t w1 ht).mono ?_
  rintro e w2 ⟨rfl, hb2⟩
  have hB2 := (hB1.trans (hb2.mono hB1.size)).alloc (Nat.le_trans hB1.size hb2.size) (.cells #[.int .i64 (8 * t), .int .i64 (4 * t), .int .i64 t] 62)
  go_wp2_with fail
  generalize w2.alloc (.cells #[.int .i64 (8 * t), .int .i64 (4 * t), .int .i64 t] 62) = W2 at hB2 ⊢
  refine (HW W2).mono ?_
  rintro e w3 ⟨rfl, hb3⟩
  have hB3 := hB2.trans (hb3.mono hB2.size)
  clear hB1 hb2 hB2 hb3 HW
  have hng : ¬ wt ≤ t := by omega
  go_wp2_with fail
  refine (HC1 _ hB3).mono ?_
  rintro e w4 ⟨vo, rfl, hi4, hb4⟩
  have hB4 := hB3.trans (hb4.mono hB3.size)
  clear HC1
  go_wp2_with fail
  refine (HC2 _ hB4).mono ?_
  rintro e w5 ⟨u5, rfl, hr5, hb5⟩
  have hB5 := hB4.trans (hb5.mono hB4.size)
  clear HC2
  go_wp2_with fail
  refine (HC3 _ hB5).mono ?_
  rintro e w6 ⟨rfl, hb6⟩
  have hB6 := hB5.trans (hb6.mono hB5.size)
  clear HC3
  go_wp2_with fail
  refine (HC4 _ _ (hr5.below hb6)).mono ?_
  rintro e w7 ⟨rfl, hb7⟩
  have hB7 := hB6.trans (hb7.mono hB6.size)
  clear HC4
  have HI7 : Hid (Lx.IRow w7 vo (Lx.lostL acks now wt zs)) := ((hi4.below hb5).below hb6).below hb7
  have HZ7 : Hid (Lx.Row3 w7 (.slice uo zs.length uc) zs) := HZH.out.below hB7
  have HR7 : Hid (Row w7 (.slice ao acks.length ac) acks) := HRH.out.below hB7
  have hF0 := Fl.new w7 100000 100000 0
  unfold Wx.put at hF0
  clear hB3 hB4 hB5 hB6 hb4 hb5 hb6 hb7 hi4 hr5 HZH HRH
  generalize hLL : Lx.wayL (Lx.leftL acks zs) = lf at hnl HLW HL6 ⊢
  have hl6 := HL6.out
  clear hLL
  generalize hAL : Lx.wayL zs = all at hnl ⊢
  have HAL : Hid (Lx.wayL zs = all) := hAL
  clear hAL
  go_wp2_with fail
  generalize w7.heap.size = B at hF0 ⊢
  generalize w7.alloc (.cells #[.int .i64 100000, .int .i64 100000, .int .i64 0] 73) = W8 at hF0 ⊢
  go_loopg [22] zs.length (fun gk s22 wr => ∃ k : Nat, gk + k = zs.length ∧ s22 = .int .i64 (k : Int) ∧ Fl w7 wr B 100000 100000 (Lx.wayL (zs.take k)))
  case atStart => exact ⟨0, rfl, rfl, by simpa [Lx.wayL] using hF0⟩
  case round =>
    clear hF0
    obtain ⟨k, hk1, rfl, hF⟩ := hrel
    have HK : Hid (gk + k = zs.length) := hk1
    clear hk1
    by_cases g : (k : Int) < (zs.length : Int)
    · obtain ⟨b, off, rfl, hb, hc⟩ : ∃ b off, uo = some ⟨b, off, none⟩ ∧ b < w7.heap.size ∧ Lx.Cells3 w7 b off zs := by
        obtain ⟨uo', uc', h1, _, _, h2⟩ := HZ7.out
        injection h1 with i1 i2 i3
        subst i1
        rcases h2 with e | e
        · exact absurd g (by rw [e]; simp)
        · exact e
      have hkl : k < zs.length := by omega
      obtain ⟨c0, c1, c2⟩ := hc k hkl
      have hs := size_at HSC.out hkl
      have hy := way_at HSC.out (Nat.le_of_lt hkl)
      have hnx := Lx.way_next hkl
      have hy30 : k ≤ 30 := by have := (Lx.sc_good HSC.out).1; omega
      have ck := (hF.bel.cell (p := ⟨b, off + k * 3 + 2, none⟩) hb).trans c2
      have hbc : b < wr.heap.size := Nat.lt_of_lt_of_le hb hF.bel.size
      obtain ⟨_, _, n0, n1⟩ := hs
      have HNX : Hid (Lx.wayL (zs.take (k + 1)) = Lx.wayL (zs.take k) + (Lx.at3 zs k).2.2) := hnx
      clear hnx hc c0 c1 c2
      generalize hyy : Lx.wayL (zs.take k) = y at hy hF
      generalize hnn : (Lx.at3 zs k).2.2 = n at n0 n1 ck
      have HYY : Hid (Lx.wayL (zs.take k) = y ∧ (Lx.at3 zs k).2.2 = n) := ⟨hyy, hnn⟩
      clear hyy hnn
      have SC : ∀ W, Calls Tryz.prog 30 #[Wx.win 100000 100000 y, .int .i64 n] W fun e w' => e = .returned (.tuple #[Wx.win 100000 100000 (y + n), .nilIface]) ∧ Below W.heap.size W w' := fun W => Wx.send_ok 100000 100000 y n W (win_ok (by omega) (by omega) (by omega) (by omega) (by omega) (by omega) n0 n1) (by omega)
      have HFH : Hid (Fl w7 wr B 100000 100000 y) := hF
      obtain ⟨pl, p0, p1, p2, pf0, pf1, pf2⟩ := id hF.q
      clear hF
      go_upto_region 22 with fail
      go_cut [13] (fun s13 wx => s13 = .nilIface ∧ Fl w7 wx B 100000 100000 (y + n))
      case first =>
        go_region_with (go_at_call 30; refine (SC _).mono ?_; rintro e w9 ⟨rfl, hb9⟩; have hz := HFH.out.below (below_undrew hb9); obtain ⟨⟨pl', p0', p1', p2', pf0', pf1', pf2'⟩, _, _⟩ := id hz)
        all_goals (try go_wp2_with fail)
        all_goals go_meet
        all_goals exact ⟨rfl, by first | exact hz.set _ _ _ | exact (hz.set _ _ _).drew⟩
      case rest =>
      obtain ⟨rfl, hF2⟩ := hcut
      clear pl p0 p1 p2 pf0 pf1 pf2 SC HFH ck hbc
      go_wp2_with fail
      go_roundg (zs.length - (k + 1))
      case measure => have := HK.out; omega
      case rel => exact ⟨k + 1, by have := HK.out; omega, by go_num, by rw [HNX.out, HYY.out.1, HYY.out.2]; exact hF2⟩
    · have hkz : k = zs.length := by have := HK.out; omega
      have hF1 : Fl w7 wr B 100000 100000 all := by
        rw [hkz, List.take_length, HAL.out] at hF
        exact hF
      clear hF hkz
      obtain ⟨pl, p0, p1, p2, pf0, pf1, pf2⟩ := id hF1.q
      go_wp2_with fail
      clear pl p0 p1 p2 pf0 pf1 pf2
      generalize wr = W9 at hF1 ⊢
      clear HK
      go_loopg [19, 23] zs.length (fun gk s19 s23 wr => ∃ (k : Nat) (a d : Int), gk + k = zs.length ∧ s19 = .int .i64 (lf - filL (goneB acks now wt) zs k) ∧ s23 = .int .i64 (k : Int) ∧ Hid (400 ≤ a ∧ a ≤ 100000 ∧ 400 ≤ d ∧ d ≤ 100000) ∧ Fl w7 wr B a d (all - filL (fun s => memB acks s.1) zs k - filL (goneB acks now wt) zs k))
      case atStart => exact ⟨0, 100000, 100000, rfl, by simp [filL, Lx.wayL], rfl, ⟨by omega, by omega, by omega, by omega⟩, by simpa [filL, Lx.wayL] using hF1⟩
      case round =>
        clear hF1
        obtain ⟨k, a, d, hk1, rfl, rfl, hA, hF⟩ := hrel
        have HK : Hid (gk + k = zs.length) := hk1
        clear hk1
        by_cases g : (k : Int) < (zs.length : Int)
        · obtain ⟨b, off, rfl, hb, hc⟩ : ∃ b off, uo = some ⟨b, off, none⟩ ∧ b < w7.heap.size ∧ Lx.Cells3 w7 b off zs := by
            obtain ⟨uo', uc', h1, _, _, h2⟩ := HZ7.out
            injection h1 with i1 i2 i3
            subst i1
            rcases h2 with e | e
            · exact absurd g (by rw [e]; simp)
            · exact e
          have hkl : k < zs.length := by omega
          obtain ⟨c0, c1, c2⟩ := hc k hkl
          have hs := size_at HSC.out hkl
          have hoff := off_next (acks := acks) (now := now) (wait := wt) HSC.out hkl
          have hlo := off_le (acks := acks) (now := now) (wait := wt) HSC.out k (Nat.le_of_lt hkl)
          have htop := way_top HSC.out
          have f1 := fil_next (fun s => memB acks s.1) hkl
          have f2 := fil_next (goneB acks now wt) hkl
          have HH : ∀ X, Below w7.heap.size w7 X → Calls Tryz.prog 31 #[.slice ao acks.length ac, .int .i64 (Lx.at3 zs k).1] X fun e w' => e = .returned (.tuple #[.bool (memB acks (Lx.at3 zs k).1), .nilIface]) ∧ Below X.heap.size X w' := fun X hX => hasx_ok _ acks _ X (HR7.out.below hX) ((isN_iff _).2 hs.1) HCK.out
          have HI : ∀ X, Below w7.heap.size w7 X → Calls Tryz.prog 32 #[vo, .int .i64 (Lx.at3 zs k).1] X fun e w' => e = .returned (.bool (goneB acks now wt (Lx.at3 zs k))) ∧ Below X.heap.size X w' := fun X hX => by
            have := in0_calls vo (Lx.lostL acks now wt zs) (Lx.at3 zs k).1 X (HI7.out.below hX)
            rwa [gone_is HSC.out hkl] at this
          have HGA0 : Hid (goneB acks now wt (Lx.at3 zs k) = true → now - (Lx.at3 zs k).2.1 < wt → 0 < acks.length ∧ (Lx.at3 zs k).1 + 3 ≤ (at' acks 0).2) := fun h1 h2 => gone_ahead HCK.out h1 h2
          have hgm : memB acks (Lx.at3 zs k).1 = true → goneB acks now wt (Lx.at3 zs k) = false := fun h => by simp [goneB, h]
          obtain ⟨⟨u0, u1⟩, ⟨t0, t1⟩, n0, n1⟩ := hs
          obtain ⟨cm0, gn0, _⟩ := hlo
          rw [HAL.out] at hoff htop
          clear hc
          generalize filL (fun s => memB acks s.1) zs k = cm at *
          generalize filL (goneB acks now wt) zs k = gn at *
          generalize hyy : all - cm - gn = y at hF hoff
          have HY : Hid (all - cm - gn = y) := hyy
          have y6 : y ≤ 6000 := by omega
          have gn6 : gn ≤ 6000 := by omega
          clear hyy
          have hok := fun n (n0 : 1 ≤ n) (n1 : n ≤ 200) (hny : n ≤ y) => win_ok (a := a) (d := d) (y := y) (n := n) hA.out.1 hA.out.2.1 hA.out.2.2.1 hA.out.2.2.2 (by omega) (by omega) n0 n1
          by_cases hm : memB acks (Lx.at3 zs k).1 = true
          · have hg := hgm hm
            rw [hm] at HH
            rw [hg] at HI
            simp only [hm, hg, if_true, if_false, Bool.false_eq_true, Int.add_zero] at f1 f2
            clear hgm
            generalize hnu : (Lx.at3 zs k).1 = nu at *
            generalize htm : (Lx.at3 zs k).2.1 = tm at *
            generalize hnn : (Lx.at3 zs k).2.2 = n at *
            have HN : Hid (filL (fun s => memB acks s.1) zs (k + 1) = cm + n ∧ filL (goneB acks now wt) zs (k + 1) = gn) := ⟨f1, f2⟩
            clear f1 f2 hnu htm hnn hm
            skip
            clear HGA0 hg
            have c0h : b < wr.heap.size := Nat.lt_of_lt_of_le hb hF.bel.size
            have d0 := (hF.bel.cell (p := ⟨b, off + k * 3, none⟩) hb).trans c0
            go_wp2_with (go_at_call 31; refine (HH _ hF.bel).mono ?_; rintro e w9 ⟨rfl, hb9⟩; have hF9 := hF.below hb9; clear HH hb9 d0 c0h; have e0 := (hF9.bel.cell (p := ⟨b, off + k * 3, none⟩) hb).trans c0; have hb10 : b < w9.heap.size := Nat.lt_of_lt_of_le hb hF9.bel.size)
            refine (HI _ hF9.bel).mono ?_
            rintro e w11 ⟨rfl, hb11⟩
            have hF11 := hF9.below hb11
            clear HI hb11 hF9 e0 hb10 hF
            have hb12 : b < w11.heap.size := Nat.lt_of_lt_of_le hb hF11.bel.size
            have e2 := (hF11.bel.cell (p := ⟨b, off + k * 3 + 2, none⟩) hb).trans c2
            have SC : ∀ W, Calls Tryz.prog 33 #[Wx.win a d y, .int .i64 n] W fun e w' => e = .returned (.tuple #[Wx.win (Wx.cameS a d n) d (y - n), .nilIface]) ∧ Below W.heap.size W w' := fun W => Wx.came_ok a d y n W (hok n n0 n1 hoff) hoff
            have hin := cameS_in (d := d) hA.out.1 hA.out.2.1 n0 n1
            generalize Wx.cameS a d n = a2 at SC hin
            have HFH : Hid (Fl w7 w11 B a d y) := hF11
            obtain ⟨pl, p0, p1, p2, pf0, pf1, pf2⟩ := id hF11.q
            clear hF11
            go_upto_region 37 with fail
            go_cut [25] (fun s25 wx => s25 = .nilIface ∧ Fl w7 wx B a2 d (y - n))
            case first =>
              go_region_with (go_at_call 33; refine (SC _).mono ?_; rintro e w12 ⟨rfl, hb12⟩; have hz := HFH.out.below (below_undrew hb12); obtain ⟨⟨pl', p0', p1', p2', pf0', pf1', pf2'⟩, _, _⟩ := id hz)
              all_goals (try go_wp2_with fail)
              all_goals go_meet
              all_goals exact ⟨rfl, by first | exact hz.set _ _ _ | exact (hz.set _ _ _).drew⟩
            case rest =>
            obtain ⟨rfl, hF12⟩ := hcut
            clear pl p0 p1 p2 pf0 pf1 pf2 SC HFH e2 hb12
            have hb13 : b < wc.heap.size := Nat.lt_of_lt_of_le hb hF12.bel.size
            have e1 := (hF12.bel.cell (p := ⟨b, off + k * 3 + 1, none⟩) hb).trans c1
            have e2 := (hF12.bel.cell (p := ⟨b, off + k * 3 + 2, none⟩) hb).trans c2
            have e0 := (hF12.bel.cell (p := ⟨b, off + k * 3, none⟩) hb).trans c0
            go_upto_region 43 with fail
            go_cut [197] (fun s197 wx => s197 = .bool false ∧ Fl w7 wx B a2 d (y - n))
            case first =>
              go_quiet (fail)
              go_wp2_with fail
              go_meet
              exact ⟨rfl, hF12.drewN _⟩
            case rest =>
            obtain ⟨rfl, hF13⟩ := hcut
            clear hF12 e0 e1
            go_wp2_with fail
            go_roundg (zs.length - (k + 1))
            case measure => have := HK.out; omega
            case rel => exact ⟨k + 1, a2, d, by have := HK.out; omega, by rw [HN.out.2], by go_num, ⟨hin.1, hin.2, hA.out.2.2⟩, by rw [HN.out.1, HN.out.2, show all - (cm + n) - gn = y - n by have := HY.out; omega]; exact hF13⟩
          · have hm : memB acks (Lx.at3 zs k).1 = false := by simpa using hm
            by_cases hg : goneB acks now wt (Lx.at3 zs k) = true
            · rw [hm] at HH
              rw [hg] at HI
              simp only [hm, hg, if_true, if_false, Bool.false_eq_true, Int.add_zero] at f1 f2
              clear hgm
              generalize hnu : (Lx.at3 zs k).1 = nu at *
              generalize htm : (Lx.at3 zs k).2.1 = tm at *
              generalize hnn : (Lx.at3 zs k).2.2 = n at *
              have HN : Hid (filL (fun s => memB acks s.1) zs (k + 1) = cm ∧ filL (goneB acks now wt) zs (k + 1) = gn + n) := ⟨f1, f2⟩
              clear f1 f2 hnu htm hnn hm
              have HGA : Hid (now - tm < wt → 0 < acks.length ∧ nu + 3 ≤ (at' acks 0).2) := fun h => HGA0.out hg h
              clear HGA0 hg
              have c0h : b < wr.heap.size := Nat.lt_of_lt_of_le hb hF.bel.size
              have d0 := (hF.bel.cell (p := ⟨b, off + k * 3, none⟩) hb).trans c0
              go_wp2_with (go_at_call 31; refine (HH _ hF.bel).mono ?_; rintro e w9 ⟨rfl, hb9⟩; have hF9 := hF.below hb9; clear HH hb9 d0 c0h; have e0 := (hF9.bel.cell (p := ⟨b, off + k * 3, none⟩) hb).trans c0; have hb10 : b < w9.heap.size := Nat.lt_of_lt_of_le hb hF9.bel.size)
              refine (HI _ hF9.bel).mono ?_
              rintro e w11 ⟨rfl, hb11⟩
              have hF11 := hF9.below hb11
              clear HI hb11 hF9 e0 hb10 hF
              have hb12 : b < w11.heap.size := Nat.lt_of_lt_of_le hb hF11.bel.size
              have e2 := (hF11.bel.cell (p := ⟨b, off + k * 3 + 2, none⟩) hb).trans c2
              have SC : ∀ W, Calls Tryz.prog 34 #[Wx.win a d y, .int .i64 n] W fun e w' => e = .returned (.tuple #[Wx.win (Wx.lostS a) (Wx.lostS a) (y - n), .nilIface]) ∧ Below W.heap.size W w' := fun W => Wx.lost_ok a d y n W (hok n n0 n1 hoff) hoff
              have hin := lostS_in hA.out.1 hA.out.2.1
              generalize Wx.lostS a = a2 at SC hin
              have HFH : Hid (Fl w7 w11 B a d y) := hF11
              obtain ⟨pl, p0, p1, p2, pf0, pf1, pf2⟩ := id hF11.q
              clear hF11
              go_upto_region 39 with fail
              go_cut [25] (fun s25 wx => s25 = .nilIface ∧ Fl w7 wx B a2 a2 (y - n))
              case first =>
                go_region_with (go_at_call 34; refine (SC _).mono ?_; rintro e w12 ⟨rfl, hb12⟩; have hz := HFH.out.below (below_undrew hb12); obtain ⟨⟨pl', p0', p1', p2', pf0', pf1', pf2'⟩, _, _⟩ := id hz)
                all_goals (try go_wp2_with fail)
                all_goals go_meet
                all_goals exact ⟨rfl, by first | exact hz.set _ _ _ | exact (hz.set _ _ _).drew⟩
              case rest =>
              obtain ⟨rfl, hF12⟩ := hcut
              clear pl p0 p1 p2 pf0 pf1 pf2 SC HFH e2 hb12
              have hb13 : b < wc.heap.size := Nat.lt_of_lt_of_le hb hF12.bel.size
              have e1 := (hF12.bel.cell (p := ⟨b, off + k * 3 + 1, none⟩) hb).trans c1
              have e2 := (hF12.bel.cell (p := ⟨b, off + k * 3 + 2, none⟩) hb).trans c2
              have e0 := (hF12.bel.cell (p := ⟨b, off + k * 3, none⟩) hb).trans c0
              go_upto_region 43 with fail
              go_cut [197] (fun s197 wx => s197 = .bool false ∧ Fl w7 wx B a2 a2 (y - n))
              case first =>
                by_cases hw : now - tm < wt
                · obtain ⟨l0, l3⟩ := HGA.out hw
                  obtain ⟨ab, aof, rfl, hab, hac⟩ : ∃ b off, ao = some ⟨b, off, none⟩ ∧ b < w7.heap.size ∧ Cells w7 b off acks := by
                    obtain ⟨ao', ac', h1, _, _, h2⟩ := HR7.out
                    injection h1 with i1 i2 i3
                    subst i1
                    rcases h2 with e | e
                    · rw [e] at l0; simp at l0
                    · exact e
                  have q1 := (hF12.bel.cell (p := ⟨ab, aof + 0 * 2 + 1, none⟩) hab).trans (hac 0 l0).2
                  have q2 : wc.cell? ⟨ab, aof + 1, none⟩ = some (.int .i64 (at' acks 0).2) := by simpa using q1
                  have hab2 : ab < wc.heap.size := Nat.lt_of_lt_of_le hab hF12.bel.size
                  generalize (at' acks 0).2 = hi at l3 q2
                  have l0i : (0 : Int) < (acks.length : Int) := by omega
                  have hd1 : decide (now - tm < wt) = true := decide_eq_true hw
                  have hd2 : decide (hi < nu + 3) = false := decide_eq_false (by omega)
                  clear q1 hac
                  go_quiet (fail)
                  go_wp2_with fail
                  go_meet
                  exact ⟨by simp [hd2], hF12.drewN _⟩
                · have hd1 : decide (now - tm < wt) = false := decide_eq_false hw
                  go_quiet (fail)
                  go_wp2_with fail
                  go_meet
                  exact ⟨by simp [hd1], hF12.drewN _⟩
              case rest =>
              obtain ⟨rfl, hF13⟩ := hcut
              clear hF12 e0 e1
              go_wp2_with fail
              go_roundg (zs.length - (k + 1))
              case measure => have := HK.out; omega
              case rel => exact ⟨k + 1, a2, a2, by have := HK.out; omega, by rw [HN.out.2]; go_num, by go_num, ⟨hin.1, hin.2, hin.1, hin.2⟩, by rw [HN.out.1, HN.out.2, show all - cm - (gn + n) = y - n by have := HY.out; omega]; exact hF13⟩
            · have hg : goneB acks now wt (Lx.at3 zs k) = false := by simpa using hg
              rw [hm] at HH
              rw [hg] at HI
              simp only [hm, hg, if_true, if_false, Bool.false_eq_true, Int.add_zero] at f1 f2
              clear hgm
              generalize hnu : (Lx.at3 zs k).1 = nu at *
              generalize htm : (Lx.at3 zs k).2.1 = tm at *
              generalize hnn : (Lx.at3 zs k).2.2 = n at *
              have HN : Hid (filL (fun s => memB acks s.1) zs (k + 1) = cm ∧ filL (goneB acks now wt) zs (k + 1) = gn) := ⟨f1, f2⟩
              clear f1 f2 hnu htm hnn hm
              skip
              clear HGA0 hg
              have c0h : b < wr.heap.size := Nat.lt_of_lt_of_le hb hF.bel.size
              have d0 := (hF.bel.cell (p := ⟨b, off + k * 3, none⟩) hb).trans c0
              go_wp2_with (go_at_call 31; refine (HH _ hF.bel).mono ?_; rintro e w9 ⟨rfl, hb9⟩; have hF9 := hF.below hb9; clear HH hb9 d0 c0h; have e0 := (hF9.bel.cell (p := ⟨b, off + k * 3, none⟩) hb).trans c0; have hb10 : b < w9.heap.size := Nat.lt_of_lt_of_le hb hF9.bel.size)
              refine (HI _ hF9.bel).mono ?_
              rintro e w11 ⟨rfl, hb11⟩
              have hF11 := hF9.below hb11
              clear HI hb11 hF9 e0 hb10 hF
              have hb12 : b < w11.heap.size := Nat.lt_of_lt_of_le hb hF11.bel.size
              have e2 := (hF11.bel.cell (p := ⟨b, off + k * 3 + 2, none⟩) hb).trans c2
              have hF12 := hF11
              clear hF11
              have e1 := (hF12.bel.cell (p := ⟨b, off + k * 3 + 1, none⟩) hb).trans c1
              have e0 := (hF12.bel.cell (p := ⟨b, off + k * 3, none⟩) hb).trans c0
              go_upto_region 43 with fail
              go_cut [197] (fun s197 wx => s197 = .bool false ∧ Fl w7 wx B a d y)
              case first =>
                go_quiet (fail)
                go_wp2_with fail
                go_meet
                exact ⟨rfl, hF12.drewN _⟩
              case rest =>
              obtain ⟨rfl, hF13⟩ := hcut
              clear hF12 e0 e1
              go_wp2_with fail
              go_roundg (zs.length - (k + 1))
              case measure => have := HK.out; omega
              case rel => exact ⟨k + 1, a, d, by have := HK.out; omega, by rw [HN.out.2], by go_num, hA.out, by rw [HN.out.1, HN.out.2, show all - cm - gn = y by have := HY.out; omega]; exact hF13⟩
        · have hkz : k = zs.length := by have := HK.out; omega
          have hF1 : Fl w7 wr B a d (lf - filL (goneB acks now wt) zs k) := by
            have e : all - filL (fun s => memB acks s.1) zs k - filL (goneB acks now wt) zs k = lf - filL (goneB acks now wt) zs k := by
              have := HLW.out
              have := HAL.out
              rw [hkz]
              omega
            rw [e] at hF
            exact hF
          clear hF hkz
          generalize lf - filL (goneB acks now wt) zs k = ye at hF1 ⊢
          obtain ⟨pl, p0, p1, p2, pf0, pf1, pf2⟩ := id hF1.q
          have hBE := hB7.trans (hF1.bel.mono hB7.size)
          go_wp2_with fail
          go_ret
          exact ⟨by simp, hBE⟩
theorem flight_calls {u v : Value} {zs : List S3} {acks : List R} {w : World} (hZ : Lx.Row3 w u zs) (hR : Row w v acks) (now t : Int) (hV : V.Forms w ∧ Cnts w) : Calls Tryz.prog 6 #[u, v, .int .i64 now, .int .i64 t] w fun e w' => e = .returned (.bool true) ∧ Below w.heap.size w w' := by
  have hZ' := hZ
  have hR' := hR
  obtain ⟨uo, uc, rfl, _⟩ := hZ
  obtain ⟨ao, ac, rfl, _⟩ := hR
  cases ht : Tx.timeB t with
  | false => exact flight_time uo ao uc ac zs acks now t w hV hZ' hR' ht
  | true =>
    by_cases hf : Lx.lostF zs acks now (8 * t / 8 + Tx.half (4 * t)) = 0
    · exact flight_yes uo ao uc ac zs acks now t w hV hZ' hR' _ rfl ht hf
    · exact flight_lost uo ao uc ac zs acks now t w hV hZ' hR' _ rfl ht hf
end Go.Proofs.YtoabfilliiopmaaGreatDoor
