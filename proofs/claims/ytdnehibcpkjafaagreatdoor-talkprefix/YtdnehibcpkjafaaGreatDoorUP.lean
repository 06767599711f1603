/- TalkPrefix's walk. -/
import Derived.Test.YtdnehibcpkjafaaGreatDoorUQ
import Derived.Test.YtdnehibcpkjafaaGreatDoorUS
import Derived.Test.YtdnehibcpkjafaaGreatDoorK
import Derived.Test.YtdnehibcpkjafaaGreatDoorGF
import Derived.Deep.LoopGhost
import Derived.Deep.DeepCutAuto
import Derived.Deep.CutBlock
import Derived.Deep.RegionLaw
import Derived.Deep.RegionHeld3
import Derived.BigQuiet
namespace Go.Proofs.YtdnehibcpkjafaaGreatDoor
open Go.RowKit Go.Lib Go.Sort
set_option linter.unusedVariables false
set_option linter.unusedSimpArgs false


open Ar (Texts Ints iat StepsArg TextsArg row_at')
set_option maxRecDepth 100000 in
set_option maxHeartbeats 8000000 in
theorem tprefix_no (n : Int) (v u : Value) (w : World) (hV : (V.Forms w ∧ Cnts w) ∧ Handle w) (hn : Cx.winB n = false) : Calls Tryz.prog 3 #[.int .i64 n, v, u] w fun e w' => e = .returned (.bool true) ∧ Below w.heap.size w w' := by
  have HV : Hid ((V.Forms w ∧ Cnts w) ∧ Handle w) := hV
  have HN : Hid (∀ X, Calls Tryz.prog 6 #[.int .i64 n] X fun ex w' => ex = .returned (.tuple #[.pointer none, .iface 78 (.int .i64 1)]) ∧ Below X.heap.size X w') := fun X => tnew_no n X hn
  have hor : n < 1 ∨ (¬ n < 1 ∧ 1000 < n) := by
    have : ¬ (1 ≤ n ∧ n ≤ 1000) := of_decide_eq_false hn
    omega
  clear hn hV
  go_enter Tryz.func3, Tryz.ntmps3
  go_wp2_with fail
  refine (tnew_yes 10 w fac_win).mono ?_
  rintro e w1 ⟨ob, rfl, ho1, hb1⟩
  have h1 : Tlk w w1 ob (newT 10) := Tlk.new ho1 (Below.refl _ _) hb1
  clear ho1 hb1
  have c1 := tl_write h1 0 abB (show 2 ≤ 140737488351232 by omega)
  rw [fac_s1f, fac_s1, errV_0] at c1
  have HC2 : Hid (∀ X, Tlk w X ob ⟨facX, newE 10, []⟩ → Calls Tryz.prog 8 #[.pointer (some ⟨ob, 0, none⟩), .int .i64 0] X fun e w' => e = .returned .nilIface ∧ Tlk w w' ob ⟨makeS facX, newE 10, [(1, facB)]⟩) := fun X hX => by
    have := tl_send hX 0 (fun _ => fac_make) HV.out.1
    rwa [fac_s2f, fac_s2, errV_0] at this
  have HC3 : Hid (∀ X, Tlk w X ob ⟨makeS facX, newE 10, [(1, facB)]⟩ → Calls Tryz.prog 9 #[.pointer (some ⟨ob, 0, none⟩), .int .i64 0] X fun e w' => e = .returned .nilIface ∧ Tlk w w' ob ⟨makeS facX, (takeP (newE 10) facB).2, []⟩) := fun X hX => by
    have := tl_come hX 0 HV.out.1
    rwa [(come_one _ _ _).1, (come_one _ _ _).2, fac_took, errV_0] at this
  have HC4 : Hid (∀ X, Tlk w X ob ⟨makeS facX, (takeP (newE 10) facB).2, []⟩ → Calls Tryz.prog 10 #[.pointer (some ⟨ob, 0, none⟩), .int .i64 1, .int .i64 9] X fun e w' => e = .returned (.tuple #[.string { data := #[97, 98] }, .nilIface]) ∧ Below w.heap.size w w') := fun X hX => by
    have := tl_read hX 1 9
    rw [(read_one _ _ _).1, (read_one _ _ _).2, fac_readF, fac_readB, errV_0] at this
    exact this.mono fun e w' ⟨a, b⟩ => ⟨a, b.bel⟩
  rw [show abB = { data := #[97, 98] } from rfl] at c1
  have hq : ({ data := #[97, 98] } : ByteArray).toList = [97, 98] := by kernel_rfl
  generalize (⟨facX, newE 10, []⟩ : Tt) = sA at c1 HC2
  generalize (⟨makeS facX, newE 10, [(1, facB)]⟩ : Tt) = sB at HC2 HC3
  generalize (⟨makeS facX, (takeP (newE 10) facB).2, []⟩ : Tt) = sC at HC3 HC4
  clear h1
  go_wp2_with (first | (go_at_call 7; refine c1.mono ?_; rintro e w2 ⟨rfl, h2⟩; clear c1) | (go_at_call 8; refine (HC2.out _ h2).mono ?_; rintro e w3 ⟨rfl, h3⟩; clear HC2) | (go_at_call 9; refine (HC3.out _ h3).mono ?_; rintro e w4 ⟨rfl, h4⟩; clear HC3) | (go_at_call 10; refine (HC4.out _ h4).mono ?_; rintro e w5 ⟨rfl, hb5⟩; clear HC4))
  clear hq h2 h3 h4
  refine (HN.out w5).mono ?_
  rintro e w6 ⟨rfl, hb6⟩
  rcases hor with h1 | ⟨h1, h2⟩
  · go_wp2_with fail
    go_ret
    exact ⟨rfl, hb5.trans (hb6.mono hb5.size)⟩
  · go_wp2_with fail
    go_ret
    exact ⟨rfl, hb5.trans (hb6.mono hb5.size)⟩
set_option maxRecDepth 100000 in
set_option maxHeartbeats 8000000 in
theorem tprefix_yes (n : Int) (ao : Option Addr) (len sc : Nat) (ta : Option Addr) (tl tc : Nat) (w : World) (hV : (V.Forms w ∧ Cnts w) ∧ Handle w) (hS : len = 0 ∨ ∃ b off, ao = some ⟨b, off, none⟩ ∧ Ar.Steps w b off len) (htl : tl ≤ 9223372036854775807) (hT : tl = 0 ∨ ∃ b off, ta = some ⟨b, off, none⟩ ∧ Texts w b off tl) (hn : Cx.winB n = true) : Calls Tryz.prog 3 #[.int .i64 n, .slice ao len sc, .slice ta tl tc] w fun e w' => e = .returned (.bool true) ∧ Below w.heap.size w w' := by
  have HV : Hid ((V.Forms w ∧ Cnts w) ∧ Handle w) := hV
  have HS : Hid (len = 0 ∨ ∃ b off, ao = some ⟨b, off, none⟩ ∧ Ar.Steps w b off len) := hS
  have HTX : Hid (tl = 0 ∨ ∃ b off, ta = some ⟨b, off, none⟩ ∧ Texts w b off tl) := hT
  have HN : Hid (Cx.winB n = true) := hn
  have hz : ∀ W : World, (zeroValue 33).run Tryz.prog W = .ok (.agg #[.string { data := #[] }, .string { data := #[] }]) W := fun W => by kernel_rfl
  have HRN : Hid (Rel n 0 (newT n) { data := #[] } { data := #[] } { data := #[] } { data := #[] }) := Rel.new hn
  clear hn hV hS hT
  go_enter Tryz.func3, Tryz.ntmps3
  go_wp2_with fail
  refine (tnew_yes 10 w fac_win).mono ?_
  rintro e w1 ⟨ob, rfl, ho1, hb1⟩
  have h1 : Tlk w w1 ob (newT 10) := Tlk.new ho1 (Below.refl _ _) hb1
  clear ho1 hb1
  have c1 := tl_write h1 0 abB (show 2 ≤ 140737488351232 by omega)
  rw [fac_s1f, fac_s1, errV_0] at c1
  have HC2 : Hid (∀ X, Tlk w X ob ⟨facX, newE 10, []⟩ → Calls Tryz.prog 8 #[.pointer (some ⟨ob, 0, none⟩), .int .i64 0] X fun e w' => e = .returned .nilIface ∧ Tlk w w' ob ⟨makeS facX, newE 10, [(1, facB)]⟩) := fun X hX => by
    have := tl_send hX 0 (fun _ => fac_make) HV.out.1
    rwa [fac_s2f, fac_s2, errV_0] at this
  have HC3 : Hid (∀ X, Tlk w X ob ⟨makeS facX, newE 10, [(1, facB)]⟩ → Calls Tryz.prog 9 #[.pointer (some ⟨ob, 0, none⟩), .int .i64 0] X fun e w' => e = .returned .nilIface ∧ Tlk w w' ob ⟨makeS facX, (takeP (newE 10) facB).2, []⟩) := fun X hX => by
    have := tl_come hX 0 HV.out.1
    rwa [(come_one _ _ _).1, (come_one _ _ _).2, fac_took, errV_0] at this
  have HC4 : Hid (∀ X, Tlk w X ob ⟨makeS facX, (takeP (newE 10) facB).2, []⟩ → Calls Tryz.prog 10 #[.pointer (some ⟨ob, 0, none⟩), .int .i64 1, .int .i64 9] X fun e w' => e = .returned (.tuple #[.string { data := #[97, 98] }, .nilIface]) ∧ Below w.heap.size w w') := fun X hX => by
    have := tl_read hX 1 9
    rw [(read_one _ _ _).1, (read_one _ _ _).2, fac_readF, fac_readB, errV_0] at this
    exact this.mono fun e w' ⟨a, b⟩ => ⟨a, b.bel⟩
  rw [show abB = { data := #[97, 98] } from rfl] at c1
  have hq : ({ data := #[97, 98] } : ByteArray).toList = [97, 98] := by kernel_rfl
  generalize (⟨facX, newE 10, []⟩ : Tt) = sA at c1 HC2
  generalize (⟨makeS facX, newE 10, [(1, facB)]⟩ : Tt) = sB at HC2 HC3
  generalize (⟨makeS facX, (takeP (newE 10) facB).2, []⟩ : Tt) = sC at HC3 HC4
  clear h1
  go_wp2_with (first | (go_at_call 7; refine c1.mono ?_; rintro e w2 ⟨rfl, h2⟩; clear c1) | (go_at_call 8; refine (HC2.out _ h2).mono ?_; rintro e w3 ⟨rfl, h3⟩; clear HC2) | (go_at_call 9; refine (HC3.out _ h3).mono ?_; rintro e w4 ⟨rfl, h4⟩; clear HC3) | (go_at_call 10; refine (HC4.out _ h4).mono ?_; rintro e w5 ⟨rfl, hb5⟩; clear HC4))
  clear hq h2 h3 h4
  refine (tnew_yes n w5 HN.out).mono ?_
  rintro e w6 ⟨tb, rfl, ho6, hb6⟩
  have hPs := Py.start ho6 hb5 hb6
  go_wp2_with fail
  have HPS : Hid (Py w ((w6.alloc (.cells #[.string { data := #[] }, .string { data := #[] }] 33)).alloc (.cells #[.string { data := #[] }, .string { data := #[] }] 33)) tb w6.heap.size (w6.heap.size + 1) (newT n) { data := #[] } { data := #[] } { data := #[] } { data := #[] }) := hPs
  clear hPs ho6 hb6 hb5 hz
  generalize w6.heap.size + 1 = gb at HPS ⊢
  generalize w6.heap.size = wb at HPS ⊢
  generalize (w6.alloc (.cells #[.string { data := #[] }, .string { data := #[] }] 33)).alloc (.cells #[.string { data := #[] }, .string { data := #[] }] 33) = W0 at HPS ⊢
  go_loopg [18] 40 (fun gk s18 wr => ∃ (k : Nat) (s : Tt) (x0 x1 y0 y1s : ByteArray), gk + k = 40 ∧ s18 = .int .i64 (k : Int) ∧ Hid (Py w wr tb wb gb s x0 x1 y0 y1s) ∧ Hid (Rel n k s x0 x1 y0 y1s))
  case atStart => exact ⟨0, newT n, _, _, _, _, rfl, rfl, HPS, HRN⟩
  case round =>
    clear HPS HRN
    obtain ⟨k, s, x0, x1, y0, y1s, hk, rfl, HPy, HR⟩ := hrel
    have HK : Hid (gk + k = 40) := hk
    clear hk
    by_cases gg : (k : Int) < (len : Int) ∧ (k : Int) < 40
    · obtain ⟨g1, g2⟩ := gg
      obtain ⟨b, off, rfl, hSt⟩ : ∃ b off, ao = some ⟨b, off, none⟩ ∧ Ar.Steps w b off len := by
        rcases HS.out with e | e
        · omega
        · exact e
      have hlen : len ≤ 9223372036854775807 := hSt.2.1
      obtain ⟨ar, cr, zs, hcell, hI⟩ := row_at' hSt (Below.refl _ _) (k := k) (by omega)
      have hzl : zs.length ≤ 9223372036854775807 := hI.1
      have HC : Hid (w.cell? ⟨b, off + k, none⟩ = some (.slice ar zs.length cr)) := hcell
      have hbw : b < w.heap.size := hSt.1
      have HI : Hid (Ints w ar zs) := hI
      have hP0 := HPy.out.new
      clear hSt hcell hI HPy
      go_wp2_with fail
      generalize wr.heap.size = vb at hP0 ⊢
      generalize wr.alloc (.cells #[.int .i64 0, .int .i64 0, .int .i64 0] 34) = W1 at hP0 ⊢
      go_loopg [20] 3 (fun gj s20 wr2 => ∃ (j : Nat) (ys : Nat → Int), gj + j = 3 ∧ s20 = .int .i64 (j : Int) ∧ Pz w wr2 tb wb gb vb s x0 x1 y0 y1s ys)
      case atStart => exact ⟨0, _, rfl, rfl, hP0⟩
      case round =>
        clear hP0
        obtain ⟨j, ys, hj, rfl, hP⟩ := hrel
        have HJ : Hid (gk + j = 3) := hj
        clear hj
        have rc := (hP.bel.cell (p := ⟨b, off + k, none⟩) hbw).trans HC.out
        by_cases q1 : (j : Int) < (zs.length : Int) ∧ (j : Int) < 3
        · obtain ⟨q1, q2⟩ := q1
          obtain ⟨rb, ro, rfl, hrb, hcj⟩ : ∃ rb ro, ar = some ⟨rb, ro, none⟩ ∧ rb < w.heap.size ∧ ∀ j, j < zs.length → w.cell? ⟨rb, ro + j, none⟩ = some (.int .i64 (iat zs j)) := by
            rcases HI.out.2.2 with e | e
            · rw [e] at q1; simp at q1; omega
            · exact e
          have xj := (hP.bel.cell (p := ⟨rb, ro + j, none⟩) hrb).trans (hcj j (by omega))
          generalize iat zs j = z at xj
          clear hcj
          have hP2 := hP.set (show j < 3 by omega) z
          have vc := hP.bv.c j (by omega)
          have vf := hP.bv.f j (by omega)
          go_wp2_with fail
          go_roundg (3 - (j + 1))
          case measure => have := HJ.out; omega
          case rel => exact ⟨j + 1, _, by have := HJ.out; omega, by go_num, hP2⟩
        · go_upto_region 19 with fail
          go_cut [101] (fun s101 wx => s101 = .bool false ∧ wx = wr)
          case first =>
            by_cases q2 : (j : Int) < (zs.length : Int)
            · have q3 : ¬ (j : Int) < 3 := fun e => q1 ⟨q2, e⟩
              clear q1
              go_wp2_with fail
              go_meet
              exact ⟨rfl, rfl⟩
            · clear q1
              go_wp2_with fail
              go_meet
              exact ⟨rfl, rfl⟩
          case rest =>
            obtain ⟨rfl, rfl⟩ := hcut
            clear q1 rc
            go_upto_if 116 with fail
            go_cut [21] (fun s21 wx => ∃ d : ByteArray, s21 = .string d ∧ Hid (d.size ≤ 140737488351232) ∧ wx = wc)
            case first =>
              by_cases t1 : (k : Int) < (tl : Int)
              · obtain ⟨xb, toff, rfl, hTx⟩ : ∃ b off, ta = some ⟨b, off, none⟩ ∧ Texts w b off tl := by
                  rcases HTX.out with e | e
                  · omega
                  · exact e
                obtain ⟨d, hd, hds⟩ := hTx.2 k (by omega)
                have td := (hP.bel.cell (p := ⟨xb, toff + k, none⟩) hTx.1).trans hd
                have HDS : Hid (d.size ≤ 140737488351232) := hds
                clear hd hTx hds hP
                go_wp2_with fail
                go_meet
                exact ⟨d, rfl, HDS, rfl⟩
              · clear hP
                go_wp2_with fail
                go_meet
                exact ⟨_, rfl, (show (ByteArray.mk #[]).size ≤ 140737488351232 by decide), rfl⟩
            case rest =>
            obtain ⟨d, rfl, HD, rfl⟩ := hcut
            have v0 := hP.bv.c 0 (by decide)
            have v1 := hP.bv.c 1 (by decide)
            have v2 := hP.bv.c 2 (by decide)
            obtain ⟨y0v, hy0⟩ : ∃ y, ys 0 = y := ⟨_, rfl⟩
            obtain ⟨y1, hy1⟩ : ∃ y, ys 1 = y := ⟨_, rfl⟩
            obtain ⟨y2, hy2⟩ : ∃ y, ys 2 = y := ⟨_, rfl⟩
            rw [hy0] at v0
            rw [hy1] at v1
            rw [hy2] at v2
            have HY1 : Hid (ys 1 = y1) := hy1
            have HP : Hid (Pz w wc tb wb gb vb s x0 x1 y0 y1s ys) := hP
            clear hy0 hy1 hy2 hP
            have hP := HP
            clear HP
            go_upto_region 25 with fail
            go_cut [22] (fun s22 wx => s22 = .bool (Lk.endB y1) ∧ wx = wc)
            case first =>
              clear hP v0 v2
              by_cases e0 : y1 = 0
              · have HE : Hid (Lk.endB y1 = true) := by show Lk.endB y1 = true; simp [Lk.endB, e0]
                have b0 : (y1 == 0) = true := by simp [e0]
                clear e0
                go_wp2_with fail
                go_meet
                exact ⟨by rw [HE.out], rfl⟩
              · have b0 : (y1 == 0) = false := by simp [e0]
                have HE : Hid (Lk.endB y1 = (y1 == 1)) := by show Lk.endB y1 = (y1 == 1); simp [Lk.endB, e0]; rfl
                clear e0
                go_wp2_with fail
                go_meet
                exact ⟨by rw [HE.out], rfl⟩
            case rest =>
            obtain ⟨rfl, rfl⟩ := hcut
            obtain ⟨who, hwho⟩ : ∃ who, Lk.endB y1 = who := ⟨_, rfl⟩
            have HE : Hid (Lk.endB y1 = who) := hwho
            rw [hwho]
            clear hwho
            have hk40 : k < 40 := by omega
            have hds : d.size ≤ 140737488351232 := HD.out
            go_upto_block 4 with fail
            go_cut [] (fun wx => ∃ (s : Tt) (x0 x1 y0 y1s : ByteArray), Py w wx tb wb gb s x0 x1 y0 y1s ∧ Rel n (k + 1) s x0 x1 y0 y1s)
            case first =>
              by_cases s0 : y0v = 0
              · subst s0
                as_aux_lemma =>
                  by_cases hf : tWriteF s y1 d = 0
                  · have hw : Lk.endB y1 = true := by
                      cases hw : Lk.endB y1 with
                      | true => rfl
                      | false => exfalso; unfold tWriteF at hf; rw [hw, if_neg (by decide)] at hf; cases hf
                    rw [hw] at HE
                    obtain rfl := HE.out
                    rcases end_cases hw with hk | hk
                    · obtain rfl : y1 = 0 := hk
                      have hf0 : writeF s.a d = 0 := hf
                      obtain ⟨hR, hsz⟩ := HR.out.write0 hf0
                      have HRL : Hid (Rel n k (tWriteS s 0 d) (x0 ++ d) x1 y0 y1s) := hR
                      have c1 := pz_write hP.out 0 d HD.out
                      rw [hf, errV_0] at c1
                      clear hf hf0 hR
                      generalize tWriteS s 0 d = s2 at c1 HRL
                      go_upto_region 30 with (go_at_call 7; refine c1.mono ?_; rintro e w11 ⟨rfl, hP11⟩; clear c1 v0 v1 v2)
                      have u1 := (hP11.drew.bv.c 1 (by decide)).trans (by rw [HY1.out])
                      have bc := hP11.drew.bw.c0
                      have bf := hP11.drew.bw.f0
                      have hadd : ∀ W : World, (Op.stringOp .add x0 d).run Tryz.prog W = .ok (.string (x0 ++ d)) W := fun W => run_string_add_sum W _ _ (by omega)
                      have HQ : Hid (Pz w ((w11.setCell ⟨wb, 0, none⟩ (.string (x0 ++ d))).drew) tb wb gb vb s2 (x0 ++ d) x1 y0 y1s ys) := (hP11.wb0 (x0 ++ d)).drew
                      clear hP11
                      go_region
                      all_goals (try go_wp2_with fail)
                      all_goals go_meet
                      all_goals exact ⟨_, _, _, _, _, HQ.out.py, HRL.out.more⟩
                    · obtain rfl : y1 = 1 := hk
                      have hf0 : writeF s.b d = 0 := hf
                      obtain ⟨hR, hsz⟩ := HR.out.write1 hf0
                      have HRL : Hid (Rel n k (tWriteS s 1 d) x0 (x1 ++ d) y0 y1s) := hR
                      have c1 := pz_write hP.out 1 d HD.out
                      rw [hf, errV_0] at c1
                      clear hf hf0 hR
                      generalize tWriteS s 1 d = s2 at c1 HRL
                      go_upto_region 30 with (go_at_call 7; refine c1.mono ?_; rintro e w11 ⟨rfl, hP11⟩; clear c1 v0 v1 v2)
                      have u1 := (hP11.drew.bv.c 1 (by decide)).trans (by rw [HY1.out])
                      have bc := hP11.drew.bw.c1
                      have bf := hP11.drew.bw.f1
                      have hadd : ∀ W : World, (Op.stringOp .add x1 d).run Tryz.prog W = .ok (.string (x1 ++ d)) W := fun W => run_string_add_sum W _ _ (by omega)
                      have HQ : Hid (Pz w ((w11.setCell ⟨wb, 1, none⟩ (.string (x1 ++ d))).drew) tb wb gb vb s2 x0 (x1 ++ d) y0 y1s ys) := (hP11.wb1 (x1 ++ d)).drew
                      clear hP11
                      go_region
                      all_goals (try go_wp2_with fail)
                      all_goals go_meet
                      all_goals exact ⟨_, _, _, _, _, HQ.out.py, HRL.out.more⟩
                  · have hs := tWrite_no hf
                    have c1 := pz_write hP.out y1 d HD.out
                    rw [hs, errV_f hf] at c1
                    clear hs
                    generalize tWriteF s y1 d = ff at c1 hf
                    go_wp2_with fail
                    refine c1.mono ?_
                    rintro e w11 ⟨rfl, hP11⟩
                    clear c1 v0 v1 v2
                    go_wp2_with fail
                    go_meet
                    exact ⟨_, _, _, _, _, hP11.py, HR.out.more⟩
              by_cases s1 : y0v = 1
              · subst s1
                as_aux_lemma =>
                  by_cases hno : Lk.endB y1 = false ∨ y2 < 0
                  · obtain ⟨hf, hs⟩ := tRead_no (s := s) hno
                    have c1 := pz_read hP.out y1 y2
                    rw [hs, hf, errV_f (by decide)] at c1
                    clear hs hf hno
                    generalize tReadB s y1 y2 = bs at c1
                    go_wp2_with fail
                    refine c1.mono ?_
                    rintro e w11 ⟨rfl, hP11⟩
                    clear c1 v0 v1 v2
                    go_wp2_with fail
                    go_meet
                    exact ⟨_, _, _, _, _, hP11.py, HR.out.more⟩
                  · have hw : Lk.endB y1 = true := by
                      cases hw : Lk.endB y1 with
                      | true => rfl
                      | false => exact absurd (.inl hw) hno
                    have hy2 : ¬ y2 < 0 := fun e => hno (.inr e)
                    rw [hw] at HE
                    obtain rfl := HE.out
                    clear hno
                    rcases end_cases hw with hk | hk
                    · obtain rfl : y1 = 0 := hk
                      obtain ⟨hf0, hR, hsz⟩ := HR.out.read0 (m := y2) (by omega)
                      have hsx := HR.out.sizes
                      have hf : tReadF s 0 y2 = 0 := hf0
                      have hbb : tReadB s 0 y2 = readB s.a y2 := rfl
                      have c1 := pz_read hP.out 0 y2
                      rw [hf, errV_0, hbb] at c1
                      obtain ⟨bs, hbs⟩ : ∃ bs, readB s.a y2 = bs := ⟨_, rfl⟩
                      rw [hbs] at c1 hR hsz
                      have HRL : Hid (Rel n k (tReadS s 0 y2) x0 x1 (y0 ++ bs) y1s) := hR
                      clear hf hf0 hR hbb hbs
                      generalize tReadS s 0 y2 = s2 at c1 HRL
                      have hadd : ∀ W : World, (Op.stringOp .add y0 bs).run Tryz.prog W = .ok (.string (y0 ++ bs)) W := fun W => run_string_add_sum W _ _ (by omega)
                      clear hsx hsz
                      go_upto_region 34 with (go_at_call 10; refine c1.mono ?_; rintro e w11 ⟨rfl, hP11⟩; clear c1 v0 v1 v2)
                      have u1 := (hP11.drew.bv.c 1 (by decide)).trans (by rw [HY1.out])
                      have bc := hP11.drew.bg.c0
                      have bf := hP11.drew.bg.f0
                      have HQ : Hid (Pz w ((w11.setCell ⟨gb, 0, none⟩ (.string (y0 ++ bs))).drew) tb wb gb vb s2 x0 x1 (y0 ++ bs) y1s ys) := (hP11.gb0 (y0 ++ bs)).drew
                      clear hP11
                      go_region
                      all_goals (try go_wp2_with fail)
                      all_goals go_meet
                      all_goals exact ⟨_, _, _, _, _, HQ.out.py, HRL.out.more⟩
                    · obtain rfl : y1 = 1 := hk
                      obtain ⟨hf0, hR, hsz⟩ := HR.out.read1 (m := y2) (by omega)
                      have hsx := HR.out.sizes
                      have hf : tReadF s 1 y2 = 0 := hf0
                      have hbb : tReadB s 1 y2 = readB s.b y2 := rfl
                      have c1 := pz_read hP.out 1 y2
                      rw [hf, errV_0, hbb] at c1
                      obtain ⟨bs, hbs⟩ : ∃ bs, readB s.b y2 = bs := ⟨_, rfl⟩
                      rw [hbs] at c1 hR hsz
                      have HRL : Hid (Rel n k (tReadS s 1 y2) x0 x1 y0 (y1s ++ bs)) := hR
                      clear hf hf0 hR hbb hbs
                      generalize tReadS s 1 y2 = s2 at c1 HRL
                      have hadd : ∀ W : World, (Op.stringOp .add y1s bs).run Tryz.prog W = .ok (.string (y1s ++ bs)) W := fun W => run_string_add_sum W _ _ (by omega)
                      clear hsx hsz
                      go_upto_region 34 with (go_at_call 10; refine c1.mono ?_; rintro e w11 ⟨rfl, hP11⟩; clear c1 v0 v1 v2)
                      have u1 := (hP11.drew.bv.c 1 (by decide)).trans (by rw [HY1.out])
                      have bc := hP11.drew.bg.c1
                      have bf := hP11.drew.bg.f1
                      have HQ : Hid (Pz w ((w11.setCell ⟨gb, 1, none⟩ (.string (y1s ++ bs))).drew) tb wb gb vb s2 x0 x1 y0 (y1s ++ bs) ys) := (hP11.gb1 (y1s ++ bs)).drew
                      clear hP11
                      go_region
                      all_goals (try go_wp2_with fail)
                      all_goals go_meet
                      all_goals exact ⟨_, _, _, _, _, HQ.out.py, HRL.out.more⟩
              by_cases s2 : y0v = 2
              · subst s2
                as_aux_lemma =>
                  have c1 := pz_send hP.out y1 (fun hw => HR.out.made (by omega) hw) HV.out.1
                  have HRL := HR.out.send (by omega) y1
                  generalize errV (tSendF s y1) = er at c1
                  generalize tSendS s y1 = s2 at c1 HRL
                  go_wp2_with fail
                  refine c1.mono ?_
                  rintro e w11 ⟨rfl, hP11⟩
                  clear c1 v0 v1 v2
                  go_wp2_with fail
                  go_meet
                  exact ⟨_, _, _, _, _, hP11.py, HRL⟩
              by_cases s3 : y0v = 3
              · subst s3
                as_aux_lemma =>
                  have c1 := pz_send hP.out y1 (fun hw => HR.out.made (by omega) hw) HV.out.1
                  have HRL := HR.out.send (by omega) y1
                  generalize errV (tSendF s y1) = er at c1
                  generalize tSendS s y1 = s2 at c1 HRL
                  go_wp2_with fail
                  refine c1.mono ?_
                  rintro e w11 ⟨rfl, hP11⟩
                  clear c1 v0 v1 v2
                  go_wp2_with fail
                  go_meet
                  exact ⟨_, _, _, _, _, hP11.py, HRL⟩
              by_cases s4 : y0v = 4
              · subst s4
                as_aux_lemma =>
                  have c1 := pz_come hP.out y1 HV.out.1
                  have HRL := HR.out.come (by omega) y1
                  generalize errV (tComeF s y1) = er at c1
                  generalize tComeS s y1 = s2 at c1 HRL
                  go_wp2_with fail
                  refine c1.mono ?_
                  rintro e w11 ⟨rfl, hP11⟩
                  clear c1 v0 v1 v2
                  go_wp2_with fail
                  go_meet
                  exact ⟨_, _, _, _, _, hP11.py, HRL.more⟩
              by_cases s5 : y0v = 5
              · subst s5
                as_aux_lemma =>
                  have c1 := pz_come hP.out y1 HV.out.1
                  have HRL := HR.out.come (by omega) y1
                  generalize errV (tComeF s y1) = er at c1
                  generalize tComeS s y1 = s2 at c1 HRL
                  go_wp2_with fail
                  refine c1.mono ?_
                  rintro e w11 ⟨rfl, hP11⟩
                  clear c1 v0 v1 v2
                  go_wp2_with fail
                  go_meet
                  exact ⟨_, _, _, _, _, hP11.py, HRL.more⟩
              by_cases s6 : y0v = 6
              · subst s6
                as_aux_lemma =>
                  have c1 := pz_lose hP.out y1
                  have HRL := HR.out.lose y1
                  generalize errV (Lk.giveF s.ls y1) = er at c1
                  generalize tLoseS s y1 = s2 at c1 HRL
                  go_wp2_with fail
                  refine c1.mono ?_
                  rintro e w11 ⟨rfl, hP11⟩
                  clear c1 v0 v1 v2
                  go_wp2_with fail
                  go_meet
                  exact ⟨_, _, _, _, _, hP11.py, HRL.more⟩
              · as_aux_lemma =>
                  have c1 := pz_twice hP.out y1
                  have HRL := HR.out.twice y1
                  generalize errV (Lk.twF s.ls y1) = er at c1
                  generalize tTwiceS s y1 = s2 at c1 HRL
                  go_wp2_with fail
                  refine c1.mono ?_
                  rintro e w11 ⟨rfl, hP11⟩
                  clear c1 v0 v1 v2
                  go_wp2_with fail
                  go_meet
                  exact ⟨_, _, _, _, _, hP11.py, HRL.more⟩
            case rest =>
              clear v0 v1 v2 hP HR
              obtain ⟨s, x0, x1, y0, y1s, hPy, hRl⟩ := hcut
              have HR : Hid (Rel n (k + 1) s x0 x1 y0 y1s) := hRl
              have HSZ := HR.out.sizes
              have HSZ : Hid (x0.size ≤ 60 ∧ x1.size ≤ 60 ∧ y0.size ≤ x1.size ∧ y1s.size ≤ x0.size ∧ x1.extract 0 y0.size = y0 ∧ x0.extract 0 y1s.size = y1s) := HSZ
              have HP0 : Hid (Py w wc tb wb gb s x0 x1 y0 y1s) := hPy
              clear hPy hRl
              go_wp2_with fail
              go_loopg [25] 2 (fun gj s25 wr2 => ∃ j : Nat, gj + j = 2 ∧ s25 = .int .i64 (j : Int) ∧ Hid (Py w wr2 tb wb gb s x0 x1 y0 y1s))
              case atStart => exact ⟨0, rfl, rfl, HP0⟩
              case round =>
                clear HP0
                obtain ⟨j, hj, rfl, hP⟩ := hrel
                obtain rfl | rfl | rfl : j = 0 ∨ j = 1 ∨ j = 2 := by omega
                · have g : (((0 : Nat) : Int)) < 2 := by omega
                  have bw := hP.out.bw.c1
                  have bg := hP.out.bg.c0
                  obtain ⟨z1, z2, z3, z4, z5, z6⟩ := HSZ.out
                  have hle : ¬ (x1.size : Int) < (y0.size : Int) := by omega
                  have hsl := fun W => run_upto x1 y0.size (by omega) (by omega) W
                  rw [z5] at hsl
                  clear z1 z2 z3 z4 z5 z6
                  go_upto_region 47 with fail
                  go_quiet (fail)
                  go_wp2_with fail
                  go_roundg 1
                  case measure => omega
                  case rel => exact ⟨1, by omega, rfl, hP.out.below (below_drewN (Below.refl _ _) _)⟩
                · have g : (((1 : Nat) : Int)) < 2 := by omega
                  have bw := hP.out.bw.c0
                  have bg := hP.out.bg.c1
                  obtain ⟨z1, z2, z3, z4, z5, z6⟩ := HSZ.out
                  have hle : ¬ (x0.size : Int) < (y1s.size : Int) := by omega
                  have hsl := fun W => run_upto x0 y1s.size (by omega) (by omega) W
                  rw [z6] at hsl
                  clear z1 z2 z3 z4 z5 z6
                  go_upto_region 47 with fail
                  go_quiet (fail)
                  go_wp2_with fail
                  go_roundg 0
                  case measure => omega
                  case rel => exact ⟨2, by omega, rfl, hP.out.below (below_drewN (Below.refl _ _) _)⟩
                · have g : ¬ (((2 : Nat) : Int)) < 2 := by omega
                  go_wp2_with fail
                  go_roundg (40 - (k + 1))
                  case measure => have := HK.out; omega
                  case rel => exact ⟨k + 1, s, x0, x1, y0, y1s, by have := HK.out; omega, by go_num, hP, HR⟩
    · go_upto_region 15 with fail
      go_cut [88] (fun s88 wx => s88 = .bool false ∧ wx = wr)
      case first =>
        by_cases q2 : (k : Int) < (len : Int)
        · have q3 : ¬ (k : Int) < 40 := fun e => gg ⟨q2, e⟩
          clear gg
          go_wp2_with fail
          go_meet
          exact ⟨rfl, rfl⟩
        · clear gg
          go_wp2_with fail
          go_meet
          exact ⟨rfl, rfl⟩
      case rest =>
        obtain ⟨rfl, rfl⟩ := hcut
        clear gg
        obtain ⟨m, hm⟩ : ∃ m, s.ls.length = m := ⟨_, rfl⟩
        have HM : Hid (s.ls.length = m) := hm
        have HRK : Hid (Rel n k s x0 x1 y0 y1s ∧ k ≤ 40) := ⟨HR.out, by have := HK.out; omega⟩
        clear hm HR HK
        go_wp2_with fail
        go_loopg [] m (fun gk wr2 => ∃ s2, Hid (s2.ls.length = gk) ∧ Hid (Py w wr2 tb wb gb s2 x0 x1 y0 y1s) ∧ Hid (Rel n k s2 x0 x1 y0 y1s))
        case atStart => exact ⟨s, HM, HPy, HRK.out.1⟩
        case round =>
          obtain ⟨s2, HL, HP, HR⟩ := hrel
          clear HM HPy
          have cc := py_count HP.out
          by_cases g0 : s2.ls.length = 0
          · rw [g0] at cc
            have hl0 : s2.ls = [] := List.eq_nil_of_length_eq_zero g0
            have HRn : Hid (Rnd n 0 s2 x0 x1 y0 y1s) := Rnd.start HR.out HRK.out.2 hl0
            clear HR HL g0 hl0
            go_wp2_with (go_at_call 13; refine cc.mono ?_; rintro e w20 ⟨rfl, hw20⟩; obtain rfl := hw20.symm; clear cc)
            go_loopg [27] 130 (fun gi s27 wr2 => ∃ (i : Nat) (s : Tt) (y0 y1s : ByteArray), gi + i = 130 ∧ s27 = .int .i64 (i : Int) ∧ Hid (Py w wr2 tb wb gb s x0 x1 y0 y1s) ∧ Hid (Rnd n i s x0 x1 y0 y1s))
            case atStart => exact ⟨0, s2, y0, y1s, rfl, rfl, HP, HRn⟩
            case round =>
              clear HP HRn
              obtain ⟨i, s, y0, y1s, hi, rfl, HP, HQ0⟩ := hrel
              have HI : Hid (gk + i = 130) := hi
              clear hi
              by_cases g1 : (i : Int) < 130
              · go_wp2_with fail
                go_loopg [28] 2 (fun gj s28 wr3 => (gj = 2 ∧ s28 = .int .i64 0 ∧ ∃ (s : Tt) (y0 y1s : ByteArray), Py w wr3 tb wb gb s x0 x1 y0 y1s ∧ Rnd n i s x0 x1 y0 y1s) ∨ (gj = 1 ∧ s28 = .int .i64 1 ∧ ∃ (s : Tt) (y0 y1s : ByteArray), Py w wr3 tb wb gb s x0 x1 y0 y1s ∧ Mid n i s x0 x1 y0 y1s) ∨ (gj = 0 ∧ s28 = .int .i64 2 ∧ ∃ (s : Tt) (y0 y1s : ByteArray), Py w wr3 tb wb gb s x0 x1 y0 y1s ∧ Rnd n (i + 1) s x0 x1 y0 y1s))
                case atStart => exact .inl ⟨rfl, rfl, s, y0, y1s, HP.out, HQ0.out⟩
                case round =>
                  clear HP HQ0
                  rcases hrel with ⟨rfl, rfl, s, y0, y1s, hp, hq⟩ | ⟨rfl, rfl, s, y0, y1s, hp, hq⟩ | ⟨rfl, rfl, s, y0, y1s, hp, hq⟩
                  · have hP : Hid (Py w wr tb wb gb s x0 x1 y0 y1s) := hp
                    have HQ : Hid (Rnd n i s x0 x1 y0 y1s) := hq
                    clear hp hq
                    as_aux_lemma =>
                      obtain ⟨hls, hmk, hor⟩ := HQ.out.one (by omega)
                      have hsf : tSendF s 0 = 0 := by unfold tSendF; rw [if_pos (show Lk.endB 0 = true from rfl), hls]; rfl
                      have hss : tSendS s 0 = ⟨makeS s.a, s.b, [(1, makeB s.a)]⟩ := by unfold tSendS; rw [if_pos hsf, hls]; rfl
                      have c1 := py_send hP.out 0 (fun _ => hmk) HV.out.1
                      rw [hsf, hss, errV_0] at c1
                      have HC2 : Hid (∀ X, Py w X tb wb gb ⟨makeS s.a, s.b, [(1, makeB s.a)]⟩ x0 x1 y0 y1s → Calls Tryz.prog 9 #[.pointer (some ⟨tb, 0, none⟩), .int .i64 0] X fun e w' => e = .returned (errV (takeP s.b (makeB s.a)).1) ∧ Py w w' tb wb gb ⟨makeS s.a, (takeP s.b (makeB s.a)).2, []⟩ x0 x1 y0 y1s) := fun X hX => py_come hX 0 HV.out.1
                      have HC3 : Hid (∀ X, Py w X tb wb gb ⟨makeS s.a, (takeP s.b (makeB s.a)).2, []⟩ x0 x1 y0 y1s → Calls Tryz.prog 10 #[.pointer (some ⟨tb, 0, none⟩), .int .i64 1, .int .i64 60] X fun e w' => e = .returned (.tuple #[.string (readB (takeP s.b (makeB s.a)).2 60), errV (readF (takeP s.b (makeB s.a)).2 60)]) ∧ Py w w' tb wb gb ⟨makeS s.a, readS (takeP s.b (makeB s.a)).2 60, []⟩ x0 x1 y0 y1s) := fun X hX => py_read hX 1 60
                      clear hsf hss hmk hls
                      generalize (⟨makeS s.a, s.b, [(1, makeB s.a)]⟩ : Tt) = sA at c1 HC2
                      generalize (⟨makeS s.a, (takeP s.b (makeB s.a)).2, []⟩ : Tt) = sB at HC2 HC3
                      rcases hor with e4 | ⟨e0, f0, hnx, hsz⟩
                      · rw [e4, errV_f (by decide)] at HC2
                        generalize (⟨makeS s.a, readS (takeP s.b (makeB s.a)).2 60, []⟩ : Tt) = sC at HC3
                        generalize readB (takeP s.b (makeB s.a)).2 60 = bs at HC3
                        generalize errV (readF (takeP s.b (makeB s.a)).2 60) = er at HC3
                        clear e4
                        go_wp2_with (first | (go_at_call 8; refine c1.mono ?_; rintro e w21 ⟨rfl, h21⟩; clear c1) | (go_at_call 9; refine (HC2.out _ h21).mono ?_; rintro e w22 ⟨rfl, h22⟩; clear HC2 h21) | (go_at_call 10; refine (HC3.out _ h22).mono ?_; rintro e w23 ⟨rfl, h23⟩; clear HC3 h22) | (go_at_call 14; refine (same_err 4 4 _ (HV.out.2.below h23.bel)).mono ?_; rintro e w24 ⟨rfl, hb24⟩))
                        go_ret
                        exact ⟨rfl, h23.bel.trans (hb24.mono h23.bel.size)⟩
                      · rw [e0, errV_0] at HC2
                        rw [f0, errV_0] at HC3
                        obtain ⟨bs, hbs⟩ : ∃ bs, readB (takeP s.b (makeB s.a)).2 60 = bs := ⟨_, rfl⟩
                        rw [hbs] at HC3 hnx hsz
                        have HN : Hid (Mid n i ⟨makeS s.a, readS (takeP s.b (makeB s.a)).2 60, []⟩ x0 x1 y0 (y1s ++ bs)) := hnx
                        clear e0 f0 hbs hnx
                        generalize (⟨makeS s.a, readS (takeP s.b (makeB s.a)).2 60, []⟩ : Tt) = sC at HC3 HN
                        have hadd : ∀ W : World, (Op.stringOp .add y1s bs).run Tryz.prog W = .ok (.string (y1s ++ bs)) W := fun W => run_string_add_sum W _ _ (by omega)
                        clear hsz
                        go_wp2_with (first | (go_at_call 8; refine c1.mono ?_; rintro e w21 ⟨rfl, h21⟩; clear c1) | (go_at_call 9; refine (HC2.out _ h21).mono ?_; rintro e w22 ⟨rfl, h22⟩; clear HC2 h21) | (go_at_call 10; refine (HC3.out _ h22).mono ?_; rintro e w23 ⟨rfl, h23⟩; have bc := h23.bg.c1; have bf := h23.bg.f1; clear HC3 h22))
                        go_roundg 1
                        case measure => omega
                        case rel => exact .inr (.inl ⟨rfl, rfl, _, _, _, h23.gb1 _, HN.out⟩)
                  · have hP : Hid (Py w wr tb wb gb s x0 x1 y0 y1s) := hp
                    have HQ : Hid (Mid n i s x0 x1 y0 y1s) := hq
                    clear hp hq
                    as_aux_lemma =>
                      obtain ⟨hls, hmk, hor⟩ := HQ.out
                      have hsf : tSendF s 1 = 0 := by unfold tSendF; rw [if_pos (show Lk.endB 1 = true from rfl), hls]; rfl
                      have hss : tSendS s 1 = ⟨s.a, makeS s.b, [(0, makeB s.b)]⟩ := by unfold tSendS; rw [if_pos hsf, hls]; rfl
                      have c1 := py_send hP.out 1 (fun _ => hmk) HV.out.1
                      rw [hsf, hss, errV_0] at c1
                      have HC2 : Hid (∀ X, Py w X tb wb gb ⟨s.a, makeS s.b, [(0, makeB s.b)]⟩ x0 x1 y0 y1s → Calls Tryz.prog 9 #[.pointer (some ⟨tb, 0, none⟩), .int .i64 0] X fun e w' => e = .returned (errV (takeP s.a (makeB s.b)).1) ∧ Py w w' tb wb gb ⟨(takeP s.a (makeB s.b)).2, makeS s.b, []⟩ x0 x1 y0 y1s) := fun X hX => py_come hX 0 HV.out.1
                      have HC3 : Hid (∀ X, Py w X tb wb gb ⟨(takeP s.a (makeB s.b)).2, makeS s.b, []⟩ x0 x1 y0 y1s → Calls Tryz.prog 10 #[.pointer (some ⟨tb, 0, none⟩), .int .i64 0, .int .i64 60] X fun e w' => e = .returned (.tuple #[.string (readB (takeP s.a (makeB s.b)).2 60), errV (readF (takeP s.a (makeB s.b)).2 60)]) ∧ Py w w' tb wb gb ⟨readS (takeP s.a (makeB s.b)).2 60, makeS s.b, []⟩ x0 x1 y0 y1s) := fun X hX => py_read hX 0 60
                      clear hsf hss hmk hls
                      generalize (⟨s.a, makeS s.b, [(0, makeB s.b)]⟩ : Tt) = sA at c1 HC2
                      generalize (⟨(takeP s.a (makeB s.b)).2, makeS s.b, []⟩ : Tt) = sB at HC2 HC3
                      rcases hor with e4 | ⟨e0, f0, hnx, hsz⟩
                      · rw [e4, errV_f (by decide)] at HC2
                        generalize (⟨readS (takeP s.a (makeB s.b)).2 60, makeS s.b, []⟩ : Tt) = sC at HC3
                        generalize readB (takeP s.a (makeB s.b)).2 60 = bs at HC3
                        generalize errV (readF (takeP s.a (makeB s.b)).2 60) = er at HC3
                        clear e4
                        go_wp2_with (first | (go_at_call 8; refine c1.mono ?_; rintro e w21 ⟨rfl, h21⟩; clear c1) | (go_at_call 9; refine (HC2.out _ h21).mono ?_; rintro e w22 ⟨rfl, h22⟩; clear HC2 h21) | (go_at_call 10; refine (HC3.out _ h22).mono ?_; rintro e w23 ⟨rfl, h23⟩; clear HC3 h22) | (go_at_call 14; refine (same_err 4 4 _ (HV.out.2.below h23.bel)).mono ?_; rintro e w24 ⟨rfl, hb24⟩))
                        go_ret
                        exact ⟨rfl, h23.bel.trans (hb24.mono h23.bel.size)⟩
                      · rw [e0, errV_0] at HC2
                        rw [f0, errV_0] at HC3
                        obtain ⟨bs, hbs⟩ : ∃ bs, readB (takeP s.a (makeB s.b)).2 60 = bs := ⟨_, rfl⟩
                        rw [hbs] at HC3 hnx hsz
                        have HN : Hid (Rnd n (i + 1) ⟨readS (takeP s.a (makeB s.b)).2 60, makeS s.b, []⟩ x0 x1 (y0 ++ bs) y1s) := hnx
                        clear e0 f0 hbs hnx
                        generalize (⟨readS (takeP s.a (makeB s.b)).2 60, makeS s.b, []⟩ : Tt) = sC at HC3 HN
                        have hadd : ∀ W : World, (Op.stringOp .add y0 bs).run Tryz.prog W = .ok (.string (y0 ++ bs)) W := fun W => run_string_add_sum W _ _ (by omega)
                        clear hsz
                        go_wp2_with (first | (go_at_call 8; refine c1.mono ?_; rintro e w21 ⟨rfl, h21⟩; clear c1) | (go_at_call 9; refine (HC2.out _ h21).mono ?_; rintro e w22 ⟨rfl, h22⟩; clear HC2 h21) | (go_at_call 10; refine (HC3.out _ h22).mono ?_; rintro e w23 ⟨rfl, h23⟩; have bc := h23.bg.c0; have bf := h23.bg.f0; clear HC3 h22))
                        go_roundg 0
                        case measure => omega
                        case rel => exact .inr (.inr ⟨rfl, rfl, _, _, _, h23.gb0 _, HN.out⟩)
                  · have HP : Hid (Py w wr tb wb gb s x0 x1 y0 y1s) := hp
                    have HQ : Hid (Rnd n (i + 1) s x0 x1 y0 y1s) := hq
                    clear hp hq
                    go_wp2_with fail
                    go_roundg (130 - (i + 1))
                    case measure => have := HI.out; omega
                    case rel => exact ⟨i + 1, s, y0, y1s, by have := HI.out; omega, by go_num, HP, HQ⟩
              · obtain rfl : i = 130 := by have := HI.out; omega
                obtain ⟨e0, e1⟩ := HQ0.out.all
                subst e0 e1
                have b0 := HP.out.bw.c0
                have b1 := HP.out.bw.c1
                have b2 := HP.out.bg.c0
                have b3 := HP.out.bg.c1
                go_wp2_with fail
                go_ret
                exact ⟨by simp, HP.out.bel⟩
          · have hon : Lk.onB s2.ls 0 = true := decide_eq_true (by omega)
            have hgf : Lk.giveF s2.ls 0 = 0 := if_pos hon
            have hgs : (tLoseS s2 0).ls.length = s2.ls.length - 1 := by
              show (Lk.giveS s2.ls 0).length = _
              rw [Lk.giveS_yes hon]
              exact Lk.cut1_length (by omega)
            have c1 := py_lose HP.out 0
            rw [hgf, errV_0] at c1
            have HR2 : Hid (Rel n k (tLoseS s2 0) x0 x1 y0 y1s) := HR.out.lose 0
            have HL2 : Hid ((tLoseS s2 0).ls.length = gk - 1 ∧ 0 < gk) := ⟨by rw [hgs, HL.out], by have := HL.out; omega⟩
            have g1 : (0 : Int) < (s2.ls.length : Int) := by omega
            clear hon hgf hgs g0 HL HR HP
            generalize tLoseS s2 0 = s3 at c1 HR2 HL2
            generalize s2.ls.length = m2 at cc g1
            go_wp2_with (first | (go_at_call 13; refine cc.mono ?_; rintro e w20 ⟨rfl, hw20⟩; obtain rfl := hw20.symm; clear cc) | (go_at_call 11; refine c1.mono ?_; rintro e w21 ⟨rfl, h21⟩; clear c1))
            go_roundg (gk - 1)
            case measure => have := HL2.out.2; omega
            case rel => exact ⟨s3, HL2.out.1, h21, HR2⟩
theorem tprefix_calls (n : Int) {v u : Value} {w : World} (hv : StepsArg w v) (hu : TextsArg w u) (hV : (V.Forms w ∧ Cnts w) ∧ Handle w) : Calls Tryz.prog 3 #[.int .i64 n, v, u] w fun e w' => e = .returned (.bool true) ∧ Below w.heap.size w w' := by
  obtain ⟨ao, len, c, rfl, hS⟩ := hv
  obtain ⟨ta, tl, tc, rfl, htl, hT⟩ := hu
  cases h : Cx.winB n with
  | true => exact tprefix_yes n ao len c ta tl tc w hV hS htl hT h
  | false => exact tprefix_no n _ _ w hV h
end Go.Proofs.YtdnehibcpkjafaaGreatDoor
