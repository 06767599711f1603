/- The walk of the law StreamOrder. -/
import Derived.Test.YtipmaphgkfegmaaDoorU
import Derived.Test.YtipmaphgkfegmaaDoorP
import Derived.Test.YtipmaphgkfegmaaDoorK
import Derived.Deep.CutBlock
namespace Go.Proofs.YtipmaphgkfegmaaDoor
open Go.RowKit Go.Lib Go.Sort
set_option linter.unusedVariables false
set_option linter.unusedSimpArgs false

abbrev cdB : ByteArray := ⟨#[99, 100]⟩
abbrev abcB : ByteArray := ⟨#[97, 98, 99]⟩
theorem lit1 : putF newS 2 cdB = 0 := by decide
theorem lit2 : strOfNums (takeL (putS newS 2 cdB) 9) = ⟨#[]⟩ := by rw [show takeL (putS newS 2 cdB) 9 = [] by decide]; rfl
theorem lit3 : putF (takeS (putS newS 2 cdB) 9) 0 abcB = 0 := by decide
theorem lit4 : strOfNums (takeL (putS (takeS (putS newS 2 cdB) 9) 0 abcB) 9) = ⟨#[97, 98, 99, 100]⟩ := by rw [show takeL (putS (takeS (putS newS 2 cdB) 9) 0 abcB) 9 = [97, 98, 99, 100] by decide]; rfl

set_option maxRecDepth 100000 in
set_option maxHeartbeats 8000000 in
theorem order_long (t : ByteArray) (v : Value) (w : World) (hH : Handle w) (ht : 60 < t.size) (hd : t.size ≤ 140737488351232) : Calls Tryd.prog 3 #[.string t, v] w fun e w' => e = .returned (.bool true) ∧ Below w.heap.size w w' := by
  go_enter Tryd.func3, Tryd.ntmps3
  go_wp2_with fail
  refine (new_one (Below.refl w.heap.size w)).mono ?_
  rintro e w1 ⟨sb1, rfl, h1⟩
  have c1 := put_one h1 2 cdB (by decide)
  rw [lit1, errV_0] at c1
  go_wp2_with fail
  refine c1.mono ?_
  rintro e w2 ⟨rfl, h2⟩
  clear c1 h1
  have c1 := take_one h2 9 (by decide)
  rw [lit2] at c1
  go_wp2_with fail
  refine c1.mono ?_
  rintro e w3 ⟨rfl, h3⟩
  clear c1 h2
  have c1 := put_one h3 0 abcB (by decide)
  rw [lit3, errV_0] at c1
  go_wp2_with fail
  refine c1.mono ?_
  rintro e w4 ⟨rfl, h4⟩
  clear c1 h3
  have c1 := take_one h4 9 (by decide)
  rw [lit4] at c1
  go_wp2_with fail
  refine c1.mono ?_
  rintro e w5 ⟨rfl, h5⟩
  clear c1 h4
  have q : (60 : Int) < (t.size : Int) := by omega
  have c1 := put_one h5 0 t hd
  rw [putF_full (by decide) (by omega), errV_f (by decide)] at c1
  go_wp2_with fail
  refine c1.mono ?_
  rintro e w6 ⟨rfl, h6⟩
  clear c1 h5
  go_wp2_with fail
  refine (same_err 4 4 _ (hH.below h6.bel)).mono ?_
  rintro e w7 ⟨rfl, hb7⟩
  have hb := (h6.below hb7).bel
  clear h6 hb7
  go_wp2_with fail
  go_ret
  exact ⟨by simp, hb⟩

set_option maxRecDepth 100000 in
set_option maxHeartbeats 8000000 in
theorem order_short (t : ByteArray) (ao : Option Addr) (len sc : Nat) (w : World) (ht : t.size ≤ 60) (hS : len = 0 ∨ ∃ b off, ao = some ⟨b, off, none⟩ ∧ Steps w b off len) : Calls Tryd.prog 3 #[.string t, .slice ao len sc] w fun e w' => e = .returned (.bool true) ∧ Below w.heap.size w w' := by
  have HS : Hid (len = 0 ∨ ∃ b off, ao = some ⟨b, off, none⟩ ∧ Steps w b off len) := hS
  clear hS
  have q : ¬ ((60 : Int) < (t.size : Int)) := by omega
  go_enter Tryd.func3, Tryd.ntmps3
  go_wp2_with fail
  refine (new_one (Below.refl w.heap.size w)).mono ?_
  rintro e w1 ⟨sb1, rfl, h1⟩
  have c1 := put_one h1 2 cdB (by decide)
  rw [lit1, errV_0] at c1
  go_wp2_with fail
  refine c1.mono ?_
  rintro e w2 ⟨rfl, h2⟩
  clear c1 h1
  have c1 := take_one h2 9 (by decide)
  rw [lit2] at c1
  go_wp2_with fail
  refine c1.mono ?_
  rintro e w3 ⟨rfl, h3⟩
  clear c1 h2
  have c1 := put_one h3 0 abcB (by decide)
  rw [lit3, errV_0] at c1
  go_wp2_with fail
  refine c1.mono ?_
  rintro e w4 ⟨rfl, h4⟩
  clear c1 h3
  have c1 := take_one h4 9 (by decide)
  rw [lit4] at c1
  go_wp2_with fail
  refine c1.mono ?_
  rintro e w5 ⟨rfl, h5⟩
  clear c1 h4
  have hb5 := h5.bel
  clear h5
  go_wp2_with fail
  refine (new_one hb5).mono ?_
  rintro e w6 ⟨sb, rfl, h6⟩
  clear hb5 q
  have hg0 : t.extract 0 newS.tk = ⟨#[]⟩ := by
    apply ByteArray.ext
    simp [newS]
  go_wp2_with fail
  go_loopg [14, 15] 60 (fun gk s14 s15 wr => ∃ (k : Nat) (s : St), gk + k = 60 ∧ s14 = .string (t.extract 0 s.tk) ∧ s15 = .int .i64 k ∧ One w wr sb s ∧ Good t s)
  case atStart => exact ⟨0, newS, rfl, by rw [hg0], rfl, h6, Good.new t⟩
  case round =>
    clear h6 hg0
    obtain ⟨k, s, hk, rfl, rfl, hE, hG⟩ := hrel
    have HK : Hid (gk + k = 60) := hk
    clear hk
    by_cases g1 : (k : Int) < (len : Int) ∧ (k : Int) < 60
    · obtain ⟨g1, g2⟩ := g1
      · obtain ⟨b, off, rfl, hSt⟩ : ∃ b off, ao = some ⟨b, off, none⟩ ∧ Steps w b off len := by
          rcases HS.out with e | e
          · omega
          · exact e
        have hlen : len ≤ 9223372036854775807 := hSt.2.1
        obtain ⟨ar, cr, zs, hcell, hI⟩ := row_at' hSt (Below.refl _ _) (k := k) (by omega)
        have hzl : zs.length ≤ 9223372036854775807 := hI.1
        have HC : Hid (w.cell? ⟨b, off + k, none⟩ = some (.slice ar zs.length cr)) := hcell
        have hbw : b < w.heap.size := hSt.1
        have HI : Hid (Ints w ar zs) := hI
        clear hSt hcell hI
        have HG : Hid (Good t s) := hG
        clear hG
        by_cases l3 : zs.length = 3
        · obtain ⟨rb, ro, rfl, hrb, hcj⟩ : ∃ rb ro, ar = some ⟨rb, ro, none⟩ ∧ rb < w.heap.size ∧ ∀ j, j < zs.length → w.cell? ⟨rb, ro + j, none⟩ = some (.int .i64 (iat zs j)) := by
            rcases HI.out.2.2 with e | e
            · rw [e] at l3; simp at l3
            · exact e
          have X0 : Hid (w.cell? ⟨rb, ro, none⟩ = some (.int .i64 (iat zs 0))) := hcj 0 (by omega)
          have X1 : Hid (w.cell? ⟨rb, ro + 1, none⟩ = some (.int .i64 (iat zs 1))) := hcj 1 (by omega)
          have X2 : Hid (w.cell? ⟨rb, ro + 2, none⟩ = some (.int .i64 (iat zs 2))) := hcj 2 (by omega)
          rw [l3] at HC
          clear hcj HI
          generalize iat zs 0 = z0 at X0
          generalize iat zs 1 = z1 at X1
          generalize iat zs 2 = z2 at X2
          clear l3
          have rc := (hE.bel.cell (p := ⟨b, off + k, none⟩) hbw).trans HC.out
          have x0 := (hE.bel.cell (p := ⟨rb, ro, none⟩) hrb).trans X0.out
          have x1 := (hE.bel.cell (p := ⟨rb, ro + 1, none⟩) hrb).trans X1.out
          by_cases a0 : z0 < 0
          · go_wp2_with fail
            go_roundg (60 - (k + 1))
            case measure => have := HK.out; omega
            case rel => exact ⟨k + 1, s, by have := HK.out; omega, rfl, by go_num, hE, HG.out⟩
          · by_cases a1 : z1 < z0
            · go_wp2_with fail
              go_roundg (60 - (k + 1))
              case measure => have := HK.out; omega
              case rel => exact ⟨k + 1, s, by have := HK.out; omega, rfl, by go_num, hE, HG.out⟩
            · by_cases a2 : (t.size : Int) < z1
              · go_wp2_with fail
                go_roundg (60 - (k + 1))
                case measure => have := HK.out; omega
                case rel => exact ⟨k + 1, s, by have := HK.out; omega, rfl, by go_num, hE, HG.out⟩
              · obtain ⟨f, rfl⟩ : ∃ f : Nat, z0 = (f : Int) := ⟨z0.toNat, by omega⟩
                obtain ⟨u, rfl⟩ : ∃ u : Nat, z1 = (u : Int) := ⟨z1.toNat, by omega⟩
                have hsl : ∀ w, (Instr.slice 9 (.string t) (some (.int .i64 (f : Int))) (some (.int .i64 (u : Int))) none).run Tryd.prog w = .ok (.string (t.extract f u)) w := fun w => run_slice_string w 9 t .i64 .i64 f u Tryd.underlying9 (by omega) (by omega) (by omega)
                have c1 := put_good hE HG.out ht f u (by omega) (by omega)
                generalize t.extract f u = d at hsl c1
                go_wp2_with fail
                refine c1.mono ?_
                rintro e w11 ⟨rfl, s', hE1, hG1, ht1, _⟩
                rw [← ht1]
                clear c1 hE HG rc x0 x1 hsl ht1
                have rc := (hE1.bel.cell (p := ⟨b, off + k, none⟩) hbw).trans HC.out
                have x2 := (hE1.bel.cell (p := ⟨rb, ro + 2, none⟩) hrb).trans X2.out
                by_cases a3 : z2 < 0
                · go_wp2_with fail
                  refine (take_no_one hE1 z2 a3).mono ?_
                  rintro e w12 ⟨rfl, hE2⟩
                  clear rc x2 hE1
                  have hE := hE2
                  have HG : Hid (Good t s') := hG1
                  clear hE2 hG1
                  go_wp2_with fail
                  go_roundg (60 - (k + 1))
                  case measure => have := HK.out; omega
                  case rel => exact ⟨k + 1, s', by have := HK.out; omega, rfl, by go_num, hE, HG.out⟩
                · have c1 := take_good hE1 hG1 z2 (by omega)
                  go_wp2_with fail
                  refine c1.mono ?_
                  rintro e w12 ⟨n, rfl, hn, s2, hE2, hG2, ht2, _⟩
                  have hsz := size_extract' t 0 (s'.tk + n) hn.out.2
                  have hadd : ∀ w, (Op.stringOp .add (t.extract 0 s'.tk) (t.extract s'.tk (s'.tk + n))).run Tryd.prog w = .ok (.string (t.extract 0 (s'.tk + n))) w := by
                    intro w
                    have e1 := size_extract' t 0 s'.tk hG1.tk
                    have e2 := size_extract' t s'.tk (s'.tk + n) hn.out.2
                    have e3 := hG1.tk
                    have e4 := hn.out.2
                    rw [run_string_add_sum w _ _ (by omega), extract_join t (by omega) hn.out.2]
                  have hpre : ∀ w, (Instr.slice 9 (.string t) none (some (.int .i64 (((t.extract 0 (s'.tk + n)).size : Nat) : Int))) none).run Tryd.prog w = .ok (.string (t.extract 0 (s'.tk + n))) w := by
                    intro w
                    have := hn.out.2
                    rw [hsz, run_slice_string_to_if w 9 t .i64 _ Tryd.underlying9, if_pos (by omega), show ((s'.tk + n - 0 : Nat) : Int).toNat = s'.tk + n by omega]
                  have hle : ¬ ((t.size : Int) < (((t.extract 0 (s'.tk + n)).size : Nat) : Int)) := by have := hn.out.2; omega
                  have HT2 : Hid (t.extract 0 (s'.tk + n) = t.extract 0 s2.tk) := by show _ = _; rw [ht2]
                  clear c1 hE1 hG1 rc x2 ht2 hsz hn
                  generalize t.extract 0 (s'.tk + n) = g2 at hadd hpre hle HT2
                  generalize t.extract s'.tk (s'.tk + n) = g3 at hadd
                  generalize t.extract 0 s'.tk = g1 at hadd
                  go_wp2_with fail
                  go_roundg (60 - (k + 1))
                  case measure => have := HK.out; omega
                  case rel => exact ⟨k + 1, s2, by have := HK.out; omega, by rw [HT2.out], by go_num, hE2, hG2⟩
        · have q3 : ¬ ((zs.length : Int) = 3) := by omega
          have rc := (hE.bel.cell (p := ⟨b, off + k, none⟩) hbw).trans HC.out
          go_wp2_with fail
          go_roundg (60 - (k + 1))
          case measure => have := HK.out; omega
          case rel => exact ⟨k + 1, s, by have := HK.out; omega, rfl, by go_num, hE, HG.out⟩
    · go_upto_region 14 with fail
      go_cut [80] (fun s80 wx => s80 = .bool false ∧ wx = wr)
      case first =>
        by_cases q2 : (k : Int) < (len : Int)
        · have q3 : ¬ (k : Int) < 60 := fun e => g1 ⟨q2, e⟩
          clear g1
          go_wp2_with fail
          go_meet
          exact ⟨rfl, rfl⟩
        · clear g1
          go_wp2_with fail
          go_meet
          exact ⟨rfl, rfl⟩
      case rest =>
        obtain ⟨rfl, rfl⟩ := hcut
        clear g1
        obtain ⟨g, hg⟩ : ∃ g, t.extract 0 s.tk = g := ⟨_, rfl⟩
        obtain ⟨T, hT⟩ : ∃ T, s.tk = T := ⟨_, rfl⟩
        rw [hg]
        have HG : Hid (t.extract 0 T = g) := by show _ = _; rw [← hT]; exact hg
        clear hg
        go_wp2_with fail
        go_loopg [20] t.size (fun gk s20 wr => ∃ (z : Int) (s : St), gk = z.toNat ∧ Hid (-7 ≤ z ∧ z ≤ (t.size : Int)) ∧ s20 = .int .i64 z ∧ One w wr sb s ∧ Good t s ∧ Hid (s.tk = T) ∧ Hid (∀ j : Nat, z ≤ (j : Int) → j < t.size → s.cm j = true))
        case atStart => exact ⟨t.size, s, by simp, ⟨by omega, Int.le_refl _⟩, rfl, hE, hG, hT, (show ∀ j, _ from fun j h1 h2 => by omega)⟩
        case round =>
          clear hE hG hT HK
          obtain ⟨z, s1, hz, HZ, rfl, hE, hG, HT, HA⟩ := hrel
          have HK : Hid (gk = z.toNat) := hz
          clear hz
          by_cases a0 : 0 < z
          · obtain ⟨u, rfl⟩ : ∃ u : Nat, z = (u : Int) := ⟨z.toNat, by omega⟩
            have hut : (u : Int) ≤ (t.size : Int) := HZ.out.2
            have u7 := wrap_small ((u : Int) - 7) (by omega) (by omega)
            go_upto_if 161 with fail
            go_cut [21] (fun s21 wx => ∃ f : Nat, s21 = .int .i64 f ∧ Hid (f ≤ u ∧ (f : Int) ≤ (u : Int) - 7 ∨ f = 0) ∧ wx = wr)
            case first =>
              by_cases a1 : (u : Int) - 7 < 0
              · go_wp2_with fail
                go_meet
                exact ⟨0, rfl, .inr rfl, rfl⟩
              · go_wp2_with fail
                go_meet
                exact ⟨u - 7, by go_num, .inl ⟨by omega, by omega⟩, rfl⟩
            case rest =>
              obtain ⟨f, rfl, HF, rfl⟩ := hcut
              have hfu : (f : Int) ≤ (u : Int) := by have := HF.out; omega
              have hsl : ∀ w, (Instr.slice 9 (.string t) (some (.int .i64 (f : Int))) (some (.int .i64 (u : Int))) none).run Tryd.prog w = .ok (.string (t.extract f u)) w := fun w => run_slice_string w 9 t .i64 .i64 f u Tryd.underlying9 (by omega) (by omega) (by omega)
              have c1 := put_good hE hG ht f u (by omega) (by omega)
              generalize t.extract f u = d at hsl c1
              go_wp2_with fail
              refine c1.mono ?_
              rintro e w11 ⟨rfl, s', hE1, hG1, ht1, HA1⟩
              have HT1 : Hid (s'.tk = T) := by show _ = _; rw [ht1]; exact HT.out
              have HA2 : Hid (∀ j : Nat, (u : Int) - 7 ≤ (j : Int) → j < t.size → s'.cm j = true) := by
                show ∀ j, _
                intro j h1 h2
                refine HA1.out j ?_
                by_cases h3 : (u : Int) ≤ (j : Int)
                · exact .inl (HA.out j h3 h2)
                · exact .inr (by have := HF.out; omega)
              have HZ2 : Hid (-7 ≤ (u : Int) - 7 ∧ (u : Int) - 7 ≤ (t.size : Int)) := ⟨by omega, by omega⟩
              clear c1 hE hG hsl ht1 HA HA1 HF
              go_wp2_with fail
              go_roundg ((u : Int) - 7).toNat
              case measure => have := HK.out; omega
              case rel => exact ⟨(u : Int) - 7, s', rfl, HZ2, by go_num, hE1, hG1, HT1, HA2⟩
          · have hall : ∀ j, j < t.size → s1.cm j = true := fun j hj => HA.out j (by omega) hj
            have he := take_end hG ht hall
            have c1 := take_good hE hG 60 (by decide)
            clear HA HK HZ
            go_wp2_with fail
            refine c1.mono ?_
            rintro e w11 ⟨n, rfl, hn, s2, hE2, hG2, ht2, hc2⟩
            have hn2 : s1.tk + n = t.size := by rw [hn.out.1]; exact he
            rw [hn2, HT.out]
            have hadd : ∀ w, (Op.stringOp .add g (t.extract T t.size)).run Tryd.prog w = .ok (.string t) w := by
              intro w
              have e0 := hG.tk
              have e5 := HT.out
              have e1 := size_extract' t 0 T (by omega)
              have e2 := size_extract' t T t.size (Nat.le_refl _)
              rw [HG.out] at e1
              rw [run_string_add_sum w _ _ (by omega), ← HG.out, extract_join t (by omega) (Nat.le_refl _)]
              simp
            have hall2 : ∀ j, j < t.size → s2.cm j = true := by rw [hc2.out]; exact hall
            have r0 := rdy_end hG2 ht hall2
            rw [ht2, hn2, Nat.sub_self] at r0
            have g0 := gaps_end hG2 hall2
            have cr := ready_one hE2
            rw [r0] at cr
            have cg := fun (wx : World) (h : One w wx sb s2) => gaps_one h
            rw [g0] at cg
            clear c1 hE hG hG2 ht2 hc2 hn2 hall hall2 r0 g0 he hn HT
            generalize t.extract T t.size = g2 at hadd
            go_wp2_with fail
            refine cr.mono ?_
            rintro e w12 ⟨rfl, hE3⟩
            have cg2 := cg _ hE3
            clear cr cg hE2 hE3
            go_wp2_with fail
            refine cg2.mono ?_
            rintro e w13 ⟨v, rfl, hR, hE4⟩
            obtain ⟨ao2, c2, rfl, _, _, _⟩ := hR
            have hb := hE4.bel
            clear cg2 hE4
            go_wp2_with fail
            go_ret
            exact ⟨by simp, hb⟩
theorem order_walk (t : ByteArray) {v : Value} {w : World} (hd : t.size ≤ 140737488351232) (hv : StepsArg w v) (hH : Handle w) : Calls Tryd.prog 3 #[.string t, v] w fun e w' => e = .returned (.bool true) ∧ Below w.heap.size w w' := by
  by_cases ht : 60 < t.size
  · exact order_long t v w hH ht hd
  · obtain ⟨ao, len, c, rfl, hS⟩ := hv
    exact order_short t ao len c w (by omega) hS
end Go.Proofs.YtipmaphgkfegmaaDoor
