/- LossTells' walk: what came is wrong. -/
import Derived.Test.YtingcgadolcanaaDoorT
import Derived.Deep.DeepCutAuto
namespace Go.Proofs.YtingcgadolcanaaDoor
open Go.RowKit Go.Lib Go.Sort
set_option linter.unusedVariables false
set_option linter.unusedSimpArgs false

set_option maxRecDepth 100000 in
set_option maxHeartbeats 8000000 in
theorem tells_B (ao : Option Addr) (len cap : Nat) (ro : Option Addr) (m rc : Nat) (now wait : Int) (w : World) (zs : List S3) (hlen : zs.length = len) (h30 : len ≤ 30) (hok : ∀ s, s ∈ zs → okS s = true) (hzz : zs = [] ∨ ∃ b off, ao = some ⟨b, off, none⟩ ∧ b < w.heap.size ∧ Cells3 w b off zs) (wy : Int) (hwy : wayL zs = wy) (ch : Int) (hch : ¬ ch = 0)
    (KR : Hid (∀ w1 , Below w.heap.size w w1 → Calls Tryd.prog 4 #[.slice ao len cap] w1 fun e w' => e = .returned (.int .i64 (0)) ∧ Below w1.heap.size w1 w'))
    (KC : Hid (∀ w1 , Below w.heap.size w w1 → Calls Tryd.prog 6 #[.slice ao len cap] w1 fun e w' => e = .returned (errV (0)) ∧ Below w1.heap.size w1 w'))
    (KE : Hid (∀ w1 (f : Int), Below w.heap.size w w1 → Calls Tryd.prog 5 #[errV f, .int .i64 f] w1 fun e w' => e = .returned (.bool true) ∧ Below w1.heap.size w1 w'))
    (KW : Hid (∀ w1 , Below w.heap.size w w1 → Calls Tryd.prog 7 #[.slice ao len cap] w1 fun e w' => e = .returned (.tuple #[.int .i64 (wy), errV (0)]) ∧ Below w1.heap.size w1 w'))
    (KN : Hid (∀ w1 , Below w.heap.size w w1 → Calls Tryd.prog 8 #[.slice ro m rc] w1 fun e w' => e = .returned (.int .i64 (ch)) ∧ Below w1.heap.size w1 w'))
    (KL : Hid (∀ w1 , Below w.heap.size w w1 → Calls Tryd.prog 10 #[.slice ao len cap, .slice ro m rc] w1 fun e w' => ∃ u', e = .returned (.tuple #[u', errV (ch)]) ∧ Row3 w' u' ([]) ∧ Below w1.heap.size w1 w'))
    (KO : Hid (∀ w1 , Below w.heap.size w w1 → Calls Tryd.prog 12 #[.slice ao len cap, .slice ro m rc, .int .i64 now, .int .i64 wait] w1 fun e w' => ∃ y, e = .returned (.tuple #[y, errV (ch)]) ∧ IRow w' y ([]) ∧ Below w1.heap.size w1 w')) :
    Calls Tryd.prog 3 #[.slice ao len cap, .slice ro m rc, .int .i64 now, .int .i64 wait] w fun e w' => e = .returned (.bool true) ∧ Below w.heap.size w w' := by
  have HL : Hid (zs.length = len) := hlen
  have HO : Hid (∀ s, s ∈ zs → okS s = true) := hok
  have HZ : Hid (zs = [] ∨ ∃ b off, ao = some ⟨b, off, none⟩ ∧ b < w.heap.size ∧ Cells3 w b off zs) := hzz
  have HWY : Hid (wayL zs = wy) := hwy
  clear hlen hok hzz hwy
  have hB0 := Below.refl w.heap.size w
  go_enter Tryd.func3, Tryd.ntmps3
  go_wp2_with fail
  refine (KR.out _ hB0).mono ?_
  rintro e w1 ⟨rfl, hb1⟩
  have hB1 := hB0.trans (hb1.mono hB0.size)
  go_wp2_with fail
  refine (KC.out _ hB1).mono ?_
  rintro e w2 ⟨rfl, hb2⟩
  have hB2 := hB1.trans (hb2.mono hB1.size)
  go_wp2_with fail
  refine (KE.out _ (0) hB2).mono ?_
  rintro e w3 ⟨rfl, hb3⟩
  have hB3 := hB2.trans (hb3.mono hB2.size)
  go_wp2_with fail
  go_loopg [11, 12] len (fun gg s11 s12 wr => ∃ (n0L : Nat) (y : Int), n0L ≤ len ∧ len - n0L ≤ gg ∧ s12 = .int .i64 n0L ∧ s11 = .int .i64 y ∧ Hid (y = wayL (zs.take n0L)) ∧ Hid (Below w3.heap.size w3 wr))
  case atStart => exact ⟨0, 0, Nat.zero_le _, by omega, rfl, rfl, (show (0 : Int) = _ by simp [wayL]), Below.refl _ _⟩
  case round =>
    obtain ⟨n0L, y, hk, hgg, rfl, rfl, HY, HBr⟩ := hrel
    by_cases hlt : n0L < len
    · have hltz : (n0L : Int) < (len : Int) := by omega
      have hkl : n0L < zs.length := by have := HL.out; omega
      obtain ⟨b0, off, rfl, hb, hC⟩ : ∃ b off, ao = some ⟨b, off, none⟩ ∧ b < w.heap.size ∧ Cells3 w b off zs := by
        rcases HZ.out with h | h
        · rw [h] at hkl; simp at hkl
        · exact h
      obtain ⟨c0, c1, c2⟩ := hC.below hb (hB3.trans (HBr.out.mono hB3.size)) n0L hkl
      have hs := (okS_iff _).1 (HO.out _ (at3_mem hkl))
      have hw := way_small HO.out n0L (by omega)
      have HN : Hid (wayL (zs.take (n0L + 1)) = wayL (zs.take n0L) + (at3 zs n0L).2.2) := way_next hkl
      clear hC hkl
      rw [← HY.out] at hw
      generalize at3 zs n0L = s at c0 c1 c2 hs HN
      obtain ⟨a, b, z⟩ := s
      simp only at c0 c1 c2 hs HN
      have vz : IntKind.i64.wrap (y + z) = y + z := wrap_small _ (by omega) (by omega)
      go_wp2_with fail
      go_roundg (len - (n0L + 1))
      case measure => omega
      case rel => exact ⟨n0L + 1, y + z, by omega, Nat.le_refl _, by go_num, rfl, (show _ = _ by rw [HN.out, HY.out]), HBr.out⟩
    · obtain rfl : n0L = len := by omega
      have hltz : ¬ (n0L : Int) < (n0L : Int) := by omega
      obtain rfl : y = wy := by rw [HY.out, List.take_of_length_le (by have := HL.out; omega)]; exact HWY.out
      have hb4 := HBr.out
      have hB4 := hB3.trans (hb4.mono hB3.size)
      clear HY HBr
      generalize wr = w4 at hb4 hB4 ⊢
      go_wp2_with fail
      refine (KW.out _ hB4).mono ?_
      rintro e w5 ⟨rfl, hb5⟩
      have hB5 := hB4.trans (hb5.mono hB4.size)
      go_wp2_with fail
      refine (KE.out _ 0 hB5).mono ?_
      rintro e w6 ⟨rfl, hb6⟩
      have hB6 := hB5.trans (hb6.mono hB5.size)
      go_wp2_with fail
      refine (KN.out _ hB6).mono ?_
      rintro e w7 ⟨rfl, hb7⟩
      have hB7 := hB6.trans (hb7.mono hB6.size)
      go_wp2_with fail
      by_cases h0 : 0 < n0L
      · have hz0 : (0 : Int) < (n0L : Int) := by omega
        refine wp_loop_rounds 1 ?_
        rw [rounds_succ]
        go_wp2_with fail
        refine (KL.out _ hB7).mono ?_
        rintro e w8 ⟨u8, rfl, hr8, hb8⟩
        have hB8 := hB7.trans (hb8.mono hB7.size)
        go_wp2_with fail
        refine (KE.out _ (ch) hB8).mono ?_
        rintro e w9 ⟨rfl, hb9⟩
        have hB9 := hB8.trans (hb9.mono hB8.size)
        have hs7 : Below w7.heap.size w7 w9 := hb8.trans (hb9.mono hb8.size)
        go_wp2_with fail
        refine (same3_eq _ _ ([]) _ (hr8.below hb9) (Row3.nil _)).mono ?_
        rintro e w10 ⟨rfl, hb10⟩
        have hB10 := hB9.trans (hb10.mono hB9.size)
        go_wp2_with fail
        refine (KO.out _ hB10).mono ?_
        rintro e w11 ⟨u11, rfl, hr11, hb11⟩
        have hB11 := hB10.trans (hb11.mono hB10.size)
        go_wp2_with fail
        refine (KE.out _ (ch) hB11).mono ?_
        rintro e w12 ⟨rfl, hb12⟩
        have hB12 := hB11.trans (hb12.mono hB11.size)
        have ht7 : Below w7.heap.size w7 w12 := hs7.trans ((hb10.trans ((hb11.trans (hb12.mono hb11.size)).mono hb10.size)).mono hs7.size)
        go_wp2_with fail
        refine (sameI_eq _ _ ([]) _ (hr11.below hb12) (IRow.nil _)).mono ?_
        rintro e w13 ⟨rfl, hb13⟩
        have hB13 := hB12.trans (hb13.mono hB12.size)
        go_wp2_with fail
        go_ret
        exact ⟨rfl, hB13⟩
      · obtain rfl : n0L = 0 := by omega
        refine wp_loop_rounds 1 ?_
        rw [rounds_succ]
        go_wp2_with fail
        refine (KL.out _ hB7).mono ?_
        rintro e w8 ⟨u8, rfl, hr8, hb8⟩
        have hB8 := hB7.trans (hb8.mono hB7.size)
        go_wp2_with fail
        refine (KE.out _ (ch) hB8).mono ?_
        rintro e w9 ⟨rfl, hb9⟩
        have hB9 := hB8.trans (hb9.mono hB8.size)
        have hs7 : Below w7.heap.size w7 w9 := hb8.trans (hb9.mono hb8.size)
        go_wp2_with fail
        refine (same3_eq _ _ ([]) _ (hr8.below hb9) (Row3.nil _)).mono ?_
        rintro e w10 ⟨rfl, hb10⟩
        have hB10 := hB9.trans (hb10.mono hB9.size)
        go_wp2_with fail
        refine (KO.out _ hB10).mono ?_
        rintro e w11 ⟨u11, rfl, hr11, hb11⟩
        have hB11 := hB10.trans (hb11.mono hB10.size)
        go_wp2_with fail
        refine (KE.out _ (ch) hB11).mono ?_
        rintro e w12 ⟨rfl, hb12⟩
        have hB12 := hB11.trans (hb12.mono hB11.size)
        have ht7 : Below w7.heap.size w7 w12 := hs7.trans ((hb10.trans ((hb11.trans (hb12.mono hb11.size)).mono hb10.size)).mono hs7.size)
        go_wp2_with fail
        refine (sameI_eq _ _ ([]) _ (hr11.below hb12) (IRow.nil _)).mono ?_
        rintro e w13 ⟨rfl, hb13⟩
        have hB13 := hB12.trans (hb13.mono hB12.size)
        go_wp2_with fail
        go_ret
        exact ⟨rfl, hB13⟩
end Go.Proofs.YtingcgadolcanaaDoor
