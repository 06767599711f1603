/- RangesTell where the first ranges have no fault, the number is one, and the second ranges have a fault. -/
import Derived.Test.YtbglleldbogaaaaDoorP
namespace Go.Proofs.YtbglleldbogaaaaDoor
open Go.RowKit Go.Lib Go.Sort Go.Shelf
set_option linter.unusedVariables false
set_option linter.unusedSimpArgs false

set_option maxRecDepth 100000 in
set_option maxHeartbeats 4000000 in
theorem tell_C1 (a0 a2 : Option Addr) (l0 l2 c0 c2 : Nat) (n : Int) (zs ms : List R) (w : World) (hH : Handle w) (hA : Row w (.slice a0 l0 c0) zs) (hM : Row w (.slice a2 l2 c2) ms) (hg : chk zs = 0) (hN : isN n = true) (hg2 : chk ms ≠ 0) :
    Calls Tryd.prog 3 #[.slice a0 l0 c0, .int .i64 n, .slice a2 l2 c2] w fun e w' => e = .returned (.bool true) ∧ Below w.heap.size w w' := by
  have HL0 : Hid (zs.length = l0) := row_len hA
  have HL2 : Hid (ms.length = l2) := row_len hM
  have bl0 : l0 ≤ 9223372036854775807 := by have := row_bound hA; have := HL0.out; omega
  have bl2 : l2 ≤ 9223372036854775807 := by have := row_bound hM; have := HL2.out; omega
  have HA : Hid (Row w (.slice a0 l0 c0) zs) := hA
  have HM : Hid (Row w (.slice a2 l2 c2) ms) := hM
  have hB0 := Below.refl w.heap.size w
  clear hA hM
  have HG : Hid (Good zs) := (chk_ok zs).1 hg
  have hR := fun W (b : Below w.heap.size w W) => rranges_calls _ zs W (HA.out.below b)
  have hR2 := fun W (b : Below w.heap.size w W) => rranges_calls _ ms W (HM.out.below b)
  have hC := fun W (b : Below w.heap.size w W) => check_calls _ zs W (HA.out.below b)
  have hF := fun W (b : Below w.heap.size w W) => count_ok _ zs W (HA.out.below b) hg
  rw [hg] at hR
  rw [hg, errV0] at hC
  have hI := fun W (b : Below w.heap.size w W) => both_bad2 _ _ zs ms W (HA.out.below b) (HM.out.below b) hg hg2
  rw [errV_ne hg2] at hI
  have hE := fun W (b : Below w.heap.size w W) => hasx_ok _ zs n W (HA.out.below b) hN hg
  have hJ := fun W (b : Below w.heap.size w W) => rin_calls _ zs n W (HA.out.below b)
  have hD := fun W (b : Below w.heap.size w W) => add_ok _ zs n W (HA.out.below b) hg hN
  have hn := (isN_iff n).1 hN
  have hK := fun W (b : Below w.heap.size w W) => rwith_calls _ zs n n W (HA.out.below b) (by have := HG.out.1; omega) HG.out.2.2 HG.out.2.1 ⟨hn.1, Int.le_refl _, hn.2⟩
  generalize memB zs n = mb at hE hJ hD
  generalize chk ms = g2 at *
  have hgb : (g2 == 0) = false := by simpa using hg2
  go_enter Tryd.func3, Tryd.ntmps3
  go_wp2_with fail
  refine (hR _ hB0).mono ?_
  rintro e w1 ⟨rfl, hb1⟩
  have hB1 := hB0.trans (hb1.mono hB0.size)
  go_wp2_with fail
  refine (hC _ hB1).mono ?_
  rintro e w2 ⟨rfl, hb2⟩
  have hB2 := hB1.trans (hb2.mono hB1.size)
  go_wp2_with fail
  refine (same_0 _).mono ?_
  rintro e w3 ⟨rfl, hb3⟩
  have hB3 := hB2.trans (hb3.mono hB2.size)
  go_wp2_with fail
  refine (may_calls n _).mono ?_
  rintro e w4 ⟨rfl, rfl⟩
  rw [hN]
  go_wp2_with fail
  refine (hK _ hB3).mono ?_
  rintro e w4 ⟨vc, cs, rfl, hrc, hcn, hcm, hcl, hb4⟩
  have hB4 := hB3.trans (hb4.mono hB3.size)
  have HCN : Hid (Norm cs ∧ ∀ j, Mem cs j ↔ Mem zs j ∨ (n ≤ j ∧ j ≤ n)) := ⟨hcn, hcm⟩
  have hcl2 : cs.length ≤ 13 := by have := HG.out.1; omega
  clear hcn hcm hcl
  have HRc : Hid (Row w4 vc cs) := hrc
  obtain ⟨ac, cc, rfl, _, _, _⟩ := hrc
  generalize hq1 : cs.length = lc at *
  have HQc : Hid (cs.length = lc) := hq1
  clear hq1
  go_wp2_with fail
  refine (hJ _ hB4).mono ?_
  rintro e w5 ⟨rfl, hb5⟩
  have hB5 := hB4.trans (hb5.mono hB4.size)
  by_cases h13 : 12 < lc
  · have gc : (12 : Int) < (lc : Int) := by omega
    go_wp2_with fail
    refine (hD _ hB5).mono ?_
    rintro e w6 ⟨ds1, hdn1, hdm1, hdl1, hb6, hor1⟩
    obtain rfl : ds1 = cs := norm_unique hdn1 HCN.out.1 (fun j => by rw [hdm1 j, HCN.out.2 j]; exact or_congr Iff.rfl ⟨fun e => by omega, fun e => by omega⟩)
    rw [HQc.out] at hor1
    have hB6 := hB5.trans (hb6.mono hB5.size)
    obtain ⟨_, rfl⟩ : _ ∧ _ := hor1.resolve_right (fun h => by omega)
    rw [errV4]
    clear hdn1 hdm1 hdl1
    go_wp2_with fail
    refine (same_k 4 _ (hH.below hB6)).mono ?_
    rintro e w7 ⟨rfl, hb7⟩
    have hB7 := hB6.trans (hb7.mono hB6.size)
    go_wp2_with fail
    refine (samer_eq _ _ [] _ (Row.nil _) (Row.nil _)).mono ?_
    rintro e w8 ⟨rfl, hb8⟩
    have hB8 := hB7.trans (hb8.mono hB7.size)
    go_wp2_with fail
    refine (hJ _ hB8).mono ?_
    rintro e w9 ⟨rfl, hb9⟩
    have hB9 := hB8.trans (hb9.mono hB8.size)
    go_wp2_with fail
    refine (hE _ hB9).mono ?_
    rintro e w10 ⟨rfl, hb10⟩
    have hB10 := hB9.trans (hb10.mono hB9.size)
    go_wp2_with fail
    refine (same_0 _).mono ?_
    rintro e w11 ⟨rfl, hb11⟩
    have hB11 := hB10.trans (hb11.mono hB10.size)
    go_wp2_with fail
    go_loopw [19, 20] (fun mn i wr => ∃ k : Nat, k ≤ l0 ∧ i = .int .i64 k ∧ mn = .int .i64 (cnt (zs.take k)) ∧ Below w.heap.size w wr) (fun _ i _ => l0 - (intOf i).toNat)
    case atStart => exact ⟨0, Nat.zero_le _, rfl, rfl, hB11⟩
    case round =>
      obtain ⟨k, hk, rfl, rfl, hB⟩ := hrel
      by_cases hlt : k < l0
      · have g1 : (k : Int) < (l0 : Int) := by omega
        have hkl : k < zs.length := by have := HL0.out; omega
        obtain ⟨b, off, hbo, hbb, hCl⟩ : ∃ b off, a0 = some ⟨b, off, none⟩ ∧ b < w.heap.size ∧ Cells w b off zs := row_cells HA.out hkl
        subst hbo
        have c0' := (hCl.below hbb hB k hkl).1
        have c1' := (hCl.below hbb hB k hkl).2
        have bd := good_each HG.out _ (at_mem hkl)
        have bs := cnt_take_bound HG.out k
        have bt := cnt_take_bound HG.out (k + 1)
        have HT := cnt_take zs k hkl
        have HT' : Hid (cnt (zs.take (k + 1)) = cnt (zs.take k) + ((at' zs k).2 - (at' zs k).1 + 1)) := HT
        rw [HT] at bt
        clear hCl hkl HT
        generalize at' zs k = r at *
        obtain ⟨lo, hi⟩ := r
        simp only at c0' c1' bd bs bt HT'
        generalize cnt (zs.take k) = sm at *
        have q1 : IntKind.i64.wrap (sm + hi) = sm + hi := by simp [IntKind.wrap, IntKind.bits, IntKind.signed]; omega
        have q2 : IntKind.i64.wrap (sm + hi - lo) = sm + hi - lo := by simp [IntKind.wrap, IntKind.bits, IntKind.signed]; omega
        have q3 : IntKind.i64.wrap (sm + hi - lo + 1) = sm + hi - lo + 1 := by simp [IntKind.wrap, IntKind.bits, IntKind.signed]; omega
        go_wp2_with fail
        go_quiet (fail)
        go_wp2_with fail
        exact ⟨⟨k + 1, by omega, by go_num, by rw [HT'.out]; congr 1; omega, below_drewN hB _⟩, by simp [intOf]; omega⟩
      · obtain rfl : k = l0 := by omega
        have e1 : zs.take k = zs := List.take_of_length_le (by have := HL0.out; omega)
        rw [e1]
        have hB12 := hB
        go_wp2_with fail
        refine (hF _ hB12).mono ?_
        rintro e w13 ⟨rfl, hb13⟩
        have hB13 := hB12.trans (hb13.mono hB12.size)
        go_wp2_with fail
        refine (same_0 _).mono ?_
        rintro e w14 ⟨rfl, hb14⟩
        have hB14 := hB13.trans (hb14.mono hB13.size)
        go_wp2_with fail
        refine (hR2 _ hB14).mono ?_
        rintro e w15 ⟨rfl, hb15⟩
        have hB15 := hB14.trans (hb15.mono hB14.size)
        go_wp2_with fail
        refine (hI _ hB15).mono ?_
        rintro e w16 ⟨rfl, hb16⟩
        have hB16 := hB15.trans (hb16.mono hB15.size)
        go_wp2_with fail
        refine (same_k g2 _ (hH.below hB16)).mono ?_
        rintro e w17 ⟨rfl, hb17⟩
        have hB17 := hB16.trans (hb17.mono hB16.size)
        go_wp2_with fail
        refine (samer_eq _ _ [] _ (Row.nil _) (Row.nil _)).mono ?_
        rintro e w18 ⟨rfl, hb18⟩
        have hB18 := hB17.trans (hb18.mono hB17.size)
        go_wp2_with fail
        go_ret
        exact ⟨rfl, hB18⟩
  · have gc : ¬ (12 : Int) < (lc : Int) := by omega
    go_wp2_with fail
    refine (hD _ hB5).mono ?_
    rintro e w6 ⟨ds1, hdn1, hdm1, hdl1, hb6, hor1⟩
    obtain rfl : ds1 = cs := norm_unique hdn1 HCN.out.1 (fun j => by rw [hdm1 j, HCN.out.2 j]; exact or_congr Iff.rfl ⟨fun e => by omega, fun e => by omega⟩)
    rw [HQc.out] at hor1
    have hB6 := hB5.trans (hb6.mono hB5.size)
    obtain ⟨_, v1, hr1, rfl⟩ : _ ∧ _ := hor1.resolve_left (fun h => by omega)
    clear hdn1 hdm1 hdl1
    have HR1 : Hid (Row w6 v1 ds1) := hr1
    obtain ⟨a1, c1, rfl, _, _, _⟩ := hr1
    go_wp2_with fail
    refine (same_0 _).mono ?_
    rintro e w7 ⟨rfl, hb7⟩
    have hB7 := hB6.trans (hb7.mono hB6.size)
    have hz5 := hb5
    have hz6 := hz5.trans (hb6.mono hz5.size)
    have hz7 := hz6.trans (hb7.mono hz6.size)
    go_wp2_with fail
    refine (samer_eq _ _ ds1 _ (HR1.out.below hb7) (HRc.out.below hz7)).mono ?_
    rintro e w8 ⟨rfl, hb8⟩
    have hB8 := hB7.trans (hb8.mono hB7.size)
    go_wp2_with fail
    refine (hJ _ hB8).mono ?_
    rintro e w9 ⟨rfl, hb9⟩
    have hB9 := hB8.trans (hb9.mono hB8.size)
    go_wp2_with fail
    refine (hE _ hB9).mono ?_
    rintro e w10 ⟨rfl, hb10⟩
    have hB10 := hB9.trans (hb10.mono hB9.size)
    go_wp2_with fail
    refine (same_0 _).mono ?_
    rintro e w11 ⟨rfl, hb11⟩
    have hB11 := hB10.trans (hb11.mono hB10.size)
    go_wp2_with fail
    go_loopw [19, 20] (fun mn i wr => ∃ k : Nat, k ≤ l0 ∧ i = .int .i64 k ∧ mn = .int .i64 (cnt (zs.take k)) ∧ Below w.heap.size w wr) (fun _ i _ => l0 - (intOf i).toNat)
    case atStart => exact ⟨0, Nat.zero_le _, rfl, rfl, hB11⟩
    case round =>
      obtain ⟨k, hk, rfl, rfl, hB⟩ := hrel
      by_cases hlt : k < l0
      · have g1 : (k : Int) < (l0 : Int) := by omega
        have hkl : k < zs.length := by have := HL0.out; omega
        obtain ⟨b, off, hbo, hbb, hCl⟩ : ∃ b off, a0 = some ⟨b, off, none⟩ ∧ b < w.heap.size ∧ Cells w b off zs := row_cells HA.out hkl
        subst hbo
        have c0' := (hCl.below hbb hB k hkl).1
        have c1' := (hCl.below hbb hB k hkl).2
        have bd := good_each HG.out _ (at_mem hkl)
        have bs := cnt_take_bound HG.out k
        have bt := cnt_take_bound HG.out (k + 1)
        have HT := cnt_take zs k hkl
        have HT' : Hid (cnt (zs.take (k + 1)) = cnt (zs.take k) + ((at' zs k).2 - (at' zs k).1 + 1)) := HT
        rw [HT] at bt
        clear hCl hkl HT
        generalize at' zs k = r at *
        obtain ⟨lo, hi⟩ := r
        simp only at c0' c1' bd bs bt HT'
        generalize cnt (zs.take k) = sm at *
        have q1 : IntKind.i64.wrap (sm + hi) = sm + hi := by simp [IntKind.wrap, IntKind.bits, IntKind.signed]; omega
        have q2 : IntKind.i64.wrap (sm + hi - lo) = sm + hi - lo := by simp [IntKind.wrap, IntKind.bits, IntKind.signed]; omega
        have q3 : IntKind.i64.wrap (sm + hi - lo + 1) = sm + hi - lo + 1 := by simp [IntKind.wrap, IntKind.bits, IntKind.signed]; omega
        go_wp2_with fail
        go_quiet (fail)
        go_wp2_with fail
        exact ⟨⟨k + 1, by omega, by go_num, by rw [HT'.out]; congr 1; omega, below_drewN hB _⟩, by simp [intOf]; omega⟩
      · obtain rfl : k = l0 := by omega
        have e1 : zs.take k = zs := List.take_of_length_le (by have := HL0.out; omega)
        rw [e1]
        have hB12 := hB
        go_wp2_with fail
        refine (hF _ hB12).mono ?_
        rintro e w13 ⟨rfl, hb13⟩
        have hB13 := hB12.trans (hb13.mono hB12.size)
        go_wp2_with fail
        refine (same_0 _).mono ?_
        rintro e w14 ⟨rfl, hb14⟩
        have hB14 := hB13.trans (hb14.mono hB13.size)
        go_wp2_with fail
        refine (hR2 _ hB14).mono ?_
        rintro e w15 ⟨rfl, hb15⟩
        have hB15 := hB14.trans (hb15.mono hB14.size)
        go_wp2_with fail
        refine (hI _ hB15).mono ?_
        rintro e w16 ⟨rfl, hb16⟩
        have hB16 := hB15.trans (hb16.mono hB15.size)
        go_wp2_with fail
        refine (same_k g2 _ (hH.below hB16)).mono ?_
        rintro e w17 ⟨rfl, hb17⟩
        have hB17 := hB16.trans (hb17.mono hB16.size)
        go_wp2_with fail
        refine (samer_eq _ _ [] _ (Row.nil _) (Row.nil _)).mono ?_
        rintro e w18 ⟨rfl, hb18⟩
        have hB18 := hB17.trans (hb18.mono hB17.size)
        go_wp2_with fail
        go_ret
        exact ⟨rfl, hB18⟩
end Go.Proofs.YtbglleldbogaaaaDoor
