/- RangesSet where n is added: k is n. -/
import Derived.Test.YtbglleldbogaaaaDoorX
namespace Go.Proofs.YtbglleldbogaaaaDoor
open Go.RowKit Go.Lib Go.Sort Go.Shelf
set_option linter.unusedVariables false
set_option linter.unusedSimpArgs false

set_option maxRecDepth 100000 in
set_option maxHeartbeats 4000000 in
theorem set_C111 (a0 a3 : Option Addr) (l0 l3 c0 c3 : Nat) (n k : Int) (zs ms : List R) (w : World) (hH : Handle w) (hA : Row w (.slice a0 l0 c0) zs) (hM : Row w (.slice a3 l3 c3) ms) (hK : isN k = true) (hg : chk zs = 0) (hhad : memB zs k = true) (hN : isN n = true) (hkn : k = n) (hmb : memB zs n = true) (cs : List R) (hcn : Norm cs) (hcm : ∀ j, Mem cs j ↔ Mem zs j ∨ j = n) (h13 : cs.length ≤ 12) :
    Calls Tryd.prog 4 #[.slice a0 l0 c0, .int .i64 n, .int .i64 k, .slice a3 l3 c3] w fun e w' => e = .returned (.bool true) ∧ Below w.heap.size w w' := by
  have HA : Hid (Row w (.slice a0 l0 c0) zs) := hA
  have HM : Hid (Row w (.slice a3 l3 c3) ms) := hM
  clear hA hM
  subst hkn
  have hE := fun W (b : Below w.heap.size w W) => hasx_ok _ zs k W (HA.out.below b) hK hg
  rw [hhad] at hE
  have hD := fun W (b : Below w.heap.size w W) => add_ok _ zs k W (HA.out.below b) hg hN
  rw [hmb] at hD
  have HC : Hid (Norm cs ∧ ∀ j, Mem cs j ↔ Mem zs j ∨ j = k) := ⟨hcn, hcm⟩
  have hgc := add_good hg hN hcn h13 hcm
  have hmc : memB cs k = true := by rw [memB_add hcm, hhad]; simp
  have hct := cnt_add hg hN hcn h13 hcm
  rw [hmb] at hct
  simp only [if_true, Bool.false_eq_true, if_false, Int.add_zero] at hct
  have hbz := cnt_big hg
  have hL := fun W (b : Below w.heap.size w W) => count_ok _ zs W (HA.out.below b) hg
  generalize cnt zs = cz at *
  have hq1 : (cz == cz + 1) = false := beq_eq_false_iff_ne.2 (by omega)
  have hq2 : ¬ cz = cz + 1 := by omega
  clear hcn hcm
  go_enter Tryd.func4, Tryd.ntmps4
  go_wp2_with fail
  have hB0 := (Below.refl w.heap.size w).alloc (Nat.le_refl _) (.cells #[.int .i64 7, .int .i64 9, .int .i64 3, .int .i64 5] 31)
  refine (fact_add w.heap.size _ (by simp) (by simp) (by simp) (by simp) (by simp)).mono ?_
  rintro e w1 ⟨fb, fo, fc, rfl, f0, f1, hb1⟩
  have hB1 := hB0.trans (hb1.mono hB0.size)
  go_wp2_with fail
  refine (hE _ hB1).mono ?_
  rintro e w2 ⟨rfl, hb2⟩
  have hB2 := hB1.trans (hb2.mono hB1.size)
  go_wp2_with fail
  refine (hD _ hB2).mono ?_
  rintro e w3 ⟨ds1, hdn1, hdm1, hdl1, hb3, hor1⟩
  obtain rfl : ds1 = cs := norm_unique hdn1 HC.out.1 (fun j => by rw [hdm1 j, HC.out.2 j])
  have hB3 := hB2.trans (hb3.mono hB2.size)
  clear hdn1 hdm1 hdl1
  obtain ⟨_, v1, hr1, rfl⟩ : _ ∧ _ := hor1.resolve_left (fun h => by omega)
  have HR1 : Hid (Row w3 v1 ds1) := hr1
  obtain ⟨a1, c1, rfl, _, _, _⟩ := hr1
  clear hor1
  have hX := fun W (b : Below w3.heap.size w3 W) => hasx_ok _ ds1 k W (HR1.out.below b) hK hgc
  rw [hmc] at hX
  have hU := fun W (b : Below w3.heap.size w3 W) => count_ok _ ds1 W (HR1.out.below b) hgc
  rw [hct] at hU
  generalize hqc : ds1.length = lc at *
  clear hqc h13
  go_wp2_with fail
  refine (hX _ (Below.refl _ _)).mono ?_
  rintro e w4 ⟨rfl, hb4⟩
  have hB4 := hB3.trans (hb4.mono hB3.size)
  have hy1 := hb4
  go_wp2_with fail
  refine (hL _ hB4).mono ?_
  rintro e w5 ⟨rfl, hb5⟩
  have hB5 := hB4.trans (hb5.mono hB4.size)
  have hy2 := hy1.trans (hb5.mono hy1.size)
  go_wp2_with fail
  refine (hU _ hy2).mono ?_
  rintro e w6 ⟨rfl, hb6⟩
  have hB6 := hB5.trans (hb6.mono hB5.size)
  by_cases hg2 : chk ms = 0
  · have hF := fun W (b : Below w.heap.size w W) => hasx_ok _ ms k W (HM.out.below b) hK hg2
    cases hal : memB ms k with
    | true =>
      rw [hal] at hF
      go_wp2_with fail
      refine (hF _ hB6).mono ?_
      rintro e w7 ⟨rfl, hb7⟩
      have hB7 := hB6.trans (hb7.mono hB6.size)
      go_wp2_with fail
      refine (both_ok _ _ zs ms _ (HA.out.below hB7) (HM.out.below hB7) hg hg2).mono ?_
      rintro e w8 ⟨ds, hdn, hdm, hdl, hb8, hor⟩
      have hB8 := hB7.trans (hb8.mono hB7.size)
      have HD : Hid (Norm ds ∧ ∀ j, Mem ds j ↔ Mem zs j ∨ Mem ms j) := ⟨hdn, hdm⟩
      clear hdn hdm hdl
      rcases hor with ⟨h13, rfl⟩ | ⟨h13, v2, hr2, rfl⟩
      · rw [errV4]
        go_wp2_with fail
        refine (both_ok _ _ ms zs _ (HM.out.below hB8) (HA.out.below hB8) hg2 hg).mono ?_
        rintro e w9 ⟨ds2, hdn2, hdm2, hdl2, hb9, hor2⟩
        have hB9 := hB8.trans (hb9.mono hB8.size)
        obtain rfl : ds2 = ds := norm_unique hdn2 HD.out.1 (fun j => by rw [hdm2 j, HD.out.2 j]; exact Or.comm)
        clear hdn2 hdm2 hdl2
        obtain ⟨_, rfl⟩ : _ ∧ _ := hor2.resolve_right (fun h => by omega)
        rw [errV4]
        clear hor2
        go_wp2_with fail
        refine (same_k 4 _ (hH.below hB9)).mono ?_
        rintro e w10 ⟨rfl, hb10⟩
        have hB10 := hB9.trans (hb10.mono hB9.size)
        go_wp2_with fail
        refine (same_k 4 _ (hH.below hB10)).mono ?_
        rintro e w11 ⟨rfl, hb11⟩
        have hB11 := hB10.trans (hb11.mono hB10.size)
        go_wp2_with fail
        go_ret
        exact ⟨rfl, hB11⟩
      · have HRy : Hid (Row w8 v2 ds) := hr2
        obtain ⟨ay, cy, rfl, _, _, _⟩ := hr2
        go_wp2_with fail
        refine (both_ok _ _ ms zs _ (HM.out.below hB8) (HA.out.below hB8) hg2 hg).mono ?_
        rintro e w9 ⟨ds2, hdn2, hdm2, hdl2, hb9, hor2⟩
        have hB9 := hB8.trans (hb9.mono hB8.size)
        obtain rfl : ds2 = ds := norm_unique hdn2 HD.out.1 (fun j => by rw [hdm2 j, HD.out.2 j]; exact Or.comm)
        clear hdn2 hdm2 hdl2
        obtain ⟨_, v3, hr3, rfl⟩ : _ ∧ _ := hor2.resolve_left (fun h => by omega)
        have HRz : Hid (Row w9 v3 ds2) := hr3
        obtain ⟨az, cz, rfl, _, _, _⟩ := hr3
        clear hor2
        have hgd := both_good hg hg2 HD.out.1 h13 HD.out.2
        have hmd : memB ds2 k = true := by rw [memB_both HD.out.2, hhad, hal]; rfl
        have hY := fun W (b : Below w8.heap.size w8 W) => hasx_ok _ ds2 k W (HRy.out.below b) hK hgd
        rw [hmd] at hY
        have hV := fun W (b : Below w8.heap.size w8 W) => check_calls _ ds2 W (HRy.out.below b)
        rw [hgd, errV0] at hV
        generalize hqd : ds2.length = ld at *
        clear hqd h13
        have hz0 := hb9
        go_wp2_with fail
        refine (hY _ hz0).mono ?_
        rintro e w10 ⟨rfl, hb10⟩
        have hB10 := hB9.trans (hb10.mono hB9.size)
        have hz1 := hz0.trans (hb10.mono hz0.size)
        go_wp2_with fail
        refine (samer_eq _ _ ds2 _ (HRy.out.below hz1) (HRz.out.below hb10)).mono ?_
        rintro e w11 ⟨rfl, hb11⟩
        have hB11 := hB10.trans (hb11.mono hB10.size)
        have hz2 := hz1.trans (hb11.mono hz1.size)
        go_wp2_with fail
        refine (hV _ hz2).mono ?_
        rintro e w12 ⟨rfl, hb12⟩
        have hB12 := hB11.trans (hb12.mono hB11.size)
        go_wp2_with fail
        go_ret
        exact ⟨rfl, hB12⟩
    | false =>
      rw [hal] at hF
      go_wp2_with fail
      refine (hF _ hB6).mono ?_
      rintro e w7 ⟨rfl, hb7⟩
      have hB7 := hB6.trans (hb7.mono hB6.size)
      go_wp2_with fail
      refine (both_ok _ _ zs ms _ (HA.out.below hB7) (HM.out.below hB7) hg hg2).mono ?_
      rintro e w8 ⟨ds, hdn, hdm, hdl, hb8, hor⟩
      have hB8 := hB7.trans (hb8.mono hB7.size)
      have HD : Hid (Norm ds ∧ ∀ j, Mem ds j ↔ Mem zs j ∨ Mem ms j) := ⟨hdn, hdm⟩
      clear hdn hdm hdl
      rcases hor with ⟨h13, rfl⟩ | ⟨h13, v2, hr2, rfl⟩
      · rw [errV4]
        go_wp2_with fail
        refine (both_ok _ _ ms zs _ (HM.out.below hB8) (HA.out.below hB8) hg2 hg).mono ?_
        rintro e w9 ⟨ds2, hdn2, hdm2, hdl2, hb9, hor2⟩
        have hB9 := hB8.trans (hb9.mono hB8.size)
        obtain rfl : ds2 = ds := norm_unique hdn2 HD.out.1 (fun j => by rw [hdm2 j, HD.out.2 j]; exact Or.comm)
        clear hdn2 hdm2 hdl2
        obtain ⟨_, rfl⟩ : _ ∧ _ := hor2.resolve_right (fun h => by omega)
        rw [errV4]
        clear hor2
        go_wp2_with fail
        refine (same_k 4 _ (hH.below hB9)).mono ?_
        rintro e w10 ⟨rfl, hb10⟩
        have hB10 := hB9.trans (hb10.mono hB9.size)
        go_wp2_with fail
        refine (same_k 4 _ (hH.below hB10)).mono ?_
        rintro e w11 ⟨rfl, hb11⟩
        have hB11 := hB10.trans (hb11.mono hB10.size)
        go_wp2_with fail
        go_ret
        exact ⟨rfl, hB11⟩
      · have HRy : Hid (Row w8 v2 ds) := hr2
        obtain ⟨ay, cy, rfl, _, _, _⟩ := hr2
        go_wp2_with fail
        refine (both_ok _ _ ms zs _ (HM.out.below hB8) (HA.out.below hB8) hg2 hg).mono ?_
        rintro e w9 ⟨ds2, hdn2, hdm2, hdl2, hb9, hor2⟩
        have hB9 := hB8.trans (hb9.mono hB8.size)
        obtain rfl : ds2 = ds := norm_unique hdn2 HD.out.1 (fun j => by rw [hdm2 j, HD.out.2 j]; exact Or.comm)
        clear hdn2 hdm2 hdl2
        obtain ⟨_, v3, hr3, rfl⟩ : _ ∧ _ := hor2.resolve_left (fun h => by omega)
        have HRz : Hid (Row w9 v3 ds2) := hr3
        obtain ⟨az, cz, rfl, _, _, _⟩ := hr3
        clear hor2
        have hgd := both_good hg hg2 HD.out.1 h13 HD.out.2
        have hmd : memB ds2 k = true := by rw [memB_both HD.out.2, hhad, hal]; rfl
        have hY := fun W (b : Below w8.heap.size w8 W) => hasx_ok _ ds2 k W (HRy.out.below b) hK hgd
        rw [hmd] at hY
        have hV := fun W (b : Below w8.heap.size w8 W) => check_calls _ ds2 W (HRy.out.below b)
        rw [hgd, errV0] at hV
        generalize hqd : ds2.length = ld at *
        clear hqd h13
        have hz0 := hb9
        go_wp2_with fail
        refine (hY _ hz0).mono ?_
        rintro e w10 ⟨rfl, hb10⟩
        have hB10 := hB9.trans (hb10.mono hB9.size)
        have hz1 := hz0.trans (hb10.mono hz0.size)
        go_wp2_with fail
        refine (samer_eq _ _ ds2 _ (HRy.out.below hz1) (HRz.out.below hb10)).mono ?_
        rintro e w11 ⟨rfl, hb11⟩
        have hB11 := hB10.trans (hb11.mono hB10.size)
        have hz2 := hz1.trans (hb11.mono hz1.size)
        go_wp2_with fail
        refine (hV _ hz2).mono ?_
        rintro e w12 ⟨rfl, hb12⟩
        have hB12 := hB11.trans (hb12.mono hB11.size)
        go_wp2_with fail
        go_ret
        exact ⟨rfl, hB12⟩
  · have hF := fun W (b : Below w.heap.size w W) => hasx_bad _ ms k W (HM.out.below b) hK hg2
    rw [errV_ne hg2] at hF
    generalize chk ms = g2 at hF
    go_wp2_with fail
    refine (hF _ hB6).mono ?_
    rintro e w7 ⟨rfl, hb7⟩
    have hB7 := hB6.trans (hb7.mono hB6.size)
    go_wp2_with fail
    go_ret
    exact ⟨rfl, hB7⟩

set_option maxRecDepth 100000 in
set_option maxHeartbeats 4000000 in
theorem set_C010 (a0 a3 : Option Addr) (l0 l3 c0 c3 : Nat) (n k : Int) (zs ms : List R) (w : World) (hH : Handle w) (hA : Row w (.slice a0 l0 c0) zs) (hM : Row w (.slice a3 l3 c3) ms) (hK : isN k = true) (hg : chk zs = 0) (hhad : memB zs k = false) (hN : isN n = true) (hkn : k = n) (hmb : memB zs n = false) (cs : List R) (hcn : Norm cs) (hcm : ∀ j, Mem cs j ↔ Mem zs j ∨ j = n) (h13 : cs.length ≤ 12) :
    Calls Tryd.prog 4 #[.slice a0 l0 c0, .int .i64 n, .int .i64 k, .slice a3 l3 c3] w fun e w' => e = .returned (.bool true) ∧ Below w.heap.size w w' := by
  have HA : Hid (Row w (.slice a0 l0 c0) zs) := hA
  have HM : Hid (Row w (.slice a3 l3 c3) ms) := hM
  clear hA hM
  subst hkn
  have hE := fun W (b : Below w.heap.size w W) => hasx_ok _ zs k W (HA.out.below b) hK hg
  rw [hhad] at hE
  have hD := fun W (b : Below w.heap.size w W) => add_ok _ zs k W (HA.out.below b) hg hN
  rw [hmb] at hD
  have HC : Hid (Norm cs ∧ ∀ j, Mem cs j ↔ Mem zs j ∨ j = k) := ⟨hcn, hcm⟩
  have hgc := add_good hg hN hcn h13 hcm
  have hmc : memB cs k = true := by rw [memB_add hcm, hhad]; simp
  have hct := cnt_add hg hN hcn h13 hcm
  rw [hmb] at hct
  simp only [if_true, Bool.false_eq_true, if_false, Int.add_zero] at hct
  have hbz := cnt_big hg
  have hL := fun W (b : Below w.heap.size w W) => count_ok _ zs W (HA.out.below b) hg
  generalize cnt zs = cz at *
  clear hcn hcm
  go_enter Tryd.func4, Tryd.ntmps4
  go_wp2_with fail
  have hB0 := (Below.refl w.heap.size w).alloc (Nat.le_refl _) (.cells #[.int .i64 7, .int .i64 9, .int .i64 3, .int .i64 5] 31)
  refine (fact_add w.heap.size _ (by simp) (by simp) (by simp) (by simp) (by simp)).mono ?_
  rintro e w1 ⟨fb, fo, fc, rfl, f0, f1, hb1⟩
  have hB1 := hB0.trans (hb1.mono hB0.size)
  go_wp2_with fail
  refine (hE _ hB1).mono ?_
  rintro e w2 ⟨rfl, hb2⟩
  have hB2 := hB1.trans (hb2.mono hB1.size)
  go_wp2_with fail
  refine (hD _ hB2).mono ?_
  rintro e w3 ⟨ds1, hdn1, hdm1, hdl1, hb3, hor1⟩
  obtain rfl : ds1 = cs := norm_unique hdn1 HC.out.1 (fun j => by rw [hdm1 j, HC.out.2 j])
  have hB3 := hB2.trans (hb3.mono hB2.size)
  clear hdn1 hdm1 hdl1
  obtain ⟨_, v1, hr1, rfl⟩ : _ ∧ _ := hor1.resolve_left (fun h => by omega)
  have HR1 : Hid (Row w3 v1 ds1) := hr1
  obtain ⟨a1, c1, rfl, _, _, _⟩ := hr1
  clear hor1
  have hX := fun W (b : Below w3.heap.size w3 W) => hasx_ok _ ds1 k W (HR1.out.below b) hK hgc
  rw [hmc] at hX
  have hU := fun W (b : Below w3.heap.size w3 W) => count_ok _ ds1 W (HR1.out.below b) hgc
  rw [hct] at hU
  generalize hqc : ds1.length = lc at *
  clear hqc h13
  go_wp2_with fail
  refine (hX _ (Below.refl _ _)).mono ?_
  rintro e w4 ⟨rfl, hb4⟩
  have hB4 := hB3.trans (hb4.mono hB3.size)
  have hy1 := hb4
  go_wp2_with fail
  refine (hL _ hB4).mono ?_
  rintro e w5 ⟨rfl, hb5⟩
  have hB5 := hB4.trans (hb5.mono hB4.size)
  have hy2 := hy1.trans (hb5.mono hy1.size)
  go_wp2_with fail
  refine (hU _ hy2).mono ?_
  rintro e w6 ⟨rfl, hb6⟩
  have hB6 := hB5.trans (hb6.mono hB5.size)
  by_cases hg2 : chk ms = 0
  · have hF := fun W (b : Below w.heap.size w W) => hasx_ok _ ms k W (HM.out.below b) hK hg2
    cases hal : memB ms k with
    | true =>
      rw [hal] at hF
      go_wp2_with fail
      refine (hF _ hB6).mono ?_
      rintro e w7 ⟨rfl, hb7⟩
      have hB7 := hB6.trans (hb7.mono hB6.size)
      go_wp2_with fail
      refine (both_ok _ _ zs ms _ (HA.out.below hB7) (HM.out.below hB7) hg hg2).mono ?_
      rintro e w8 ⟨ds, hdn, hdm, hdl, hb8, hor⟩
      have hB8 := hB7.trans (hb8.mono hB7.size)
      have HD : Hid (Norm ds ∧ ∀ j, Mem ds j ↔ Mem zs j ∨ Mem ms j) := ⟨hdn, hdm⟩
      clear hdn hdm hdl
      rcases hor with ⟨h13, rfl⟩ | ⟨h13, v2, hr2, rfl⟩
      · rw [errV4]
        go_wp2_with fail
        refine (both_ok _ _ ms zs _ (HM.out.below hB8) (HA.out.below hB8) hg2 hg).mono ?_
        rintro e w9 ⟨ds2, hdn2, hdm2, hdl2, hb9, hor2⟩
        have hB9 := hB8.trans (hb9.mono hB8.size)
        obtain rfl : ds2 = ds := norm_unique hdn2 HD.out.1 (fun j => by rw [hdm2 j, HD.out.2 j]; exact Or.comm)
        clear hdn2 hdm2 hdl2
        obtain ⟨_, rfl⟩ : _ ∧ _ := hor2.resolve_right (fun h => by omega)
        rw [errV4]
        clear hor2
        go_wp2_with fail
        refine (same_k 4 _ (hH.below hB9)).mono ?_
        rintro e w10 ⟨rfl, hb10⟩
        have hB10 := hB9.trans (hb10.mono hB9.size)
        go_wp2_with fail
        refine (same_k 4 _ (hH.below hB10)).mono ?_
        rintro e w11 ⟨rfl, hb11⟩
        have hB11 := hB10.trans (hb11.mono hB10.size)
        go_wp2_with fail
        go_ret
        exact ⟨rfl, hB11⟩
      · have HRy : Hid (Row w8 v2 ds) := hr2
        obtain ⟨ay, cy, rfl, _, _, _⟩ := hr2
        go_wp2_with fail
        refine (both_ok _ _ ms zs _ (HM.out.below hB8) (HA.out.below hB8) hg2 hg).mono ?_
        rintro e w9 ⟨ds2, hdn2, hdm2, hdl2, hb9, hor2⟩
        have hB9 := hB8.trans (hb9.mono hB8.size)
        obtain rfl : ds2 = ds := norm_unique hdn2 HD.out.1 (fun j => by rw [hdm2 j, HD.out.2 j]; exact Or.comm)
        clear hdn2 hdm2 hdl2
        obtain ⟨_, v3, hr3, rfl⟩ : _ ∧ _ := hor2.resolve_left (fun h => by omega)
        have HRz : Hid (Row w9 v3 ds2) := hr3
        obtain ⟨az, cz, rfl, _, _, _⟩ := hr3
        clear hor2
        have hgd := both_good hg hg2 HD.out.1 h13 HD.out.2
        have hmd : memB ds2 k = true := by rw [memB_both HD.out.2, hhad, hal]; rfl
        have hY := fun W (b : Below w8.heap.size w8 W) => hasx_ok _ ds2 k W (HRy.out.below b) hK hgd
        rw [hmd] at hY
        have hV := fun W (b : Below w8.heap.size w8 W) => check_calls _ ds2 W (HRy.out.below b)
        rw [hgd, errV0] at hV
        generalize hqd : ds2.length = ld at *
        clear hqd h13
        have hz0 := hb9
        go_wp2_with fail
        refine (hY _ hz0).mono ?_
        rintro e w10 ⟨rfl, hb10⟩
        have hB10 := hB9.trans (hb10.mono hB9.size)
        have hz1 := hz0.trans (hb10.mono hz0.size)
        go_wp2_with fail
        refine (samer_eq _ _ ds2 _ (HRy.out.below hz1) (HRz.out.below hb10)).mono ?_
        rintro e w11 ⟨rfl, hb11⟩
        have hB11 := hB10.trans (hb11.mono hB10.size)
        have hz2 := hz1.trans (hb11.mono hz1.size)
        go_wp2_with fail
        refine (hV _ hz2).mono ?_
        rintro e w12 ⟨rfl, hb12⟩
        have hB12 := hB11.trans (hb12.mono hB11.size)
        go_wp2_with fail
        go_ret
        exact ⟨rfl, hB12⟩
    | false =>
      rw [hal] at hF
      go_wp2_with fail
      refine (hF _ hB6).mono ?_
      rintro e w7 ⟨rfl, hb7⟩
      have hB7 := hB6.trans (hb7.mono hB6.size)
      go_wp2_with fail
      refine (both_ok _ _ zs ms _ (HA.out.below hB7) (HM.out.below hB7) hg hg2).mono ?_
      rintro e w8 ⟨ds, hdn, hdm, hdl, hb8, hor⟩
      have hB8 := hB7.trans (hb8.mono hB7.size)
      have HD : Hid (Norm ds ∧ ∀ j, Mem ds j ↔ Mem zs j ∨ Mem ms j) := ⟨hdn, hdm⟩
      clear hdn hdm hdl
      rcases hor with ⟨h13, rfl⟩ | ⟨h13, v2, hr2, rfl⟩
      · rw [errV4]
        go_wp2_with fail
        refine (both_ok _ _ ms zs _ (HM.out.below hB8) (HA.out.below hB8) hg2 hg).mono ?_
        rintro e w9 ⟨ds2, hdn2, hdm2, hdl2, hb9, hor2⟩
        have hB9 := hB8.trans (hb9.mono hB8.size)
        obtain rfl : ds2 = ds := norm_unique hdn2 HD.out.1 (fun j => by rw [hdm2 j, HD.out.2 j]; exact Or.comm)
        clear hdn2 hdm2 hdl2
        obtain ⟨_, rfl⟩ : _ ∧ _ := hor2.resolve_right (fun h => by omega)
        rw [errV4]
        clear hor2
        go_wp2_with fail
        refine (same_k 4 _ (hH.below hB9)).mono ?_
        rintro e w10 ⟨rfl, hb10⟩
        have hB10 := hB9.trans (hb10.mono hB9.size)
        go_wp2_with fail
        refine (same_k 4 _ (hH.below hB10)).mono ?_
        rintro e w11 ⟨rfl, hb11⟩
        have hB11 := hB10.trans (hb11.mono hB10.size)
        go_wp2_with fail
        go_ret
        exact ⟨rfl, hB11⟩
      · have HRy : Hid (Row w8 v2 ds) := hr2
        obtain ⟨ay, cy, rfl, _, _, _⟩ := hr2
        go_wp2_with fail
        refine (both_ok _ _ ms zs _ (HM.out.below hB8) (HA.out.below hB8) hg2 hg).mono ?_
        rintro e w9 ⟨ds2, hdn2, hdm2, hdl2, hb9, hor2⟩
        have hB9 := hB8.trans (hb9.mono hB8.size)
        obtain rfl : ds2 = ds := norm_unique hdn2 HD.out.1 (fun j => by rw [hdm2 j, HD.out.2 j]; exact Or.comm)
        clear hdn2 hdm2 hdl2
        obtain ⟨_, v3, hr3, rfl⟩ : _ ∧ _ := hor2.resolve_left (fun h => by omega)
        have HRz : Hid (Row w9 v3 ds2) := hr3
        obtain ⟨az, cz, rfl, _, _, _⟩ := hr3
        clear hor2
        have hgd := both_good hg hg2 HD.out.1 h13 HD.out.2
        have hmd : memB ds2 k = false := by rw [memB_both HD.out.2, hhad, hal]; rfl
        have hY := fun W (b : Below w8.heap.size w8 W) => hasx_ok _ ds2 k W (HRy.out.below b) hK hgd
        rw [hmd] at hY
        have hV := fun W (b : Below w8.heap.size w8 W) => check_calls _ ds2 W (HRy.out.below b)
        rw [hgd, errV0] at hV
        generalize hqd : ds2.length = ld at *
        clear hqd h13
        have hz0 := hb9
        go_wp2_with fail
        refine (hY _ hz0).mono ?_
        rintro e w10 ⟨rfl, hb10⟩
        have hB10 := hB9.trans (hb10.mono hB9.size)
        have hz1 := hz0.trans (hb10.mono hz0.size)
        go_wp2_with fail
        refine (samer_eq _ _ ds2 _ (HRy.out.below hz1) (HRz.out.below hb10)).mono ?_
        rintro e w11 ⟨rfl, hb11⟩
        have hB11 := hB10.trans (hb11.mono hB10.size)
        have hz2 := hz1.trans (hb11.mono hz1.size)
        go_wp2_with fail
        refine (hV _ hz2).mono ?_
        rintro e w12 ⟨rfl, hb12⟩
        have hB12 := hB11.trans (hb12.mono hB11.size)
        go_wp2_with fail
        go_ret
        exact ⟨rfl, hB12⟩
  · have hF := fun W (b : Below w.heap.size w W) => hasx_bad _ ms k W (HM.out.below b) hK hg2
    rw [errV_ne hg2] at hF
    generalize chk ms = g2 at hF
    go_wp2_with fail
    refine (hF _ hB6).mono ?_
    rintro e w7 ⟨rfl, hb7⟩
    have hB7 := hB6.trans (hb7.mono hB6.size)
    go_wp2_with fail
    go_ret
    exact ⟨rfl, hB7⟩
end Go.Proofs.YtbglleldbogaaaaDoor
