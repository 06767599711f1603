/- RangesSet where k is none, or l has a fault; and where n is none, or there would be too many ranges. -/
import Derived.Test.YtbglleldbogaaaaDoorX
namespace Go.Proofs.YtbglleldbogaaaaDoor
open Go.RowKit Go.Lib Go.Sort Go.Shelf
set_option linter.unusedVariables false
set_option linter.unusedSimpArgs false

set_option maxRecDepth 100000 in
set_option maxHeartbeats 4000000 in
theorem set_badN (a0 a3 : Option Addr) (l0 l3 c0 c3 : Nat) (n k : Int) (zs ms : List R) (w : World) (hH : Handle w) (hA : Row w (.slice a0 l0 c0) zs) (hM : Row w (.slice a3 l3 c3) ms) (hK : isN k = false) :
    Calls Tryd.prog 4 #[.slice a0 l0 c0, .int .i64 n, .int .i64 k, .slice a3 l3 c3] w fun e w' => e = .returned (.bool true) ∧ Below w.heap.size w w' := by
  have HA : Hid (Row w (.slice a0 l0 c0) zs) := hA
  have HM : Hid (Row w (.slice a3 l3 c3) ms) := hM
  clear hA hM
  have hE := fun W (b : Below w.heap.size w W) => hasx_no _ zs k W (HA.out.below b) hK
  rw [errV1] at hE
  go_enter Tryd.func4, Tryd.ntmps4
  go_wp2_with fail
  have hB0 := (Below.refl w.heap.size w).alloc (Nat.le_refl _) (.cells #[.int .i64 7, .int .i64 9, .int .i64 3, .int .i64 5] 31)
  refine (fact_add w.heap.size _ (by simp) (by simp) (by simp) (by simp) (by simp)).mono ?_
  rintro e w1 ⟨fb, fo, fc, rfl, f0, f1, hb1⟩
  have hB1 := hB0.trans (hb1.mono hB0.size)
  go_wp2_with fail
  refine (hE _ hB1).mono ?_
  rintro e w2 ⟨rfl, hb2⟩
  have hB2 := hB1.trans (hb2.mono hB1.size)
  go_wp2_with fail
  go_ret
  exact ⟨rfl, hB2⟩

set_option maxRecDepth 100000 in
set_option maxHeartbeats 4000000 in
theorem set_badL (a0 a3 : Option Addr) (l0 l3 c0 c3 : Nat) (n k : Int) (zs ms : List R) (w : World) (hH : Handle w) (hA : Row w (.slice a0 l0 c0) zs) (hM : Row w (.slice a3 l3 c3) ms) (hK : isN k = true) (hg : chk zs ≠ 0) :
    Calls Tryd.prog 4 #[.slice a0 l0 c0, .int .i64 n, .int .i64 k, .slice a3 l3 c3] w fun e w' => e = .returned (.bool true) ∧ Below w.heap.size w w' := by
  have HA : Hid (Row w (.slice a0 l0 c0) zs) := hA
  have HM : Hid (Row w (.slice a3 l3 c3) ms) := hM
  clear hA hM
  have hE := fun W (b : Below w.heap.size w W) => hasx_bad _ zs k W (HA.out.below b) hK hg
  rw [errV_ne hg] at hE
  generalize chk zs = g at hE
  go_enter Tryd.func4, Tryd.ntmps4
  go_wp2_with fail
  have hB0 := (Below.refl w.heap.size w).alloc (Nat.le_refl _) (.cells #[.int .i64 7, .int .i64 9, .int .i64 3, .int .i64 5] 31)
  refine (fact_add w.heap.size _ (by simp) (by simp) (by simp) (by simp) (by simp)).mono ?_
  rintro e w1 ⟨fb, fo, fc, rfl, f0, f1, hb1⟩
  have hB1 := hB0.trans (hb1.mono hB0.size)
  go_wp2_with fail
  refine (hE _ hB1).mono ?_
  rintro e w2 ⟨rfl, hb2⟩
  have hB2 := hB1.trans (hb2.mono hB1.size)
  go_wp2_with fail
  go_ret
  exact ⟨rfl, hB2⟩

set_option maxRecDepth 100000 in
set_option maxHeartbeats 4000000 in
theorem set_B1 (a0 a3 : Option Addr) (l0 l3 c0 c3 : Nat) (n k : Int) (zs ms : List R) (w : World) (hH : Handle w) (hA : Row w (.slice a0 l0 c0) zs) (hM : Row w (.slice a3 l3 c3) ms) (hK : isN k = true) (hg : chk zs = 0) (hhad : memB zs k = true) (hN : isN n = false) :
    Calls Tryd.prog 4 #[.slice a0 l0 c0, .int .i64 n, .int .i64 k, .slice a3 l3 c3] w fun e w' => e = .returned (.bool true) ∧ Below w.heap.size w w' := by
  have HA : Hid (Row w (.slice a0 l0 c0) zs) := hA
  have HM : Hid (Row w (.slice a3 l3 c3) ms) := hM
  clear hA hM
  have hE := fun W (b : Below w.heap.size w W) => hasx_ok _ zs k W (HA.out.below b) hK hg
  rw [hhad] at hE
  have hD := fun W (b : Below w.heap.size w W) => add_no _ zs n W (HA.out.below b) hg hN
  rw [errV1] at hD
  go_enter Tryd.func4, Tryd.ntmps4
  go_wp2_with fail
  have hB0 := (Below.refl w.heap.size w).alloc (Nat.le_refl _) (.cells #[.int .i64 7, .int .i64 9, .int .i64 3, .int .i64 5] 31)
  refine (fact_add w.heap.size _ (by simp) (by simp) (by simp) (by simp) (by simp)).mono ?_
  rintro e w1 ⟨fb, fo, fc, rfl, f0, f1, hb1⟩
  have hB1 := hB0.trans (hb1.mono hB0.size)
  go_wp2_with fail
  refine (hE _ hB1).mono ?_
  rintro e w2 ⟨rfl, hb2⟩
  have hB2 := hB1.trans (hb2.mono hB1.size)
  go_wp2_with fail
  refine (hD _ hB2).mono ?_
  rintro e w3 ⟨rfl, hb3⟩
  have hB3 := hB2.trans (hb3.mono hB2.size)
  by_cases hg2 : chk ms = 0
  · have hF := fun W (b : Below w.heap.size w W) => hasx_ok _ ms k W (HM.out.below b) hK hg2
    cases hal : memB ms k with
    | true =>
      rw [hal] at hF
      go_wp2_with fail
      refine (hF _ hB3).mono ?_
      rintro e w4 ⟨rfl, hb4⟩
      have hB4 := hB3.trans (hb4.mono hB3.size)
      go_wp2_with fail
      refine (both_ok _ _ zs ms _ (HA.out.below hB4) (HM.out.below hB4) hg hg2).mono ?_
      rintro e w5 ⟨ds, hdn, hdm, hdl, hb5, hor⟩
      have hB5 := hB4.trans (hb5.mono hB4.size)
      have HD : Hid (Norm ds ∧ ∀ j, Mem ds j ↔ Mem zs j ∨ Mem ms j) := ⟨hdn, hdm⟩
      clear hdn hdm hdl
      rcases hor with ⟨h13, rfl⟩ | ⟨h13, v2, hr2, rfl⟩
      · rw [errV4]
        go_wp2_with fail
        refine (both_ok _ _ ms zs _ (HM.out.below hB5) (HA.out.below hB5) hg2 hg).mono ?_
        rintro e w6 ⟨ds2, hdn2, hdm2, hdl2, hb6, hor2⟩
        have hB6 := hB5.trans (hb6.mono hB5.size)
        obtain rfl : ds2 = ds := norm_unique hdn2 HD.out.1 (fun j => by rw [hdm2 j, HD.out.2 j]; exact Or.comm)
        clear hdn2 hdm2 hdl2
        obtain ⟨_, rfl⟩ : _ ∧ _ := hor2.resolve_right (fun h => by omega)
        rw [errV4]
        clear hor2
        go_wp2_with fail
        refine (same_k 4 _ (hH.below hB6)).mono ?_
        rintro e w7 ⟨rfl, hb7⟩
        have hB7 := hB6.trans (hb7.mono hB6.size)
        go_wp2_with fail
        refine (same_k 4 _ (hH.below hB7)).mono ?_
        rintro e w8 ⟨rfl, hb8⟩
        have hB8 := hB7.trans (hb8.mono hB7.size)
        go_wp2_with fail
        go_ret
        exact ⟨rfl, hB8⟩
      · have HRy : Hid (Row w5 v2 ds) := hr2
        obtain ⟨ay, cy, rfl, _, _, _⟩ := hr2
        go_wp2_with fail
        refine (both_ok _ _ ms zs _ (HM.out.below hB5) (HA.out.below hB5) hg2 hg).mono ?_
        rintro e w6 ⟨ds2, hdn2, hdm2, hdl2, hb6, hor2⟩
        have hB6 := hB5.trans (hb6.mono hB5.size)
        obtain rfl : ds2 = ds := norm_unique hdn2 HD.out.1 (fun j => by rw [hdm2 j, HD.out.2 j]; exact Or.comm)
        clear hdn2 hdm2 hdl2
        obtain ⟨_, v3, hr3, rfl⟩ : _ ∧ _ := hor2.resolve_left (fun h => by omega)
        have HRz : Hid (Row w6 v3 ds2) := hr3
        obtain ⟨az, cz, rfl, _, _, _⟩ := hr3
        clear hor2
        have hgd := both_good hg hg2 HD.out.1 h13 HD.out.2
        have hmd : memB ds2 k = true := by rw [memB_both HD.out.2, hhad, hal]; rfl
        have hY := fun W (b : Below w5.heap.size w5 W) => hasx_ok _ ds2 k W (HRy.out.below b) hK hgd
        rw [hmd] at hY
        have hV := fun W (b : Below w5.heap.size w5 W) => check_calls _ ds2 W (HRy.out.below b)
        rw [hgd, errV0] at hV
        generalize hqd : ds2.length = ld at *
        clear hqd h13
        have hz0 := hb6
        go_wp2_with fail
        refine (hY _ hz0).mono ?_
        rintro e w7 ⟨rfl, hb7⟩
        have hB7 := hB6.trans (hb7.mono hB6.size)
        have hz1 := hz0.trans (hb7.mono hz0.size)
        go_wp2_with fail
        refine (samer_eq _ _ ds2 _ (HRy.out.below hz1) (HRz.out.below hb7)).mono ?_
        rintro e w8 ⟨rfl, hb8⟩
        have hB8 := hB7.trans (hb8.mono hB7.size)
        have hz2 := hz1.trans (hb8.mono hz1.size)
        go_wp2_with fail
        refine (hV _ hz2).mono ?_
        rintro e w9 ⟨rfl, hb9⟩
        have hB9 := hB8.trans (hb9.mono hB8.size)
        go_wp2_with fail
        go_ret
        exact ⟨rfl, hB9⟩
    | false =>
      rw [hal] at hF
      go_wp2_with fail
      refine (hF _ hB3).mono ?_
      rintro e w4 ⟨rfl, hb4⟩
      have hB4 := hB3.trans (hb4.mono hB3.size)
      go_wp2_with fail
      refine (both_ok _ _ zs ms _ (HA.out.below hB4) (HM.out.below hB4) hg hg2).mono ?_
      rintro e w5 ⟨ds, hdn, hdm, hdl, hb5, hor⟩
      have hB5 := hB4.trans (hb5.mono hB4.size)
      have HD : Hid (Norm ds ∧ ∀ j, Mem ds j ↔ Mem zs j ∨ Mem ms j) := ⟨hdn, hdm⟩
      clear hdn hdm hdl
      rcases hor with ⟨h13, rfl⟩ | ⟨h13, v2, hr2, rfl⟩
      · rw [errV4]
        go_wp2_with fail
        refine (both_ok _ _ ms zs _ (HM.out.below hB5) (HA.out.below hB5) hg2 hg).mono ?_
        rintro e w6 ⟨ds2, hdn2, hdm2, hdl2, hb6, hor2⟩
        have hB6 := hB5.trans (hb6.mono hB5.size)
        obtain rfl : ds2 = ds := norm_unique hdn2 HD.out.1 (fun j => by rw [hdm2 j, HD.out.2 j]; exact Or.comm)
        clear hdn2 hdm2 hdl2
        obtain ⟨_, rfl⟩ : _ ∧ _ := hor2.resolve_right (fun h => by omega)
        rw [errV4]
        clear hor2
        go_wp2_with fail
        refine (same_k 4 _ (hH.below hB6)).mono ?_
        rintro e w7 ⟨rfl, hb7⟩
        have hB7 := hB6.trans (hb7.mono hB6.size)
        go_wp2_with fail
        refine (same_k 4 _ (hH.below hB7)).mono ?_
        rintro e w8 ⟨rfl, hb8⟩
        have hB8 := hB7.trans (hb8.mono hB7.size)
        go_wp2_with fail
        go_ret
        exact ⟨rfl, hB8⟩
      · have HRy : Hid (Row w5 v2 ds) := hr2
        obtain ⟨ay, cy, rfl, _, _, _⟩ := hr2
        go_wp2_with fail
        refine (both_ok _ _ ms zs _ (HM.out.below hB5) (HA.out.below hB5) hg2 hg).mono ?_
        rintro e w6 ⟨ds2, hdn2, hdm2, hdl2, hb6, hor2⟩
        have hB6 := hB5.trans (hb6.mono hB5.size)
        obtain rfl : ds2 = ds := norm_unique hdn2 HD.out.1 (fun j => by rw [hdm2 j, HD.out.2 j]; exact Or.comm)
        clear hdn2 hdm2 hdl2
        obtain ⟨_, v3, hr3, rfl⟩ : _ ∧ _ := hor2.resolve_left (fun h => by omega)
        have HRz : Hid (Row w6 v3 ds2) := hr3
        obtain ⟨az, cz, rfl, _, _, _⟩ := hr3
        clear hor2
        have hgd := both_good hg hg2 HD.out.1 h13 HD.out.2
        have hmd : memB ds2 k = true := by rw [memB_both HD.out.2, hhad, hal]; rfl
        have hY := fun W (b : Below w5.heap.size w5 W) => hasx_ok _ ds2 k W (HRy.out.below b) hK hgd
        rw [hmd] at hY
        have hV := fun W (b : Below w5.heap.size w5 W) => check_calls _ ds2 W (HRy.out.below b)
        rw [hgd, errV0] at hV
        generalize hqd : ds2.length = ld at *
        clear hqd h13
        have hz0 := hb6
        go_wp2_with fail
        refine (hY _ hz0).mono ?_
        rintro e w7 ⟨rfl, hb7⟩
        have hB7 := hB6.trans (hb7.mono hB6.size)
        have hz1 := hz0.trans (hb7.mono hz0.size)
        go_wp2_with fail
        refine (samer_eq _ _ ds2 _ (HRy.out.below hz1) (HRz.out.below hb7)).mono ?_
        rintro e w8 ⟨rfl, hb8⟩
        have hB8 := hB7.trans (hb8.mono hB7.size)
        have hz2 := hz1.trans (hb8.mono hz1.size)
        go_wp2_with fail
        refine (hV _ hz2).mono ?_
        rintro e w9 ⟨rfl, hb9⟩
        have hB9 := hB8.trans (hb9.mono hB8.size)
        go_wp2_with fail
        go_ret
        exact ⟨rfl, hB9⟩
  · have hF := fun W (b : Below w.heap.size w W) => hasx_bad _ ms k W (HM.out.below b) hK hg2
    rw [errV_ne hg2] at hF
    generalize chk ms = g2 at hF
    go_wp2_with fail
    refine (hF _ hB3).mono ?_
    rintro e w4 ⟨rfl, hb4⟩
    have hB4 := hB3.trans (hb4.mono hB3.size)
    go_wp2_with fail
    go_ret
    exact ⟨rfl, hB4⟩

set_option maxRecDepth 100000 in
set_option maxHeartbeats 4000000 in
theorem set_B0 (a0 a3 : Option Addr) (l0 l3 c0 c3 : Nat) (n k : Int) (zs ms : List R) (w : World) (hH : Handle w) (hA : Row w (.slice a0 l0 c0) zs) (hM : Row w (.slice a3 l3 c3) ms) (hK : isN k = true) (hg : chk zs = 0) (hhad : memB zs k = false) (hN : isN n = false) :
    Calls Tryd.prog 4 #[.slice a0 l0 c0, .int .i64 n, .int .i64 k, .slice a3 l3 c3] w fun e w' => e = .returned (.bool true) ∧ Below w.heap.size w w' := by
  have HA : Hid (Row w (.slice a0 l0 c0) zs) := hA
  have HM : Hid (Row w (.slice a3 l3 c3) ms) := hM
  clear hA hM
  have hE := fun W (b : Below w.heap.size w W) => hasx_ok _ zs k W (HA.out.below b) hK hg
  rw [hhad] at hE
  have hD := fun W (b : Below w.heap.size w W) => add_no _ zs n W (HA.out.below b) hg hN
  rw [errV1] at hD
  go_enter Tryd.func4, Tryd.ntmps4
  go_wp2_with fail
  have hB0 := (Below.refl w.heap.size w).alloc (Nat.le_refl _) (.cells #[.int .i64 7, .int .i64 9, .int .i64 3, .int .i64 5] 31)
  refine (fact_add w.heap.size _ (by simp) (by simp) (by simp) (by simp) (by simp)).mono ?_
  rintro e w1 ⟨fb, fo, fc, rfl, f0, f1, hb1⟩
  have hB1 := hB0.trans (hb1.mono hB0.size)
  go_wp2_with fail
  refine (hE _ hB1).mono ?_
  rintro e w2 ⟨rfl, hb2⟩
  have hB2 := hB1.trans (hb2.mono hB1.size)
  go_wp2_with fail
  refine (hD _ hB2).mono ?_
  rintro e w3 ⟨rfl, hb3⟩
  have hB3 := hB2.trans (hb3.mono hB2.size)
  by_cases hg2 : chk ms = 0
  · have hF := fun W (b : Below w.heap.size w W) => hasx_ok _ ms k W (HM.out.below b) hK hg2
    cases hal : memB ms k with
    | true =>
      rw [hal] at hF
      go_wp2_with fail
      refine (hF _ hB3).mono ?_
      rintro e w4 ⟨rfl, hb4⟩
      have hB4 := hB3.trans (hb4.mono hB3.size)
      go_wp2_with fail
      refine (both_ok _ _ zs ms _ (HA.out.below hB4) (HM.out.below hB4) hg hg2).mono ?_
      rintro e w5 ⟨ds, hdn, hdm, hdl, hb5, hor⟩
      have hB5 := hB4.trans (hb5.mono hB4.size)
      have HD : Hid (Norm ds ∧ ∀ j, Mem ds j ↔ Mem zs j ∨ Mem ms j) := ⟨hdn, hdm⟩
      clear hdn hdm hdl
      rcases hor with ⟨h13, rfl⟩ | ⟨h13, v2, hr2, rfl⟩
      · rw [errV4]
        go_wp2_with fail
        refine (both_ok _ _ ms zs _ (HM.out.below hB5) (HA.out.below hB5) hg2 hg).mono ?_
        rintro e w6 ⟨ds2, hdn2, hdm2, hdl2, hb6, hor2⟩
        have hB6 := hB5.trans (hb6.mono hB5.size)
        obtain rfl : ds2 = ds := norm_unique hdn2 HD.out.1 (fun j => by rw [hdm2 j, HD.out.2 j]; exact Or.comm)
        clear hdn2 hdm2 hdl2
        obtain ⟨_, rfl⟩ : _ ∧ _ := hor2.resolve_right (fun h => by omega)
        rw [errV4]
        clear hor2
        go_wp2_with fail
        refine (same_k 4 _ (hH.below hB6)).mono ?_
        rintro e w7 ⟨rfl, hb7⟩
        have hB7 := hB6.trans (hb7.mono hB6.size)
        go_wp2_with fail
        refine (same_k 4 _ (hH.below hB7)).mono ?_
        rintro e w8 ⟨rfl, hb8⟩
        have hB8 := hB7.trans (hb8.mono hB7.size)
        go_wp2_with fail
        go_ret
        exact ⟨rfl, hB8⟩
      · have HRy : Hid (Row w5 v2 ds) := hr2
        obtain ⟨ay, cy, rfl, _, _, _⟩ := hr2
        go_wp2_with fail
        refine (both_ok _ _ ms zs _ (HM.out.below hB5) (HA.out.below hB5) hg2 hg).mono ?_
        rintro e w6 ⟨ds2, hdn2, hdm2, hdl2, hb6, hor2⟩
        have hB6 := hB5.trans (hb6.mono hB5.size)
        obtain rfl : ds2 = ds := norm_unique hdn2 HD.out.1 (fun j => by rw [hdm2 j, HD.out.2 j]; exact Or.comm)
        clear hdn2 hdm2 hdl2
        obtain ⟨_, v3, hr3, rfl⟩ : _ ∧ _ := hor2.resolve_left (fun h => by omega)
        have HRz : Hid (Row w6 v3 ds2) := hr3
        obtain ⟨az, cz, rfl, _, _, _⟩ := hr3
        clear hor2
        have hgd := both_good hg hg2 HD.out.1 h13 HD.out.2
        have hmd : memB ds2 k = true := by rw [memB_both HD.out.2, hhad, hal]; rfl
        have hY := fun W (b : Below w5.heap.size w5 W) => hasx_ok _ ds2 k W (HRy.out.below b) hK hgd
        rw [hmd] at hY
        have hV := fun W (b : Below w5.heap.size w5 W) => check_calls _ ds2 W (HRy.out.below b)
        rw [hgd, errV0] at hV
        generalize hqd : ds2.length = ld at *
        clear hqd h13
        have hz0 := hb6
        go_wp2_with fail
        refine (hY _ hz0).mono ?_
        rintro e w7 ⟨rfl, hb7⟩
        have hB7 := hB6.trans (hb7.mono hB6.size)
        have hz1 := hz0.trans (hb7.mono hz0.size)
        go_wp2_with fail
        refine (samer_eq _ _ ds2 _ (HRy.out.below hz1) (HRz.out.below hb7)).mono ?_
        rintro e w8 ⟨rfl, hb8⟩
        have hB8 := hB7.trans (hb8.mono hB7.size)
        have hz2 := hz1.trans (hb8.mono hz1.size)
        go_wp2_with fail
        refine (hV _ hz2).mono ?_
        rintro e w9 ⟨rfl, hb9⟩
        have hB9 := hB8.trans (hb9.mono hB8.size)
        go_wp2_with fail
        go_ret
        exact ⟨rfl, hB9⟩
    | false =>
      rw [hal] at hF
      go_wp2_with fail
      refine (hF _ hB3).mono ?_
      rintro e w4 ⟨rfl, hb4⟩
      have hB4 := hB3.trans (hb4.mono hB3.size)
      go_wp2_with fail
      refine (both_ok _ _ zs ms _ (HA.out.below hB4) (HM.out.below hB4) hg hg2).mono ?_
      rintro e w5 ⟨ds, hdn, hdm, hdl, hb5, hor⟩
      have hB5 := hB4.trans (hb5.mono hB4.size)
      have HD : Hid (Norm ds ∧ ∀ j, Mem ds j ↔ Mem zs j ∨ Mem ms j) := ⟨hdn, hdm⟩
      clear hdn hdm hdl
      rcases hor with ⟨h13, rfl⟩ | ⟨h13, v2, hr2, rfl⟩
      · rw [errV4]
        go_wp2_with fail
        refine (both_ok _ _ ms zs _ (HM.out.below hB5) (HA.out.below hB5) hg2 hg).mono ?_
        rintro e w6 ⟨ds2, hdn2, hdm2, hdl2, hb6, hor2⟩
        have hB6 := hB5.trans (hb6.mono hB5.size)
        obtain rfl : ds2 = ds := norm_unique hdn2 HD.out.1 (fun j => by rw [hdm2 j, HD.out.2 j]; exact Or.comm)
        clear hdn2 hdm2 hdl2
        obtain ⟨_, rfl⟩ : _ ∧ _ := hor2.resolve_right (fun h => by omega)
        rw [errV4]
        clear hor2
        go_wp2_with fail
        refine (same_k 4 _ (hH.below hB6)).mono ?_
        rintro e w7 ⟨rfl, hb7⟩
        have hB7 := hB6.trans (hb7.mono hB6.size)
        go_wp2_with fail
        refine (same_k 4 _ (hH.below hB7)).mono ?_
        rintro e w8 ⟨rfl, hb8⟩
        have hB8 := hB7.trans (hb8.mono hB7.size)
        go_wp2_with fail
        go_ret
        exact ⟨rfl, hB8⟩
      · have HRy : Hid (Row w5 v2 ds) := hr2
        obtain ⟨ay, cy, rfl, _, _, _⟩ := hr2
        go_wp2_with fail
        refine (both_ok _ _ ms zs _ (HM.out.below hB5) (HA.out.below hB5) hg2 hg).mono ?_
        rintro e w6 ⟨ds2, hdn2, hdm2, hdl2, hb6, hor2⟩
        have hB6 := hB5.trans (hb6.mono hB5.size)
        obtain rfl : ds2 = ds := norm_unique hdn2 HD.out.1 (fun j => by rw [hdm2 j, HD.out.2 j]; exact Or.comm)
        clear hdn2 hdm2 hdl2
        obtain ⟨_, v3, hr3, rfl⟩ : _ ∧ _ := hor2.resolve_left (fun h => by omega)
        have HRz : Hid (Row w6 v3 ds2) := hr3
        obtain ⟨az, cz, rfl, _, _, _⟩ := hr3
        clear hor2
        have hgd := both_good hg hg2 HD.out.1 h13 HD.out.2
        have hmd : memB ds2 k = false := by rw [memB_both HD.out.2, hhad, hal]; rfl
        have hY := fun W (b : Below w5.heap.size w5 W) => hasx_ok _ ds2 k W (HRy.out.below b) hK hgd
        rw [hmd] at hY
        have hV := fun W (b : Below w5.heap.size w5 W) => check_calls _ ds2 W (HRy.out.below b)
        rw [hgd, errV0] at hV
        generalize hqd : ds2.length = ld at *
        clear hqd h13
        have hz0 := hb6
        go_wp2_with fail
        refine (hY _ hz0).mono ?_
        rintro e w7 ⟨rfl, hb7⟩
        have hB7 := hB6.trans (hb7.mono hB6.size)
        have hz1 := hz0.trans (hb7.mono hz0.size)
        go_wp2_with fail
        refine (samer_eq _ _ ds2 _ (HRy.out.below hz1) (HRz.out.below hb7)).mono ?_
        rintro e w8 ⟨rfl, hb8⟩
        have hB8 := hB7.trans (hb8.mono hB7.size)
        have hz2 := hz1.trans (hb8.mono hz1.size)
        go_wp2_with fail
        refine (hV _ hz2).mono ?_
        rintro e w9 ⟨rfl, hb9⟩
        have hB9 := hB8.trans (hb9.mono hB8.size)
        go_wp2_with fail
        go_ret
        exact ⟨rfl, hB9⟩
  · have hF := fun W (b : Below w.heap.size w W) => hasx_bad _ ms k W (HM.out.below b) hK hg2
    rw [errV_ne hg2] at hF
    generalize chk ms = g2 at hF
    go_wp2_with fail
    refine (hF _ hB3).mono ?_
    rintro e w4 ⟨rfl, hb4⟩
    have hB4 := hB3.trans (hb4.mono hB3.size)
    go_wp2_with fail
    go_ret
    exact ⟨rfl, hB4⟩

set_option maxRecDepth 100000 in
set_option maxHeartbeats 4000000 in
theorem set_F1 (a0 a3 : Option Addr) (l0 l3 c0 c3 : Nat) (n k : Int) (zs ms : List R) (w : World) (hH : Handle w) (hA : Row w (.slice a0 l0 c0) zs) (hM : Row w (.slice a3 l3 c3) ms) (hK : isN k = true) (hg : chk zs = 0) (hhad : memB zs k = true) (hN : isN n = true) (cs : List R) (hcn : Norm cs) (hcm : ∀ j, Mem cs j ↔ Mem zs j ∨ j = n) (h13 : 12 < cs.length) :
    Calls Tryd.prog 4 #[.slice a0 l0 c0, .int .i64 n, .int .i64 k, .slice a3 l3 c3] w fun e w' => e = .returned (.bool true) ∧ Below w.heap.size w w' := by
  have HA : Hid (Row w (.slice a0 l0 c0) zs) := hA
  have HM : Hid (Row w (.slice a3 l3 c3) ms) := hM
  clear hA hM
  have hE := fun W (b : Below w.heap.size w W) => hasx_ok _ zs k W (HA.out.below b) hK hg
  rw [hhad] at hE
  have hD := fun W (b : Below w.heap.size w W) => add_ok _ zs n W (HA.out.below b) hg hN
  have HC : Hid (Norm cs ∧ ∀ j, Mem cs j ↔ Mem zs j ∨ j = n) := ⟨hcn, hcm⟩
  clear hcn hcm
  go_enter Tryd.func4, Tryd.ntmps4
  go_wp2_with fail
  have hB0 := (Below.refl w.heap.size w).alloc (Nat.le_refl _) (.cells #[.int .i64 7, .int .i64 9, .int .i64 3, .int .i64 5] 31)
  refine (fact_add w.heap.size _ (by simp) (by simp) (by simp) (by simp) (by simp)).mono ?_
  rintro e w1 ⟨fb, fo, fc, rfl, f0, f1, hb1⟩
  have hB1 := hB0.trans (hb1.mono hB0.size)
  go_wp2_with fail
  refine (hE _ hB1).mono ?_
  rintro e w2 ⟨rfl, hb2⟩
  have hB2 := hB1.trans (hb2.mono hB1.size)
  go_wp2_with fail
  refine (hD _ hB2).mono ?_
  rintro e w3 ⟨ds1, hdn1, hdm1, hdl1, hb3, hor1⟩
  obtain rfl : ds1 = cs := norm_unique hdn1 HC.out.1 (fun j => by rw [hdm1 j, HC.out.2 j])
  have hB3 := hB2.trans (hb3.mono hB2.size)
  clear hdn1 hdm1 hdl1
  obtain ⟨_, rfl⟩ : _ ∧ _ := hor1.resolve_right (fun h => by omega)
  rw [errV4]
  clear hor1
  by_cases hg2 : chk ms = 0
  · have hF := fun W (b : Below w.heap.size w W) => hasx_ok _ ms k W (HM.out.below b) hK hg2
    cases hal : memB ms k with
    | true =>
      rw [hal] at hF
      go_wp2_with fail
      refine (hF _ hB3).mono ?_
      rintro e w4 ⟨rfl, hb4⟩
      have hB4 := hB3.trans (hb4.mono hB3.size)
      go_wp2_with fail
      refine (both_ok _ _ zs ms _ (HA.out.below hB4) (HM.out.below hB4) hg hg2).mono ?_
      rintro e w5 ⟨ds, hdn, hdm, hdl, hb5, hor⟩
      have hB5 := hB4.trans (hb5.mono hB4.size)
      have HD : Hid (Norm ds ∧ ∀ j, Mem ds j ↔ Mem zs j ∨ Mem ms j) := ⟨hdn, hdm⟩
      clear hdn hdm hdl
      rcases hor with ⟨h13, rfl⟩ | ⟨h13, v2, hr2, rfl⟩
      · rw [errV4]
        go_wp2_with fail
        refine (both_ok _ _ ms zs _ (HM.out.below hB5) (HA.out.below hB5) hg2 hg).mono ?_
        rintro e w6 ⟨ds2, hdn2, hdm2, hdl2, hb6, hor2⟩
        have hB6 := hB5.trans (hb6.mono hB5.size)
        obtain rfl : ds2 = ds := norm_unique hdn2 HD.out.1 (fun j => by rw [hdm2 j, HD.out.2 j]; exact Or.comm)
        clear hdn2 hdm2 hdl2
        obtain ⟨_, rfl⟩ : _ ∧ _ := hor2.resolve_right (fun h => by omega)
        rw [errV4]
        clear hor2
        go_wp2_with fail
        refine (same_k 4 _ (hH.below hB6)).mono ?_
        rintro e w7 ⟨rfl, hb7⟩
        have hB7 := hB6.trans (hb7.mono hB6.size)
        go_wp2_with fail
        refine (same_k 4 _ (hH.below hB7)).mono ?_
        rintro e w8 ⟨rfl, hb8⟩
        have hB8 := hB7.trans (hb8.mono hB7.size)
        go_wp2_with fail
        go_ret
        exact ⟨rfl, hB8⟩
      · have HRy : Hid (Row w5 v2 ds) := hr2
        obtain ⟨ay, cy, rfl, _, _, _⟩ := hr2
        go_wp2_with fail
        refine (both_ok _ _ ms zs _ (HM.out.below hB5) (HA.out.below hB5) hg2 hg).mono ?_
        rintro e w6 ⟨ds2, hdn2, hdm2, hdl2, hb6, hor2⟩
        have hB6 := hB5.trans (hb6.mono hB5.size)
        obtain rfl : ds2 = ds := norm_unique hdn2 HD.out.1 (fun j => by rw [hdm2 j, HD.out.2 j]; exact Or.comm)
        clear hdn2 hdm2 hdl2
        obtain ⟨_, v3, hr3, rfl⟩ : _ ∧ _ := hor2.resolve_left (fun h => by omega)
        have HRz : Hid (Row w6 v3 ds2) := hr3
        obtain ⟨az, cz, rfl, _, _, _⟩ := hr3
        clear hor2
        have hgd := both_good hg hg2 HD.out.1 h13 HD.out.2
        have hmd : memB ds2 k = true := by rw [memB_both HD.out.2, hhad, hal]; rfl
        have hY := fun W (b : Below w5.heap.size w5 W) => hasx_ok _ ds2 k W (HRy.out.below b) hK hgd
        rw [hmd] at hY
        have hV := fun W (b : Below w5.heap.size w5 W) => check_calls _ ds2 W (HRy.out.below b)
        rw [hgd, errV0] at hV
        generalize hqd : ds2.length = ld at *
        clear hqd h13
        have hz0 := hb6
        go_wp2_with fail
        refine (hY _ hz0).mono ?_
        rintro e w7 ⟨rfl, hb7⟩
        have hB7 := hB6.trans (hb7.mono hB6.size)
        have hz1 := hz0.trans (hb7.mono hz0.size)
        go_wp2_with fail
        refine (samer_eq _ _ ds2 _ (HRy.out.below hz1) (HRz.out.below hb7)).mono ?_
        rintro e w8 ⟨rfl, hb8⟩
        have hB8 := hB7.trans (hb8.mono hB7.size)
        have hz2 := hz1.trans (hb8.mono hz1.size)
        go_wp2_with fail
        refine (hV _ hz2).mono ?_
        rintro e w9 ⟨rfl, hb9⟩
        have hB9 := hB8.trans (hb9.mono hB8.size)
        go_wp2_with fail
        go_ret
        exact ⟨rfl, hB9⟩
    | false =>
      rw [hal] at hF
      go_wp2_with fail
      refine (hF _ hB3).mono ?_
      rintro e w4 ⟨rfl, hb4⟩
      have hB4 := hB3.trans (hb4.mono hB3.size)
      go_wp2_with fail
      refine (both_ok _ _ zs ms _ (HA.out.below hB4) (HM.out.below hB4) hg hg2).mono ?_
      rintro e w5 ⟨ds, hdn, hdm, hdl, hb5, hor⟩
      have hB5 := hB4.trans (hb5.mono hB4.size)
      have HD : Hid (Norm ds ∧ ∀ j, Mem ds j ↔ Mem zs j ∨ Mem ms j) := ⟨hdn, hdm⟩
      clear hdn hdm hdl
      rcases hor with ⟨h13, rfl⟩ | ⟨h13, v2, hr2, rfl⟩
      · rw [errV4]
        go_wp2_with fail
        refine (both_ok _ _ ms zs _ (HM.out.below hB5) (HA.out.below hB5) hg2 hg).mono ?_
        rintro e w6 ⟨ds2, hdn2, hdm2, hdl2, hb6, hor2⟩
        have hB6 := hB5.trans (hb6.mono hB5.size)
        obtain rfl : ds2 = ds := norm_unique hdn2 HD.out.1 (fun j => by rw [hdm2 j, HD.out.2 j]; exact Or.comm)
        clear hdn2 hdm2 hdl2
        obtain ⟨_, rfl⟩ : _ ∧ _ := hor2.resolve_right (fun h => by omega)
        rw [errV4]
        clear hor2
        go_wp2_with fail
        refine (same_k 4 _ (hH.below hB6)).mono ?_
        rintro e w7 ⟨rfl, hb7⟩
        have hB7 := hB6.trans (hb7.mono hB6.size)
        go_wp2_with fail
        refine (same_k 4 _ (hH.below hB7)).mono ?_
        rintro e w8 ⟨rfl, hb8⟩
        have hB8 := hB7.trans (hb8.mono hB7.size)
        go_wp2_with fail
        go_ret
        exact ⟨rfl, hB8⟩
      · have HRy : Hid (Row w5 v2 ds) := hr2
        obtain ⟨ay, cy, rfl, _, _, _⟩ := hr2
        go_wp2_with fail
        refine (both_ok _ _ ms zs _ (HM.out.below hB5) (HA.out.below hB5) hg2 hg).mono ?_
        rintro e w6 ⟨ds2, hdn2, hdm2, hdl2, hb6, hor2⟩
        have hB6 := hB5.trans (hb6.mono hB5.size)
        obtain rfl : ds2 = ds := norm_unique hdn2 HD.out.1 (fun j => by rw [hdm2 j, HD.out.2 j]; exact Or.comm)
        clear hdn2 hdm2 hdl2
        obtain ⟨_, v3, hr3, rfl⟩ : _ ∧ _ := hor2.resolve_left (fun h => by omega)
        have HRz : Hid (Row w6 v3 ds2) := hr3
        obtain ⟨az, cz, rfl, _, _, _⟩ := hr3
        clear hor2
        have hgd := both_good hg hg2 HD.out.1 h13 HD.out.2
        have hmd : memB ds2 k = true := by rw [memB_both HD.out.2, hhad, hal]; rfl
        have hY := fun W (b : Below w5.heap.size w5 W) => hasx_ok _ ds2 k W (HRy.out.below b) hK hgd
        rw [hmd] at hY
        have hV := fun W (b : Below w5.heap.size w5 W) => check_calls _ ds2 W (HRy.out.below b)
        rw [hgd, errV0] at hV
        generalize hqd : ds2.length = ld at *
        clear hqd h13
        have hz0 := hb6
        go_wp2_with fail
        refine (hY _ hz0).mono ?_
        rintro e w7 ⟨rfl, hb7⟩
        have hB7 := hB6.trans (hb7.mono hB6.size)
        have hz1 := hz0.trans (hb7.mono hz0.size)
        go_wp2_with fail
        refine (samer_eq _ _ ds2 _ (HRy.out.below hz1) (HRz.out.below hb7)).mono ?_
        rintro e w8 ⟨rfl, hb8⟩
        have hB8 := hB7.trans (hb8.mono hB7.size)
        have hz2 := hz1.trans (hb8.mono hz1.size)
        go_wp2_with fail
        refine (hV _ hz2).mono ?_
        rintro e w9 ⟨rfl, hb9⟩
        have hB9 := hB8.trans (hb9.mono hB8.size)
        go_wp2_with fail
        go_ret
        exact ⟨rfl, hB9⟩
  · have hF := fun W (b : Below w.heap.size w W) => hasx_bad _ ms k W (HM.out.below b) hK hg2
    rw [errV_ne hg2] at hF
    generalize chk ms = g2 at hF
    go_wp2_with fail
    refine (hF _ hB3).mono ?_
    rintro e w4 ⟨rfl, hb4⟩
    have hB4 := hB3.trans (hb4.mono hB3.size)
    go_wp2_with fail
    go_ret
    exact ⟨rfl, hB4⟩

set_option maxRecDepth 100000 in
set_option maxHeartbeats 4000000 in
theorem set_F0 (a0 a3 : Option Addr) (l0 l3 c0 c3 : Nat) (n k : Int) (zs ms : List R) (w : World) (hH : Handle w) (hA : Row w (.slice a0 l0 c0) zs) (hM : Row w (.slice a3 l3 c3) ms) (hK : isN k = true) (hg : chk zs = 0) (hhad : memB zs k = false) (hN : isN n = true) (cs : List R) (hcn : Norm cs) (hcm : ∀ j, Mem cs j ↔ Mem zs j ∨ j = n) (h13 : 12 < cs.length) :
    Calls Tryd.prog 4 #[.slice a0 l0 c0, .int .i64 n, .int .i64 k, .slice a3 l3 c3] w fun e w' => e = .returned (.bool true) ∧ Below w.heap.size w w' := by
  have HA : Hid (Row w (.slice a0 l0 c0) zs) := hA
  have HM : Hid (Row w (.slice a3 l3 c3) ms) := hM
  clear hA hM
  have hE := fun W (b : Below w.heap.size w W) => hasx_ok _ zs k W (HA.out.below b) hK hg
  rw [hhad] at hE
  have hD := fun W (b : Below w.heap.size w W) => add_ok _ zs n W (HA.out.below b) hg hN
  have HC : Hid (Norm cs ∧ ∀ j, Mem cs j ↔ Mem zs j ∨ j = n) := ⟨hcn, hcm⟩
  clear hcn hcm
  go_enter Tryd.func4, Tryd.ntmps4
  go_wp2_with fail
  have hB0 := (Below.refl w.heap.size w).alloc (Nat.le_refl _) (.cells #[.int .i64 7, .int .i64 9, .int .i64 3, .int .i64 5] 31)
  refine (fact_add w.heap.size _ (by simp) (by simp) (by simp) (by simp) (by simp)).mono ?_
  rintro e w1 ⟨fb, fo, fc, rfl, f0, f1, hb1⟩
  have hB1 := hB0.trans (hb1.mono hB0.size)
  go_wp2_with fail
  refine (hE _ hB1).mono ?_
  rintro e w2 ⟨rfl, hb2⟩
  have hB2 := hB1.trans (hb2.mono hB1.size)
  go_wp2_with fail
  refine (hD _ hB2).mono ?_
  rintro e w3 ⟨ds1, hdn1, hdm1, hdl1, hb3, hor1⟩
  obtain rfl : ds1 = cs := norm_unique hdn1 HC.out.1 (fun j => by rw [hdm1 j, HC.out.2 j])
  have hB3 := hB2.trans (hb3.mono hB2.size)
  clear hdn1 hdm1 hdl1
  obtain ⟨_, rfl⟩ : _ ∧ _ := hor1.resolve_right (fun h => by omega)
  rw [errV4]
  clear hor1
  by_cases hg2 : chk ms = 0
  · have hF := fun W (b : Below w.heap.size w W) => hasx_ok _ ms k W (HM.out.below b) hK hg2
    cases hal : memB ms k with
    | true =>
      rw [hal] at hF
      go_wp2_with fail
      refine (hF _ hB3).mono ?_
      rintro e w4 ⟨rfl, hb4⟩
      have hB4 := hB3.trans (hb4.mono hB3.size)
      go_wp2_with fail
      refine (both_ok _ _ zs ms _ (HA.out.below hB4) (HM.out.below hB4) hg hg2).mono ?_
      rintro e w5 ⟨ds, hdn, hdm, hdl, hb5, hor⟩
      have hB5 := hB4.trans (hb5.mono hB4.size)
      have HD : Hid (Norm ds ∧ ∀ j, Mem ds j ↔ Mem zs j ∨ Mem ms j) := ⟨hdn, hdm⟩
      clear hdn hdm hdl
      rcases hor with ⟨h13, rfl⟩ | ⟨h13, v2, hr2, rfl⟩
      · rw [errV4]
        go_wp2_with fail
        refine (both_ok _ _ ms zs _ (HM.out.below hB5) (HA.out.below hB5) hg2 hg).mono ?_
        rintro e w6 ⟨ds2, hdn2, hdm2, hdl2, hb6, hor2⟩
        have hB6 := hB5.trans (hb6.mono hB5.size)
        obtain rfl : ds2 = ds := norm_unique hdn2 HD.out.1 (fun j => by rw [hdm2 j, HD.out.2 j]; exact Or.comm)
        clear hdn2 hdm2 hdl2
        obtain ⟨_, rfl⟩ : _ ∧ _ := hor2.resolve_right (fun h => by omega)
        rw [errV4]
        clear hor2
        go_wp2_with fail
        refine (same_k 4 _ (hH.below hB6)).mono ?_
        rintro e w7 ⟨rfl, hb7⟩
        have hB7 := hB6.trans (hb7.mono hB6.size)
        go_wp2_with fail
        refine (same_k 4 _ (hH.below hB7)).mono ?_
        rintro e w8 ⟨rfl, hb8⟩
        have hB8 := hB7.trans (hb8.mono hB7.size)
        go_wp2_with fail
        go_ret
        exact ⟨rfl, hB8⟩
      · have HRy : Hid (Row w5 v2 ds) := hr2
        obtain ⟨ay, cy, rfl, _, _, _⟩ := hr2
        go_wp2_with fail
        refine (both_ok _ _ ms zs _ (HM.out.below hB5) (HA.out.below hB5) hg2 hg).mono ?_
        rintro e w6 ⟨ds2, hdn2, hdm2, hdl2, hb6, hor2⟩
        have hB6 := hB5.trans (hb6.mono hB5.size)
        obtain rfl : ds2 = ds := norm_unique hdn2 HD.out.1 (fun j => by rw [hdm2 j, HD.out.2 j]; exact Or.comm)
        clear hdn2 hdm2 hdl2
        obtain ⟨_, v3, hr3, rfl⟩ : _ ∧ _ := hor2.resolve_left (fun h => by omega)
        have HRz : Hid (Row w6 v3 ds2) := hr3
        obtain ⟨az, cz, rfl, _, _, _⟩ := hr3
        clear hor2
        have hgd := both_good hg hg2 HD.out.1 h13 HD.out.2
        have hmd : memB ds2 k = true := by rw [memB_both HD.out.2, hhad, hal]; rfl
        have hY := fun W (b : Below w5.heap.size w5 W) => hasx_ok _ ds2 k W (HRy.out.below b) hK hgd
        rw [hmd] at hY
        have hV := fun W (b : Below w5.heap.size w5 W) => check_calls _ ds2 W (HRy.out.below b)
        rw [hgd, errV0] at hV
        generalize hqd : ds2.length = ld at *
        clear hqd h13
        have hz0 := hb6
        go_wp2_with fail
        refine (hY _ hz0).mono ?_
        rintro e w7 ⟨rfl, hb7⟩
        have hB7 := hB6.trans (hb7.mono hB6.size)
        have hz1 := hz0.trans (hb7.mono hz0.size)
        go_wp2_with fail
        refine (samer_eq _ _ ds2 _ (HRy.out.below hz1) (HRz.out.below hb7)).mono ?_
        rintro e w8 ⟨rfl, hb8⟩
        have hB8 := hB7.trans (hb8.mono hB7.size)
        have hz2 := hz1.trans (hb8.mono hz1.size)
        go_wp2_with fail
        refine (hV _ hz2).mono ?_
        rintro e w9 ⟨rfl, hb9⟩
        have hB9 := hB8.trans (hb9.mono hB8.size)
        go_wp2_with fail
        go_ret
        exact ⟨rfl, hB9⟩
    | false =>
      rw [hal] at hF
      go_wp2_with fail
      refine (hF _ hB3).mono ?_
      rintro e w4 ⟨rfl, hb4⟩
      have hB4 := hB3.trans (hb4.mono hB3.size)
      go_wp2_with fail
      refine (both_ok _ _ zs ms _ (HA.out.below hB4) (HM.out.below hB4) hg hg2).mono ?_
      rintro e w5 ⟨ds, hdn, hdm, hdl, hb5, hor⟩
      have hB5 := hB4.trans (hb5.mono hB4.size)
      have HD : Hid (Norm ds ∧ ∀ j, Mem ds j ↔ Mem zs j ∨ Mem ms j) := ⟨hdn, hdm⟩
      clear hdn hdm hdl
      rcases hor with ⟨h13, rfl⟩ | ⟨h13, v2, hr2, rfl⟩
      · rw [errV4]
        go_wp2_with fail
        refine (both_ok _ _ ms zs _ (HM.out.below hB5) (HA.out.below hB5) hg2 hg).mono ?_
        rintro e w6 ⟨ds2, hdn2, hdm2, hdl2, hb6, hor2⟩
        have hB6 := hB5.trans (hb6.mono hB5.size)
        obtain rfl : ds2 = ds := norm_unique hdn2 HD.out.1 (fun j => by rw [hdm2 j, HD.out.2 j]; exact Or.comm)
        clear hdn2 hdm2 hdl2
        obtain ⟨_, rfl⟩ : _ ∧ _ := hor2.resolve_right (fun h => by omega)
        rw [errV4]
        clear hor2
        go_wp2_with fail
        refine (same_k 4 _ (hH.below hB6)).mono ?_
        rintro e w7 ⟨rfl, hb7⟩
        have hB7 := hB6.trans (hb7.mono hB6.size)
        go_wp2_with fail
        refine (same_k 4 _ (hH.below hB7)).mono ?_
        rintro e w8 ⟨rfl, hb8⟩
        have hB8 := hB7.trans (hb8.mono hB7.size)
        go_wp2_with fail
        go_ret
        exact ⟨rfl, hB8⟩
      · have HRy : Hid (Row w5 v2 ds) := hr2
        obtain ⟨ay, cy, rfl, _, _, _⟩ := hr2
        go_wp2_with fail
        refine (both_ok _ _ ms zs _ (HM.out.below hB5) (HA.out.below hB5) hg2 hg).mono ?_
        rintro e w6 ⟨ds2, hdn2, hdm2, hdl2, hb6, hor2⟩
        have hB6 := hB5.trans (hb6.mono hB5.size)
        obtain rfl : ds2 = ds := norm_unique hdn2 HD.out.1 (fun j => by rw [hdm2 j, HD.out.2 j]; exact Or.comm)
        clear hdn2 hdm2 hdl2
        obtain ⟨_, v3, hr3, rfl⟩ : _ ∧ _ := hor2.resolve_left (fun h => by omega)
        have HRz : Hid (Row w6 v3 ds2) := hr3
        obtain ⟨az, cz, rfl, _, _, _⟩ := hr3
        clear hor2
        have hgd := both_good hg hg2 HD.out.1 h13 HD.out.2
        have hmd : memB ds2 k = false := by rw [memB_both HD.out.2, hhad, hal]; rfl
        have hY := fun W (b : Below w5.heap.size w5 W) => hasx_ok _ ds2 k W (HRy.out.below b) hK hgd
        rw [hmd] at hY
        have hV := fun W (b : Below w5.heap.size w5 W) => check_calls _ ds2 W (HRy.out.below b)
        rw [hgd, errV0] at hV
        generalize hqd : ds2.length = ld at *
        clear hqd h13
        have hz0 := hb6
        go_wp2_with fail
        refine (hY _ hz0).mono ?_
        rintro e w7 ⟨rfl, hb7⟩
        have hB7 := hB6.trans (hb7.mono hB6.size)
        have hz1 := hz0.trans (hb7.mono hz0.size)
        go_wp2_with fail
        refine (samer_eq _ _ ds2 _ (HRy.out.below hz1) (HRz.out.below hb7)).mono ?_
        rintro e w8 ⟨rfl, hb8⟩
        have hB8 := hB7.trans (hb8.mono hB7.size)
        have hz2 := hz1.trans (hb8.mono hz1.size)
        go_wp2_with fail
        refine (hV _ hz2).mono ?_
        rintro e w9 ⟨rfl, hb9⟩
        have hB9 := hB8.trans (hb9.mono hB8.size)
        go_wp2_with fail
        go_ret
        exact ⟨rfl, hB9⟩
  · have hF := fun W (b : Below w.heap.size w W) => hasx_bad _ ms k W (HM.out.below b) hK hg2
    rw [errV_ne hg2] at hF
    generalize chk ms = g2 at hF
    go_wp2_with fail
    refine (hF _ hB3).mono ?_
    rintro e w4 ⟨rfl, hb4⟩
    have hB4 := hB3.trans (hb4.mono hB3.size)
    go_wp2_with fail
    go_ret
    exact ⟨rfl, hB4⟩
end Go.Proofs.YtbglleldbogaaaaDoor
