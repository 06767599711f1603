/- RangesTell where the first ranges have a fault. -/
import Derived.Test.YtbglleldbogaaaaDoorP
namespace Go.Proofs.YtbglleldbogaaaaDoor
open Go.RowKit Go.Lib Go.Sort Go.Shelf
set_option linter.unusedVariables false
set_option linter.unusedSimpArgs false

set_option maxRecDepth 100000 in
set_option maxHeartbeats 4000000 in
theorem tell_A1 (a0 a2 : Option Addr) (l0 l2 c0 c2 : Nat) (n : Int) (zs ms : List R) (w : World) (hH : Handle w) (hA : Row w (.slice a0 l0 c0) zs) (hM : Row w (.slice a2 l2 c2) ms) (hg : chk zs ≠ 0) (hN : isN n = true) :
    Calls Tryd.prog 3 #[.slice a0 l0 c0, .int .i64 n, .slice a2 l2 c2] w fun e w' => e = .returned (.bool true) ∧ Below w.heap.size w w' := by
  have HL0 : Hid (zs.length = l0) := row_len hA
  have HL2 : Hid (ms.length = l2) := row_len hM
  have bl0 : l0 ≤ 9223372036854775807 := by have := row_bound hA; have := HL0.out; omega
  have bl2 : l2 ≤ 9223372036854775807 := by have := row_bound hM; have := HL2.out; omega
  have HA : Hid (Row w (.slice a0 l0 c0) zs) := hA
  have HM : Hid (Row w (.slice a2 l2 c2) ms) := hM
  have hB0 := Below.refl w.heap.size w
  clear hA hM
  have hR := fun W (b : Below w.heap.size w W) => rranges_calls _ zs W (HA.out.below b)
  have hC := fun W (b : Below w.heap.size w W) => check_calls _ zs W (HA.out.below b)
  have hD := fun W (b : Below w.heap.size w W) => add_bad _ zs n W (HA.out.below b) hg
  have hE := fun W (b : Below w.heap.size w W) => hasx_bad _ zs n W (HA.out.below b) hN hg
  have hF := fun W (b : Below w.heap.size w W) => count_bad _ zs W (HA.out.below b) hg
  have hI := fun W (b : Below w.heap.size w W) => both_bad1 _ _ zs ms W (HA.out.below b) (HM.out.below b) hg
  rw [errV_ne hg] at hC hD hF hI
  rw [errV_ne hg] at hE
  have hlp : 0 < l0 := by have := chk_len hg; have := HL0.out; omega
  generalize chk zs = g at *
  have hgb : (g == 0) = false := by simpa using hg
  have g0 : (0 : Int) < (l0 : Int) := by omega
  go_enter Tryd.func3, Tryd.ntmps3
  go_wp2_with fail
  refine (hR _ hB0).mono ?_
  rintro e w1 ⟨rfl, hb1⟩
  have hB1 := hB0.trans (hb1.mono hB0.size)
  go_wp2_with fail
  refine (hC _ hB1).mono ?_
  rintro e w2 ⟨rfl, hb2⟩
  have hB2 := hB1.trans (hb2.mono hB1.size)
  go_wp2_with fail
  refine (same_k g _ (hH.below hB2)).mono ?_
  rintro e w3 ⟨rfl, hb3⟩
  have hB3 := hB2.trans (hb3.mono hB2.size)
  go_wp2_with fail
  refine (may_calls n _).mono ?_
  rintro e w4 ⟨rfl, rfl⟩
  rw [hN]
  go_wp2_with fail
  go_wp2_with fail
  refine (hD _ hB3).mono ?_
  rintro e w4 ⟨rfl, hb4⟩
  have hB4 := hB3.trans (hb4.mono hB3.size)
  go_wp2_with fail
  refine (same_k g _ (hH.below hB4)).mono ?_
  rintro e w5 ⟨rfl, hb5⟩
  have hB5 := hB4.trans (hb5.mono hB4.size)
  go_wp2_with fail
  refine (samer_eq _ _ [] _ (Row.nil _) (Row.nil _)).mono ?_
  rintro e w6 ⟨rfl, hb6⟩
  have hB6 := hB5.trans (hb6.mono hB5.size)
  go_wp2_with fail
  refine (hE _ hB6).mono ?_
  rintro e w7 ⟨rfl, hb7⟩
  have hB7 := hB6.trans (hb7.mono hB6.size)
  go_wp2_with fail
  refine (same_k g _ (hH.below hB7)).mono ?_
  rintro e w8 ⟨rfl, hb8⟩
  have hB8 := hB7.trans (hb8.mono hB7.size)
  go_wp2_with fail
  refine wp_loop_rounds 1 ?_
  rw [rounds_succ]
  go_wp2_with fail
  refine (hF _ hB8).mono ?_
  rintro e w9 ⟨rfl, hb9⟩
  have hB9 := hB8.trans (hb9.mono hB8.size)
  go_wp2_with fail
  refine (same_k g _ (hH.below hB9)).mono ?_
  rintro e w10 ⟨rfl, hb10⟩
  have hB10 := hB9.trans (hb10.mono hB9.size)
  go_wp2_with fail
  refine (hI _ hB10).mono ?_
  rintro e w11 ⟨rfl, hb11⟩
  have hB11 := hB10.trans (hb11.mono hB10.size)
  go_wp2_with fail
  refine (same_k g _ (hH.below hB11)).mono ?_
  rintro e w12 ⟨rfl, hb12⟩
  have hB12 := hB11.trans (hb12.mono hB11.size)
  go_wp2_with fail
  refine (samer_eq _ _ [] _ (Row.nil _) (Row.nil _)).mono ?_
  rintro e w13 ⟨rfl, hb13⟩
  have hB13 := hB12.trans (hb13.mono hB12.size)
  go_wp2_with fail
  go_ret
  exact ⟨rfl, hB13⟩

set_option maxRecDepth 100000 in
set_option maxHeartbeats 4000000 in
theorem tell_A0 (a0 a2 : Option Addr) (l0 l2 c0 c2 : Nat) (n : Int) (zs ms : List R) (w : World) (hH : Handle w) (hA : Row w (.slice a0 l0 c0) zs) (hM : Row w (.slice a2 l2 c2) ms) (hg : chk zs ≠ 0) (hN : isN n = false) :
    Calls Tryd.prog 3 #[.slice a0 l0 c0, .int .i64 n, .slice a2 l2 c2] w fun e w' => e = .returned (.bool true) ∧ Below w.heap.size w w' := by
  have HL0 : Hid (zs.length = l0) := row_len hA
  have HL2 : Hid (ms.length = l2) := row_len hM
  have bl0 : l0 ≤ 9223372036854775807 := by have := row_bound hA; have := HL0.out; omega
  have bl2 : l2 ≤ 9223372036854775807 := by have := row_bound hM; have := HL2.out; omega
  have HA : Hid (Row w (.slice a0 l0 c0) zs) := hA
  have HM : Hid (Row w (.slice a2 l2 c2) ms) := hM
  have hB0 := Below.refl w.heap.size w
  clear hA hM
  have hR := fun W (b : Below w.heap.size w W) => rranges_calls _ zs W (HA.out.below b)
  have hC := fun W (b : Below w.heap.size w W) => check_calls _ zs W (HA.out.below b)
  have hD := fun W (b : Below w.heap.size w W) => add_bad _ zs n W (HA.out.below b) hg
  have hE := fun W (b : Below w.heap.size w W) => hasx_no _ zs n W (HA.out.below b) hN
  have hF := fun W (b : Below w.heap.size w W) => count_bad _ zs W (HA.out.below b) hg
  have hI := fun W (b : Below w.heap.size w W) => both_bad1 _ _ zs ms W (HA.out.below b) (HM.out.below b) hg
  rw [errV_ne hg] at hC hD hF hI
  rw [errV1] at hE
  have hlp : 0 < l0 := by have := chk_len hg; have := HL0.out; omega
  generalize chk zs = g at *
  have hgb : (g == 0) = false := by simpa using hg
  have g0 : (0 : Int) < (l0 : Int) := by omega
  go_enter Tryd.func3, Tryd.ntmps3
  go_wp2_with fail
  refine (hR _ hB0).mono ?_
  rintro e w1 ⟨rfl, hb1⟩
  have hB1 := hB0.trans (hb1.mono hB0.size)
  go_wp2_with fail
  refine (hC _ hB1).mono ?_
  rintro e w2 ⟨rfl, hb2⟩
  have hB2 := hB1.trans (hb2.mono hB1.size)
  go_wp2_with fail
  refine (same_k g _ (hH.below hB2)).mono ?_
  rintro e w3 ⟨rfl, hb3⟩
  have hB3 := hB2.trans (hb3.mono hB2.size)
  go_wp2_with fail
  refine (may_calls n _).mono ?_
  rintro e w4 ⟨rfl, rfl⟩
  rw [hN]
  go_wp2_with fail
  go_wp2_with fail
  refine (hD _ hB3).mono ?_
  rintro e w4 ⟨rfl, hb4⟩
  have hB4 := hB3.trans (hb4.mono hB3.size)
  go_wp2_with fail
  refine (same_k g _ (hH.below hB4)).mono ?_
  rintro e w5 ⟨rfl, hb5⟩
  have hB5 := hB4.trans (hb5.mono hB4.size)
  go_wp2_with fail
  refine (samer_eq _ _ [] _ (Row.nil _) (Row.nil _)).mono ?_
  rintro e w6 ⟨rfl, hb6⟩
  have hB6 := hB5.trans (hb6.mono hB5.size)
  go_wp2_with fail
  refine (hE _ hB6).mono ?_
  rintro e w7 ⟨rfl, hb7⟩
  have hB7 := hB6.trans (hb7.mono hB6.size)
  go_wp2_with fail
  refine (same_k 1 _ (hH.below hB7)).mono ?_
  rintro e w8 ⟨rfl, hb8⟩
  have hB8 := hB7.trans (hb8.mono hB7.size)
  go_wp2_with fail
  refine wp_loop_rounds 1 ?_
  rw [rounds_succ]
  go_wp2_with fail
  refine (hF _ hB8).mono ?_
  rintro e w9 ⟨rfl, hb9⟩
  have hB9 := hB8.trans (hb9.mono hB8.size)
  go_wp2_with fail
  refine (same_k g _ (hH.below hB9)).mono ?_
  rintro e w10 ⟨rfl, hb10⟩
  have hB10 := hB9.trans (hb10.mono hB9.size)
  go_wp2_with fail
  refine (hI _ hB10).mono ?_
  rintro e w11 ⟨rfl, hb11⟩
  have hB11 := hB10.trans (hb11.mono hB10.size)
  go_wp2_with fail
  refine (same_k g _ (hH.below hB11)).mono ?_
  rintro e w12 ⟨rfl, hb12⟩
  have hB12 := hB11.trans (hb12.mono hB11.size)
  go_wp2_with fail
  refine (samer_eq _ _ [] _ (Row.nil _) (Row.nil _)).mono ?_
  rintro e w13 ⟨rfl, hb13⟩
  have hB13 := hB12.trans (hb13.mono hB12.size)
  go_wp2_with fail
  go_ret
  exact ⟨rfl, hB13⟩
end Go.Proofs.YtbglleldbogaaaaDoor
