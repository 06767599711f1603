/- RangesTell where the first ranges have no fault, and the number is none. -/
import Derived.Test.YtbglleldbogaaaaDoorP
namespace Go.Proofs.YtbglleldbogaaaaDoor
open Go.RowKit Go.Lib Go.Sort Go.Shelf
set_option linter.unusedVariables false
set_option linter.unusedSimpArgs false

set_option maxRecDepth 100000 in
set_option maxHeartbeats 4000000 in
theorem tell_B1 (a0 a2 : Option Addr) (l0 l2 c0 c2 : Nat) (n : Int) (zs ms : List R) (w : World) (hH : Handle w) (hA : Row w (.slice a0 l0 c0) zs) (hM : Row w (.slice a2 l2 c2) ms) (hg : chk zs = 0) (hN : isN n = false) (hg2 : chk ms ≠ 0) :
    Calls Tryd.prog 3 #[.slice a0 l0 c0, .int .i64 n, .slice a2 l2 c2] w fun e w' => e = .returned (.bool true) ∧ Below w.heap.size w w' := by
  have HL0 : Hid (zs.length = l0) := row_len hA
  have HL2 : Hid (ms.length = l2) := row_len hM
  have bl0 : l0 ≤ 9223372036854775807 := by have := row_bound hA; have := HL0.out; omega
  have bl2 : l2 ≤ 9223372036854775807 := by have := row_bound hM; have := HL2.out; omega
  have HA : Hid (Row w (.slice a0 l0 c0) zs) := hA
  have HM : Hid (Row w (.slice a2 l2 c2) ms) := hM
  have hB0 := Below.refl w.heap.size w
  clear hA hM
  have HG : Hid (Good zs) := (chk_ok zs).1 hg
  have hR := fun W (b : Below w.heap.size w W) => rranges_calls _ zs W (HA.out.below b)
  have hR2 := fun W (b : Below w.heap.size w W) => rranges_calls _ ms W (HM.out.below b)
  have hC := fun W (b : Below w.heap.size w W) => check_calls _ zs W (HA.out.below b)
  have hF := fun W (b : Below w.heap.size w W) => count_ok _ zs W (HA.out.below b) hg
  rw [hg] at hR
  rw [hg, errV0] at hC
  have hI := fun W (b : Below w.heap.size w W) => both_bad2 _ _ zs ms W (HA.out.below b) (HM.out.below b) hg hg2
  rw [errV_ne hg2] at hI
  have hD := fun W (b : Below w.heap.size w W) => add_no _ zs n W (HA.out.below b) hg hN
  have hE := fun W (b : Below w.heap.size w W) => hasx_no _ zs n W (HA.out.below b) hN
  rw [errV1] at hD hE
  generalize chk ms = g2 at *
  have hgb : (g2 == 0) = false := by simpa using hg2
  go_enter Tryd.func3, Tryd.ntmps3
  go_wp2_with fail
  refine (hR _ hB0).mono ?_
  rintro e w1 ⟨rfl, hb1⟩
  have hB1 := hB0.trans (hb1.mono hB0.size)
  go_wp2_with fail
  refine (hC _ hB1).mono ?_
  rintro e w2 ⟨rfl, hb2⟩
  have hB2 := hB1.trans (hb2.mono hB1.size)
  go_wp2_with fail
  refine (same_0 _).mono ?_
  rintro e w3 ⟨rfl, hb3⟩
  have hB3 := hB2.trans (hb3.mono hB2.size)
  go_wp2_with fail
  refine (may_calls n _).mono ?_
  rintro e w4 ⟨rfl, rfl⟩
  rw [hN]
  go_wp2_with fail
  refine (hD _ hB3).mono ?_
  rintro e w4 ⟨rfl, hb4⟩
  have hB4 := hB3.trans (hb4.mono hB3.size)
  go_wp2_with fail
  refine (same_k 1 _ (hH.below hB4)).mono ?_
  rintro e w5 ⟨rfl, hb5⟩
  have hB5 := hB4.trans (hb5.mono hB4.size)
  go_wp2_with fail
  refine (samer_eq _ _ [] _ (Row.nil _) (Row.nil _)).mono ?_
  rintro e w6 ⟨rfl, hb6⟩
  have hB6 := hB5.trans (hb6.mono hB5.size)
  go_wp2_with fail
  refine (hE _ hB6).mono ?_
  rintro e w7 ⟨rfl, hb7⟩
  have hB7 := hB6.trans (hb7.mono hB6.size)
  go_wp2_with fail
  refine (same_k 1 _ (hH.below hB7)).mono ?_
  rintro e w8 ⟨rfl, hb8⟩
  have hB8 := hB7.trans (hb8.mono hB7.size)
  go_wp2_with fail
  go_loopw [19, 20] (fun mn i wr => ∃ k : Nat, k ≤ l0 ∧ i = .int .i64 k ∧ mn = .int .i64 (cnt (zs.take k)) ∧ Below w.heap.size w wr) (fun _ i _ => l0 - (intOf i).toNat)
  case atStart => exact ⟨0, Nat.zero_le _, rfl, rfl, hB8⟩
  case round =>
    obtain ⟨k, hk, rfl, rfl, hB⟩ := hrel
    by_cases hlt : k < l0
    · have g1 : (k : Int) < (l0 : Int) := by omega
      have hkl : k < zs.length := by have := HL0.out; omega
      obtain ⟨b, off, hbo, hbb, hCl⟩ : ∃ b off, a0 = some ⟨b, off, none⟩ ∧ b < w.heap.size ∧ Cells w b off zs := row_cells HA.out hkl
      subst hbo
      have c0' := (hCl.below hbb hB k hkl).1
      have c1' := (hCl.below hbb hB k hkl).2
      have bd := good_each HG.out _ (at_mem hkl)
      have bs := cnt_take_bound HG.out k
      have bt := cnt_take_bound HG.out (k + 1)
      have HT := cnt_take zs k hkl
      have HT' : Hid (cnt (zs.take (k + 1)) = cnt (zs.take k) + ((at' zs k).2 - (at' zs k).1 + 1)) := HT
      rw [HT] at bt
      clear hCl hkl HT
      generalize at' zs k = r at *
      obtain ⟨lo, hi⟩ := r
      simp only at c0' c1' bd bs bt HT'
      generalize cnt (zs.take k) = sm at *
      have q1 : IntKind.i64.wrap (sm + hi) = sm + hi := by simp [IntKind.wrap, IntKind.bits, IntKind.signed]; omega
      have q2 : IntKind.i64.wrap (sm + hi - lo) = sm + hi - lo := by simp [IntKind.wrap, IntKind.bits, IntKind.signed]; omega
      have q3 : IntKind.i64.wrap (sm + hi - lo + 1) = sm + hi - lo + 1 := by simp [IntKind.wrap, IntKind.bits, IntKind.signed]; omega
      go_wp2_with fail
      go_quiet (fail)
      go_wp2_with fail
      exact ⟨⟨k + 1, by omega, by go_num, by rw [HT'.out]; congr 1; omega, below_drewN hB _⟩, by simp [intOf]; omega⟩
    · obtain rfl : k = l0 := by omega
      have e1 : zs.take k = zs := List.take_of_length_le (by have := HL0.out; omega)
      rw [e1]
      have hB9 := hB
      go_wp2_with fail
      refine (hF _ hB9).mono ?_
      rintro e w10 ⟨rfl, hb10⟩
      have hB10 := hB9.trans (hb10.mono hB9.size)
      go_wp2_with fail
      refine (same_0 _).mono ?_
      rintro e w11 ⟨rfl, hb11⟩
      have hB11 := hB10.trans (hb11.mono hB10.size)
      go_wp2_with fail
      refine (hR2 _ hB11).mono ?_
      rintro e w12 ⟨rfl, hb12⟩
      have hB12 := hB11.trans (hb12.mono hB11.size)
      go_wp2_with fail
      refine (hI _ hB12).mono ?_
      rintro e w13 ⟨rfl, hb13⟩
      have hB13 := hB12.trans (hb13.mono hB12.size)
      go_wp2_with fail
      refine (same_k g2 _ (hH.below hB13)).mono ?_
      rintro e w14 ⟨rfl, hb14⟩
      have hB14 := hB13.trans (hb14.mono hB13.size)
      go_wp2_with fail
      refine (samer_eq _ _ [] _ (Row.nil _) (Row.nil _)).mono ?_
      rintro e w15 ⟨rfl, hb15⟩
      have hB15 := hB14.trans (hb15.mono hB14.size)
      go_wp2_with fail
      go_ret
      exact ⟨rfl, hB15⟩

set_option maxRecDepth 100000 in
set_option maxHeartbeats 4000000 in
theorem tell_B2 (a0 a2 : Option Addr) (l0 l2 c0 c2 : Nat) (n : Int) (zs ms : List R) (w : World) (hH : Handle w) (hA : Row w (.slice a0 l0 c0) zs) (hM : Row w (.slice a2 l2 c2) ms) (hg : chk zs = 0) (hN : isN n = false) (hg2 : chk ms = 0) :
    Calls Tryd.prog 3 #[.slice a0 l0 c0, .int .i64 n, .slice a2 l2 c2] w fun e w' => e = .returned (.bool true) ∧ Below w.heap.size w w' := by
  have HL0 : Hid (zs.length = l0) := row_len hA
  have HL2 : Hid (ms.length = l2) := row_len hM
  have bl0 : l0 ≤ 9223372036854775807 := by have := row_bound hA; have := HL0.out; omega
  have bl2 : l2 ≤ 9223372036854775807 := by have := row_bound hM; have := HL2.out; omega
  have HA : Hid (Row w (.slice a0 l0 c0) zs) := hA
  have HM : Hid (Row w (.slice a2 l2 c2) ms) := hM
  have hB0 := Below.refl w.heap.size w
  clear hA hM
  have HG : Hid (Good zs) := (chk_ok zs).1 hg
  have hR := fun W (b : Below w.heap.size w W) => rranges_calls _ zs W (HA.out.below b)
  have hR2 := fun W (b : Below w.heap.size w W) => rranges_calls _ ms W (HM.out.below b)
  have hC := fun W (b : Below w.heap.size w W) => check_calls _ zs W (HA.out.below b)
  have hF := fun W (b : Below w.heap.size w W) => count_ok _ zs W (HA.out.below b) hg
  rw [hg] at hR
  rw [hg, errV0] at hC
  have HG2 : Hid (Good ms) := (chk_ok ms).1 hg2
  rw [hg2] at hR2
  have hD := fun W (b : Below w.heap.size w W) => add_no _ zs n W (HA.out.below b) hg hN
  have hE := fun W (b : Below w.heap.size w W) => hasx_no _ zs n W (HA.out.below b) hN
  rw [errV1] at hD hE
  go_enter Tryd.func3, Tryd.ntmps3
  go_wp2_with fail
  refine (hR _ hB0).mono ?_
  rintro e w1 ⟨rfl, hb1⟩
  have hB1 := hB0.trans (hb1.mono hB0.size)
  go_wp2_with fail
  refine (hC _ hB1).mono ?_
  rintro e w2 ⟨rfl, hb2⟩
  have hB2 := hB1.trans (hb2.mono hB1.size)
  go_wp2_with fail
  refine (same_0 _).mono ?_
  rintro e w3 ⟨rfl, hb3⟩
  have hB3 := hB2.trans (hb3.mono hB2.size)
  go_wp2_with fail
  refine (may_calls n _).mono ?_
  rintro e w4 ⟨rfl, rfl⟩
  rw [hN]
  go_wp2_with fail
  refine (hD _ hB3).mono ?_
  rintro e w4 ⟨rfl, hb4⟩
  have hB4 := hB3.trans (hb4.mono hB3.size)
  go_wp2_with fail
  refine (same_k 1 _ (hH.below hB4)).mono ?_
  rintro e w5 ⟨rfl, hb5⟩
  have hB5 := hB4.trans (hb5.mono hB4.size)
  go_wp2_with fail
  refine (samer_eq _ _ [] _ (Row.nil _) (Row.nil _)).mono ?_
  rintro e w6 ⟨rfl, hb6⟩
  have hB6 := hB5.trans (hb6.mono hB5.size)
  go_wp2_with fail
  refine (hE _ hB6).mono ?_
  rintro e w7 ⟨rfl, hb7⟩
  have hB7 := hB6.trans (hb7.mono hB6.size)
  go_wp2_with fail
  refine (same_k 1 _ (hH.below hB7)).mono ?_
  rintro e w8 ⟨rfl, hb8⟩
  have hB8 := hB7.trans (hb8.mono hB7.size)
  go_wp2_with fail
  go_loopw [19, 20] (fun mn i wr => ∃ k : Nat, k ≤ l0 ∧ i = .int .i64 k ∧ mn = .int .i64 (cnt (zs.take k)) ∧ Below w.heap.size w wr) (fun _ i _ => l0 - (intOf i).toNat)
  case atStart => exact ⟨0, Nat.zero_le _, rfl, rfl, hB8⟩
  case round =>
    obtain ⟨k, hk, rfl, rfl, hB⟩ := hrel
    by_cases hlt : k < l0
    · have g1 : (k : Int) < (l0 : Int) := by omega
      have hkl : k < zs.length := by have := HL0.out; omega
      obtain ⟨b, off, hbo, hbb, hCl⟩ : ∃ b off, a0 = some ⟨b, off, none⟩ ∧ b < w.heap.size ∧ Cells w b off zs := row_cells HA.out hkl
      subst hbo
      have c0' := (hCl.below hbb hB k hkl).1
      have c1' := (hCl.below hbb hB k hkl).2
      have bd := good_each HG.out _ (at_mem hkl)
      have bs := cnt_take_bound HG.out k
      have bt := cnt_take_bound HG.out (k + 1)
      have HT := cnt_take zs k hkl
      have HT' : Hid (cnt (zs.take (k + 1)) = cnt (zs.take k) + ((at' zs k).2 - (at' zs k).1 + 1)) := HT
      rw [HT] at bt
      clear hCl hkl HT
      generalize at' zs k = r at *
      obtain ⟨lo, hi⟩ := r
      simp only at c0' c1' bd bs bt HT'
      generalize cnt (zs.take k) = sm at *
      have q1 : IntKind.i64.wrap (sm + hi) = sm + hi := by simp [IntKind.wrap, IntKind.bits, IntKind.signed]; omega
      have q2 : IntKind.i64.wrap (sm + hi - lo) = sm + hi - lo := by simp [IntKind.wrap, IntKind.bits, IntKind.signed]; omega
      have q3 : IntKind.i64.wrap (sm + hi - lo + 1) = sm + hi - lo + 1 := by simp [IntKind.wrap, IntKind.bits, IntKind.signed]; omega
      go_wp2_with fail
      go_quiet (fail)
      go_wp2_with fail
      exact ⟨⟨k + 1, by omega, by go_num, by rw [HT'.out]; congr 1; omega, below_drewN hB _⟩, by simp [intOf]; omega⟩
    · obtain rfl : k = l0 := by omega
      have e1 : zs.take k = zs := List.take_of_length_le (by have := HL0.out; omega)
      rw [e1]
      have hB9 := hB
      go_wp2_with fail
      refine (hF _ hB9).mono ?_
      rintro e w10 ⟨rfl, hb10⟩
      have hB10 := hB9.trans (hb10.mono hB9.size)
      go_wp2_with fail
      refine (same_0 _).mono ?_
      rintro e w11 ⟨rfl, hb11⟩
      have hB11 := hB10.trans (hb11.mono hB10.size)
      go_wp2_with fail
      refine (hR2 _ hB11).mono ?_
      rintro e w12 ⟨rfl, hb12⟩
      have hB12 := hB11.trans (hb12.mono hB11.size)
      go_wp2_with fail
      go_loopw [11, 23] (fun vw i wr => ∃ (k : Nat) (ws : List R), k ≤ l2 ∧ i = .int .i64 k ∧ Row wr vw ws ∧ Hid (Norm ws ∧ (∀ j, Mem ws j ↔ Mem zs j ∨ Mem (ms.take k) j) ∧ ws.length ≤ 12 + k) ∧ Below w.heap.size w wr) (fun _ i _ => l2 - (intOf i).toNat)
      case atStart => exact ⟨0, zs, Nat.zero_le _, rfl, HA.out.below hB12, (show _ from ⟨HG.out.2.2, fun j => ⟨.inl, fun h => h.resolve_right (by simpa using mem_nil j)⟩, by have := HG.out.1; omega⟩), hB12⟩
      case round =>
        obtain ⟨k, ws, hk, rfl, hrw, hW, hB⟩ := hrel
        by_cases hlt : k < l2
        · have g1 : (k : Int) < (l2 : Int) := by omega
          have hkl : k < ms.length := by have := HL2.out; omega
          obtain ⟨b, off, hbo, hbb, hCl⟩ : ∃ b off, a2 = some ⟨b, off, none⟩ ∧ b < w.heap.size ∧ Cells w b off ms := row_cells HM.out hkl
          subst hbo
          have c0' := (hCl.below hbb hB k hkl).1
          have c1' := (hCl.below hbb hB k hkl).2
          have bd := good_each HG2.out _ (at_mem hkl)
          have HT : Hid (∀ n, Mem (ms.take (k + 1)) n ↔ Mem (ms.take k) n ∨ ((at' ms k).1 ≤ n ∧ n ≤ (at' ms k).2)) := mem_take_next hkl
          clear hCl hkl
          generalize at' ms k = r at *
          obtain ⟨lo, hi⟩ := r
          simp only at c0' c1' bd HT
          have HRw : Hid (Row wr u11 ws) := hrw
          obtain ⟨aw, cw, rfl, _, _, _⟩ := hrw
          go_wp2_with fail
          refine (rwith_calls _ ws lo hi _ HRw.out (by have := hW.out.2.2; have := HG2.out.1; have := HL2.out; omega) hW.out.1 (ends_of hW.out.1 (fun n hn => ?_)) bd).mono ?_
          · rcases (hW.out.2.1 n).1 hn with h | ⟨r, hr, h1, h2⟩
            · exact mem_ends HG.out.2.1 n h
            · exact mem_ends HG2.out.2.1 n ⟨r, List.mem_of_mem_take hr, h1, h2⟩
          rintro e w' ⟨v', ws', rfl, hr', hn', hm', hl', hb'⟩
          have HW' : Hid (Norm ws' ∧ (∀ j, Mem ws' j ↔ Mem zs j ∨ Mem (ms.take (k + 1)) j) ∧ ws'.length ≤ 12 + (k + 1)) := by
            refine ⟨hn', fun j => ?_, by have := hW.out.2.2; omega⟩
            rw [hm' j, hW.out.2.1 j, HT.out j]
            exact ⟨fun h => h.elim (fun h => h.elim .inl (fun h => .inr (.inl h))) (fun h => .inr (.inr h)), fun h => h.elim (fun h => .inl (.inl h)) (fun h => h.elim (fun h => .inl (.inr h)) .inr)⟩
          clear hn' hm' hl'
          have hB' := hB.trans (hb'.mono hB.size)
          go_wp2_with fail
          exact ⟨⟨k + 1, ws', by omega, by go_num, hr', HW', hB'⟩, by simp [intOf]; omega⟩
        · obtain rfl : k = l2 := by omega
          have HW : Hid (Norm ws ∧ ∀ j, Mem ws j ↔ Mem zs j ∨ Mem ms j) := by
            refine ⟨hW.out.1, fun j => ?_⟩
            have e1 : ms.take k = ms := List.take_of_length_le (by have := HL2.out; omega)
            have h := hW.out.2.1 j
            rw [e1] at h
            exact h
          have hws : ws.length ≤ 24 := by have := hW.out.2.2; have := HG2.out.1; have := HL2.out; omega
          clear hW
          have HRw : Hid (Row wr u11 ws) := hrw
          obtain ⟨aw, cw, rfl, _, _, _⟩ := hrw
          generalize hq : ws.length = lw at *
          have HQ : Hid (ws.length = lw) := hq
          clear hq
          have hB13 := hB
          by_cases h13w : 12 < lw
          · have gw : (12 : Int) < (lw : Int) := by omega
            go_wp2_with fail
            refine (both_ok _ _ zs ms _ (HA.out.below hB13) (HM.out.below hB13) hg hg2).mono ?_
            rintro e w14 ⟨ds, hdn, hdm, hdl, hb14, hor⟩
            obtain rfl : ds = ws := norm_unique hdn HW.out.1 (fun j => (hdm j).trans (HW.out.2 j).symm)
            rw [HQ.out] at hor
            have hB14 := hB13.trans (hb14.mono hB13.size)
            obtain ⟨_, rfl⟩ : _ ∧ _ := hor.resolve_right (fun h => by omega)
            rw [errV4]
            go_wp2_with fail
            refine (same_k 4 _ (hH.below hB14)).mono ?_
            rintro e w15 ⟨rfl, hb15⟩
            have hB15 := hB14.trans (hb15.mono hB14.size)
            go_wp2_with fail
            refine (samer_eq _ _ [] _ (Row.nil _) (Row.nil _)).mono ?_
            rintro e w16 ⟨rfl, hb16⟩
            have hB16 := hB15.trans (hb16.mono hB15.size)
            go_wp2_with fail
            go_ret
            exact ⟨rfl, hB16⟩
          · have gw : ¬ (12 : Int) < (lw : Int) := by omega
            go_wp2_with fail
            refine (both_ok _ _ zs ms _ (HA.out.below hB13) (HM.out.below hB13) hg hg2).mono ?_
            rintro e w14 ⟨ds, hdn, hdm, hdl, hb14, hor⟩
            obtain rfl : ds = ws := norm_unique hdn HW.out.1 (fun j => (hdm j).trans (HW.out.2 j).symm)
            rw [HQ.out] at hor
            have hB14 := hB13.trans (hb14.mono hB13.size)
            obtain ⟨_, v2, hr2, rfl⟩ : _ ∧ _ := hor.resolve_left (fun h => by omega)
            have HRd : Hid (Row w14 v2 ds) := hr2
            obtain ⟨ad, cd, rfl, _, _, _⟩ := hr2
            go_wp2_with fail
            refine (same_0 _).mono ?_
            rintro e w15 ⟨rfl, hb15⟩
            have hB15 := hB14.trans (hb15.mono hB14.size)
            go_wp2_with fail
            refine (samer_eq _ _ ds _ (HRd.out.below hb15) (HRw.out.below (hb14.trans (hb15.mono hb14.size)))).mono ?_
            rintro e w16 ⟨rfl, hb16⟩
            have hB16 := hB15.trans (hb16.mono hB15.size)
            go_wp2_with fail
            go_ret
            exact ⟨rfl, hB16⟩
end Go.Proofs.YtbglleldbogaaaaDoor
