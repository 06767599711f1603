/- Proved: for every two lists of ranges and every two integers the law RangesSet returns true: with a number more there is one more, if it is new, and all others are as they were; both have just what one of both has, either way round; the library's errors.errorType starts as the program's text lays it (the card ties that). -/
import Derived.Test.YtbglleldbogaaaaDoorY
import Derived.Test.YtbglleldbogaaaaDoorZ
import Derived.Test.YtbglleldbogaaaaDoorA
import Derived.Test.YtbglleldbogaaaaDoorF
namespace Go.Proofs.YtbglleldbogaaaaDoor
open Go.ChangeShapes Go.WideShapes Go.ChangeAt Go.RowKit
set_option linter.unusedVariables false
set_option linter.unusedSimpArgs false

theorem sets_calls {W : World} {a0 a3 : Option Addr} {l0 l3 c0 c3 : Nat} {z0 z3 : List R} (e0 : Row W (.slice a0 l0 c0) z0) (n k : Int) (e3 : Row W (.slice a3 l3 c3) z3) (hH : Handle W) :
    Calls Tryd.prog 4 #[.slice a0 l0 c0, .int .i64 n, .int .i64 k, .slice a3 l3 c3] W fun e w' => e = .returned (.bool true) ∧ Below W.heap.size W w' := by
  cases hK : isN k with
  | false => exact set_badN a0 a3 l0 l3 c0 c3 n k z0 z3 W hH e0 e3 hK
  | true =>
    by_cases hg : chk z0 = 0
    · cases hN : isN n with
      | false =>
        cases hh : memB z0 k with
        | true => exact set_B1 a0 a3 l0 l3 c0 c3 n k z0 z3 W hH e0 e3 hK hg hh hN
        | false => exact set_B0 a0 a3 l0 l3 c0 c3 n k z0 z3 W hH e0 e3 hK hg hh hN
      | true =>
        have g := (chk_ok z0).1 hg
        have hn := (isN_iff n).1 hN
        obtain ⟨hcn, hcm⟩ := with_false z0 (n, n) (Int.le_refl _) g.2.2
        have hcm' : ∀ j, Mem (withF (n, n) false z0) j ↔ Mem z0 j ∨ j = n := fun j => by
          rw [hcm j]
          constructor
          · rintro (h | h)
            · exact .inr (by have := h.1; have := h.2; simp at *; omega)
            · exact .inl h
          · rintro (h | rfl)
            · exact .inr h
            · exact .inl ⟨Int.le_refl _, Int.le_refl _⟩
        by_cases h13 : 12 < (withF (n, n) false z0).length
        · cases hh : memB z0 k with
          | true => exact set_F1 a0 a3 l0 l3 c0 c3 n k z0 z3 W hH e0 e3 hK hg hh hN _ hcn hcm' h13
          | false => exact set_F0 a0 a3 l0 l3 c0 c3 n k z0 z3 W hH e0 e3 hK hg hh hN _ hcn hcm' h13
        · have h12 : (withF (n, n) false z0).length ≤ 12 := by omega
          by_cases hkn : k = n
          · cases hh : memB z0 k with
            | true => exact set_C111 a0 a3 l0 l3 c0 c3 n k z0 z3 W hH e0 e3 hK hg hh hN hkn (hkn ▸ hh) _ hcn hcm' h12
            | false => exact set_C010 a0 a3 l0 l3 c0 c3 n k z0 z3 W hH e0 e3 hK hg hh hN hkn (hkn ▸ hh) _ hcn hcm' h12
          · cases hh : memB z0 k with
            | true =>
              cases hm : memB z0 n with
              | true => exact set_C101 a0 a3 l0 l3 c0 c3 n k z0 z3 W hH e0 e3 hK hg hh hN hkn hm _ hcn hcm' h12
              | false => exact set_C100 a0 a3 l0 l3 c0 c3 n k z0 z3 W hH e0 e3 hK hg hh hN hkn hm _ hcn hcm' h12
            | false =>
              cases hm : memB z0 n with
              | true => exact set_C001 a0 a3 l0 l3 c0 c3 n k z0 z3 W hH e0 e3 hK hg hh hN hkn hm _ hcn hcm' h12
              | false => exact set_C000 a0 a3 l0 l3 c0 c3 n k z0 z3 W hH e0 e3 hK hg hh hN hkn hm _ hcn hcm' h12
    · exact set_badL a0 a3 l0 l3 c0 c3 n k z0 z3 W hH e0 e3 hK hg

set_option maxRecDepth 100000 in
theorem sets_lifted (os : Os) (started : os.Started) (H : Type) (enc : TypeId × Value → H) :
    ReturnsInHanded {} Tryd.checked os 4 .any (fun w args => (Rows.rangesSetSpec.pre enc Tryd.prog Tryd.f4 [] false w args ∧ laidMetH Tryd.prog laid1 w) ∧ sizedMet enc Tryd.prog Tryd.f4 (OpenSpec.ofChange Rows.rangesSetSpec) false w args)
      (Rows.rangesSetSpec.post enc Tryd.prog Tryd.f4 false true false false) := by
  refine returnsInHanded_of_change_and (C := Tryd.checked) (X := fun w _ => laidMetH Tryd.prog laid1 w) (fun _ _ _ hh h => h.of_heap hh) own started (by kernel_rfl) Tryd.func4
    (ChangeSpec.witness_shaped (enc := enc) (C := Tryd.checked) (os := os) (X := fun w _ => laidMetH Tryd.prog laid1 w) false (World.doorLaid Tryd.prog 16 os) #[.slice none 0 0, .int .i64 0, .int .i64 0, .slice none 0 0] 8 rfl (World.shaped_of_RefB (by kernel_rfl) (by kernel_rfl)) (by kernel_rfl) (by kernel_rfl) (by kernel_rfl) (door_met os _)) ?_
  intro W base args ds gs before hval0 hW _ hsz hL _
  have hval : ∀ (j : Nat) t v, Tryd.f4.params[j]? = some t → args[j]? = some v → Value.okWide Tryd.prog W .any base t v := hval0
  have hW' := hW
  obtain ⟨p, q, hA0, hV, rfl, hfz, hnd⟩ := hW
  have hA : DataW.TrodAll enc Tryd.prog W 0 (fun _ => true) true Tryd.f4.params.toList args.toList ds p := hA0
  rw [Tryd.params4] at hA hval
  obtain ⟨v0, vs0, d0, ds0, p0, q0, hargs, rfl, rfl, h0, r0⟩ := trodAll_cons hA
  obtain ⟨v1, vs1, d1, ds1, p1, q1, rfl, rfl, rfl, h1, r1⟩ := trodAll_cons r0
  obtain ⟨v2, vs2, d2, ds2, p2, q2, rfl, rfl, rfl, h2, r2⟩ := trodAll_cons r1
  obtain ⟨v3, vs3, d3, ds3, p3, q3, rfl, rfl, rfl, h3, r3⟩ := trodAll_cons r2
  obtain ⟨rfl, rfl, rfl⟩ := trodAll_nil r3
  obtain rfl : args = #[v0, v1, v2, v3] := by cases args; simp_all
  obtain ⟨rfl, rfl⟩ := trodVars_none hV
  obtain ⟨a0, len0, cap0, rfl⟩ := okWide_slice Tryd.underlying22 (hval 0 22 v0 rfl rfl)
  have k0 := h0
  have lt0 : ∀ x ∈ p0, x.block < W.heap.size := by obtain ⟨m, hm⟩ := k0; exact DataW.trod_lt m _ _ _ hm
  obtain ⟨z0, e0⟩ := open_row' h0
  obtain ⟨a1, rfl, rfl, rfl, w1⟩ := open_int Tryd.underlying3 (hval 1 3 v1 rfl rfl) h1
  obtain ⟨a2, rfl, rfl, rfl, w2⟩ := open_int Tryd.underlying3 (hval 2 3 v2 rfl rfl) h2
  obtain ⟨a3, len3, cap3, rfl⟩ := okWide_slice Tryd.underlying22 (hval 3 22 v3 rfl rfl)
  have k3 := h3
  have lt3 : ∀ x ∈ p3, x.block < W.heap.size := by obtain ⟨m, hm⟩ := k3; exact DataW.trod_lt m _ _ _ hm
  obtain ⟨z3, e3⟩ := open_row' h3
  have hH := of_laid hL
  clear hA0 hval0
  refine (sets_calls e0 a1 a2 e3 hH).mono fun e W' ⟨he, bel⟩ => ?_
  subst he
  exact ⟨_, rfl, _, _, _, [], _, [], hW', trodAll_mk1 (shut_bool Tryd.underlying4 _), (trodAll_cons_mk (Below.trod laidOut (by kernel_rfl) (of_decide_eq_true (by kernel_rfl)) k0 bel lt0) (trodAll_cons_mk (shut_int Tryd.underlying3 w1) (trodAll_cons_mk (shut_int Tryd.underlying3 w2) (trodAll_cons_mk (Below.trod laidOut (by kernel_rfl) (of_decide_eq_true (by kernel_rfl)) k3 bel lt3) trodAll_mk0)))), rfl, bel.frame _, fun h => by cases h⟩

theorem sets_holds : Rows.RangesSetSaid :=
  OpenClaim.holds_of_wide 4 Tryd.f4 rfl rfl rfl rfl rfl rfl rfl ⟨rfl, rfl, rfl, rfl, rfl⟩ rfl rfl rfl rfl rfl (by kernel_rfl) Tryd.func4 (by kernel_rfl)
    (of_decide_eq_true (by kernel_rfl)) (by unfold Func.isWrapper; first | (rw [if_pos (by decide +kernel)]; kernel_rfl) | (rw [if_neg (by decide +kernel)]; exact ⟨rfl, rfl⟩))
    (fun os started H enc _ => sets_lifted os started H enc)

theorem sets_card : Rows.RangesSetCardSaid :=
  Claim7.holds_tied_plain_at .later [] [.handle] true (true, "b602657429f7fdb1e5b9d5bbc0bf3aac1f201c324fecd5663fe5239010166085") true
    sets_holds (fun _ h => by cases h) (by kernel_rfl) (fun _ h => by cases h) rangesSet_row_tie rfl ⟨rfl, rfl⟩ (by kernel_rfl) rfl
    (fun f fn hf hfn => by
      obtain rfl : f = 4 := Option.some.inj ((show Tryd.prog.funcNamed "wanderwire/wirelaw1.RangesSet" = some 4 by kernel_rfl).symm.trans hf) |>.symm
      obtain rfl : fn = Tryd.f4 := (Option.some.inj (Tryd.func4.symm.trans hfn)).symm
      exact ⟨by kernel_rfl, fun j t ht => by
        rw [Tryd.params4] at ht
        have hm : t ∈ [22, 3, 3, 22] := by simpa using Array.mem_of_getElem? ht
        have hall : ([22, 3, 3, 22].all fun u => !Tryd.prog.wantsStandIn u) = true := by kernel_rfl
        exact (show Tryd.prog.wantsStandIn t = false by simpa using List.all_eq_true.1 hall t hm)⟩)
    (by kernel_rfl)
#print axioms sets_card
end Go.Proofs.YtbglleldbogaaaaDoor
