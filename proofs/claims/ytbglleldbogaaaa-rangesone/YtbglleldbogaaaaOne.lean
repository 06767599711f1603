/- Proved: for every integer n the law RangesOne returns true: of a number that a packet can have, added to no ranges, there is one range; added again it is not new, and nothing changes; one number is counted. -/
import Derived.Test.YtbglleldbogaaaaG
import Derived.Test.YtbglleldbogaaaaRows
import Derived.ProofKit
import Derived.OpenShut
namespace Go.Proofs.Ytbglleldbogaaaa
open Go.ChangeShapes Go.WideShapes Go.ChangeAt Go.RowKit Go.Sort
set_option linter.unusedVariables false
set_option linter.unusedSimpArgs false

theorem one_good (n : Int) (h0 : 0 ≤ n) (h1 : n ≤ 1073741823) : chk [(n, n)] = 0 :=
  (chk_ok _).2 ⟨by simp, fun r hr => by simp at hr; subst hr; exact ⟨h0, h1⟩, ⟨Int.le_refl _, fun s hs => by simp at hs, trivial⟩⟩
theorem one_norm (n : Int) : Norm [(n, n)] := ⟨Int.le_refl _, fun s hs => by simp at hs, trivial⟩
theorem one_mem (n k : Int) : Mem [(n, n)] k ↔ k = n := by
  rw [mem_one]
  exact ⟨fun h => by have := h.1; have := h.2; simp at *; omega, fun h => by subst h; exact ⟨Int.le_refl _, Int.le_refl _⟩⟩

set_option maxRecDepth 100000 in
set_option maxHeartbeats 2000000 in
theorem one_calls (n : Int) (w : World) : Calls Try.prog 3 #[.int .i64 n] w fun e w' => e = .returned (.bool true) ∧ Below w.heap.size w w' := by
  cases hN : isN n with
  | false =>
    have hn := (isN_no n).1 hN
    have h1 := add_no (.slice none 0 0) [] n w (Row.nil w) ((chk_ok _).2 ⟨by simp, fun r hr => by simp at hr, trivial⟩) hN
    rw [errV1] at h1
    by_cases h0 : n < 0
    · go_enter Try.func3, Try.ntmps3
      go_wp2_with (go_at_call 4; refine h1.mono ?_; rintro e w1 ⟨rfl, hb1⟩)
      go_ret
      exact ⟨rfl, hb1⟩
    · have h2 : 1073741823 < n := by omega
      go_enter Try.func3, Try.ntmps3
      go_wp2_with (go_at_call 4; refine h1.mono ?_; rintro e w1 ⟨rfl, hb1⟩)
      go_ret
      exact ⟨rfl, hb1⟩
  | true =>
    have hn := (isN_iff n).1 hN
    have h1 : Calls Try.prog 4 #[.slice none 0 0, .int .i64 n] w fun e w' => ∃ a c, Row w' (.slice a 1 c) [(n, n)] ∧ e = .returned (.tuple #[.slice a 1 c, .bool true, .nilIface]) ∧ Below w.heap.size w w' := by
      refine (add_ok (.slice none 0 0) [] n w (Row.nil w) ((chk_ok _).2 ⟨by simp, fun r hr => by simp at hr, trivial⟩) hN).mono ?_
      rintro e w' ⟨zs, hz, hm, hl, hb, h⟩
      have e1 : zs = [(n, n)] := norm_unique hz (one_norm n) fun k => by
        rw [hm k, one_mem]
        exact ⟨fun h => h.resolve_left (mem_nil k), .inr⟩
      subst e1
      rcases h with ⟨h, _⟩ | ⟨_, v, hr, he⟩
      · simp at h
      · obtain ⟨a, c, rfl, hx⟩ := hr
        exact ⟨a, c, ⟨a, c, rfl, hx⟩, he, hb⟩
    have h2 : ∀ a c W, Row W (.slice a 1 c) [(n, n)] → Calls Try.prog 4 #[.slice a 1 c, .int .i64 n] W fun e w' => ∃ a' c', Row w' (.slice a' 1 c') [(n, n)] ∧ e = .returned (.tuple #[.slice a' 1 c', .bool false, .nilIface]) ∧ Below W.heap.size W w' := by
      intro a c W hR
      refine (add_ok (.slice a 1 c) [(n, n)] n W hR (one_good n hn.1 hn.2) hN).mono ?_
      rintro e w' ⟨zs, hz, hm, hl, hb, h⟩
      have e1 : zs = [(n, n)] := norm_unique hz (one_norm n) fun k => by
        rw [hm k, one_mem]
        exact ⟨fun h => h.elim id id, .inl⟩
      subst e1
      rcases h with ⟨h, _⟩ | ⟨_, v, hr, he⟩
      · simp at h
      · obtain ⟨a', c', rfl, hx⟩ := hr
        rw [(memB_iff [(n, n)] n).2 ((one_mem n n).2 rfl)] at he
        exact ⟨a', c', ⟨a', c', rfl, hx⟩, he, hb⟩
    have h3 : ∀ a c W, Row W (.slice a 1 c) [(n, n)] → Calls Try.prog 5 #[.slice a 1 c] W fun e w' => e = .returned (.tuple #[.int .i64 1, .nilIface]) ∧ Below W.heap.size W w' := by
      intro a c W hR
      have h := count_ok (.slice a 1 c) [(n, n)] W hR (one_good n hn.1 hn.2)
      have e : cnt [(n, n)] = 1 := by simp [cnt]
      rw [e] at h
      exact h
    have h4 : ∀ a c a' c' W, Row W (.slice a 1 c) [(n, n)] → Row W (.slice a' 1 c') [(n, n)] → Calls Try.prog 6 #[.slice a 1 c, .slice a' 1 c'] W fun e w' => e = .returned (.bool true) ∧ Below W.heap.size W w' := by
      intro a c a' c' W hR hR'
      have h := same_calls _ _ _ _ W hR hR'
      have e : decide ([(n, n)] = [(n, n)]) = true := by simp
      rw [e] at h
      exact h
    go_enter Try.func3, Try.ntmps3
    go_wp2_with fail
    refine h1.mono ?_
    rintro e w1 ⟨a1, c1, hr1, rfl, hb1⟩
    have HR1 : Hid (Row w1 (.slice a1 1 c1) [(n, n)]) := hr1
    clear hr1
    go_wp2_with fail
    refine (h2 a1 c1 w1 HR1.out).mono ?_
    rintro e w2 ⟨a2, c2, hr2, rfl, hb2⟩
    have HR2 : Hid (Row w2 (.slice a2 1 c2) [(n, n)]) := hr2
    clear hr2
    go_wp2_with fail
    refine (h3 a2 c2 w2 HR2.out).mono ?_
    rintro e w3 ⟨rfl, hb3⟩
    go_wp2_with fail
    refine (h4 a1 c1 a2 c2 w3 ((HR1.out.below hb2).below hb3) (HR2.out.below hb3)).mono ?_
    rintro e w4 ⟨rfl, hb4⟩
    go_wp2_with fail
    go_ret
    have b2 := hb1.trans (hb2.mono hb1.size)
    have b3 := b2.trans (hb3.mono b2.size)
    exact ⟨rfl, b3.trans (hb4.mono b3.size)⟩

theorem own : ownKnob Try.prog.godebug = none := by kernel_rfl

set_option maxRecDepth 100000 in
theorem one_lifted (os : Os) (started : os.Started) (H : Type) (enc : TypeId × Value → H) :
    ReturnsInHanded {} Try.checked os 3 .any (Rows.rangesOneSpec.pre6 enc Try.prog Try.f3 Rows.rangesOneRow.domain false) (Rows.rangesOneSpec.post enc Try.prog Try.f3 false true false false) := by
  refine returnsInHanded_of_change (C := Try.checked) own started (by kernel_rfl) Try.func3
    (ChangeSpec.witness6 (enc := enc) (C := Try.checked) false ⟨#[], #[.int .i64 0], []⟩ 8 (by kernel_rfl) (by kernel_rfl) (by kernel_rfl) (by kernel_rfl)) ?_
  intro W base args ds gs before hval0 hW hcnd _
  have hval : ∀ (j : Nat) t v, Try.f3.params[j]? = some t → args[j]? = some v → Value.okWide Try.prog W .any base t v := hval0
  have hW' := hW
  obtain ⟨p, q, hA0, hV, rfl, hfz, hnd⟩ := hW
  have hA : DataW.TrodAll enc Try.prog W 0 (fun _ => true) true Try.f3.params.toList args.toList ds p := hA0
  rw [Try.params3] at hA hval
  obtain ⟨v0, vs0, d0, ds0, p0, q0, hargs, rfl, rfl, h0, r0⟩ := trodAll_cons hA
  obtain ⟨rfl, rfl, rfl⟩ := trodAll_nil r0
  obtain rfl : args = #[v0] := by cases args; simp_all
  obtain ⟨rfl, rfl⟩ := trodVars_none hV
  obtain ⟨a0, rfl, rfl, rfl, w0⟩ := open_int Try.underlying3 (hval 0 3 v0 rfl rfl) h0
  clear hA0 hval0
  refine (one_calls a0 W).mono fun e W' ⟨he, bel⟩ => ?_
  subst he
  exact ⟨_, rfl, _, _, _, [], _, [], hW', trodAll_mk1 (shut_bool Try.underlying4 _), trodAll_mk1 (shut_int Try.underlying3 w0), rfl, bel.frame _, fun h => by cases h⟩

theorem one_over : Rows.rangesOneRow.holds Try.pinned (OpenSpec.ofChange Rows.rangesOneSpec) :=
  OpenClaim.holds_of_wide 3 Try.f3 rfl rfl rfl rfl rfl rfl rfl ⟨rfl, rfl, rfl, rfl, rfl⟩ rfl rfl rfl rfl rfl (by kernel_rfl) Try.func3 (by kernel_rfl)
    (of_decide_eq_true (by kernel_rfl)) (by unfold Func.isWrapper; first | (rw [if_pos (by decide +kernel)]; kernel_rfl) | (rw [if_neg (by decide +kernel)]; exact ⟨rfl, rfl⟩))
    (fun os started H enc _ => one_lifted os started H enc)

theorem rangesOne_holds : Rows.RangesOneSaid :=
  one_over
#print axioms rangesOne_holds
end Go.Proofs.Ytbglleldbogaaaa
