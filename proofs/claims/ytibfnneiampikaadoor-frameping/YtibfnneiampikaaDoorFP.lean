/- The walk of the law FramePing. -/
import Derived.Test.YtibfnneiampikaaDoorFE
import Derived.Test.YtibfnneiampikaaDoorFK
namespace Go.Proofs.YtibfnneiampikaaDoor
open Go.RowKit Go.Lib Go.Sort
set_option linter.unusedVariables false
set_option linter.unusedSimpArgs false
set_option linter.unusedSimpArgs false


theorem ping_none {k : Int} (h : k ≠ 1) : frF k [] { data := #[] } ≠ 0 := by
  intro e
  obtain ⟨h1, h2, _⟩ := frF_ok e
  have hk := (kindB_iff k).1 h1
  simp only [cntB, List.length_nil] at h2
  split at h2
  · simp at h2
  · have := of_decide_eq_true h2
    unfold cntK at this
    split at this
    · contradiction
    · split at this <;> cases this
theorem ping_one : frF 1 [] { data := #[] } = 0 := by
  exact frF_zero (by decide) (by decide) (fun _ => rfl) (fun z hz => by simp at hz) (by decide) (fun e => by cases e)
theorem ping_bytes : frS 1 [] { data := #[] } = { data := #[1] } := by
  simp [frS, mid, strOfNums]; rfl

set_option maxRecDepth 100000 in
set_option maxHeartbeats 4000000 in
theorem ping_no (k : Int) (w : World) (hH : V.Forms w ∧ Cnts w) (h : k ≠ 1) : Calls Tryd.prog 5 #[.int .i64 k] w fun e w' => e = .returned (.bool true) ∧ Below w.heap.size w w' := by
  have HP := frame_print_no k (.slice none 0 0) { data := #[] } [] w hH.2 (IRow.nil w) (by unfold maxLen; decide) (ping_none h)
  rw [show errV (frF k [] { data := #[] }) = .iface 45 (.int .i64 (frF k [] { data := #[] })) by simp [errV, ping_none h]] at HP
  generalize frF k [] { data := #[] } = f at HP
  have hk : ¬ k = 1 := h
  clear hH
  go_enter Tryd.func5, Tryd.ntmps5
  go_wp2_with (first | (go_at_call 10; refine HP.mono ?_; rintro e w1 ⟨rfl, hb1⟩))
  go_ret
  exact ⟨rfl, hb1⟩

set_option maxRecDepth 100000 in
set_option maxHeartbeats 4000000 in
theorem ping_yes (w : World) (hH : V.Forms w ∧ Cnts w) : Calls Tryd.prog 5 #[.int .i64 1] w fun e w' => e = .returned (.bool true) ∧ Below w.heap.size w w' := by
  have HP := frame_print_ok 1 (.slice none 0 0) { data := #[] } [] w hH.2 hH.1 (IRow.nil w) ping_one
  rw [ping_bytes] at HP
  have hr := rdF_back ping_one { data := #[120] }
  rw [ping_bytes, show ({ data := #[1] } : ByteArray) ++ { data := #[120] } = { data := #[1, 120] } from rfl] at hr
  have HX := fun W (hb : Below w.heap.size w W) => frame_parse_yes { data := #[1, 120] } W (hH.2.below hb) (hH.1.below hb) (by unfold maxLen; decide) 1 [] { data := #[] } 1 hr
  clear hH hr
  go_enter Tryd.func5, Tryd.ntmps5
  go_wp2_with (first | (go_at_call 10; refine HP.mono ?_; rintro e w1 ⟨rfl, hb1⟩) | (go_at_call 12; refine (HX _ hb1).mono ?_; rintro e w2 ⟨v, rfl, hR, hb2⟩; obtain ⟨a2, c2, hv2, _⟩ := id hR; subst hv2))
  go_ret
  exact ⟨by simp, hb1.trans ((hb2.alloc hb2.size _).mono hb1.size)⟩
theorem ping_walk (k : Int) (w : World) (hH : V.Forms w ∧ Cnts w) : Calls Tryd.prog 5 #[.int .i64 k] w fun e w' => e = .returned (.bool true) ∧ Below w.heap.size w w' := by
  by_cases h : k = 1
  · subst h; exact ping_yes w hH
  · exact ping_no k w hH h
end Go.Proofs.YtibfnneiampikaaDoor
