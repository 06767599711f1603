/- LossNone's walk. -/
import Derived.Test.YtingcgadolcanaaI
import Derived.Test.YtingcgadolcanaaJ
namespace Go.Proofs.Ytingcgadolcanaa
open Go.RowKit Go.Lib Go.Sort
set_option linter.unusedVariables false
set_option linter.unusedSimpArgs false

theorem chk_nil : chk [] = 0 := rfl
set_option maxRecDepth 100000 in
set_option maxHeartbeats 2000000 in
theorem none_wrong (u : Value) (zs : List S3) (now wait : Int) (w : World) (hZ : Row3 w u zs) (h : sc zs ≠ 0) :
    Calls Try.prog 4 #[u, .int .i64 now, .int .i64 wait] w fun e w' => e = .returned (.bool true) ∧ Below w.heap.size w w' := by
  have hb : both zs [] ≠ 0 := fun e => h (both_0 e).1
  have h1 := lost_no u (.slice none 0 0) zs [] now wait w hZ (Row.nil w) hb
  rw [errV_f hb] at h1
  have HC : Hid (∀ w1, Below w.heap.size w w1 → Calls Try.prog 8 #[u] w1 fun e w' => e = .returned (.iface 42 (.int .i64 (sc zs))) ∧ Below w1.heap.size w1 w') := fun w1 hb => by
    have := scheck_calls u zs w1 (hZ.below hb)
    rw [errV_f h] at this
    exact this
  clear hZ h hb
  generalize both zs [] = f at h1
  generalize sc zs = f2 at HC
  go_enter Try.func4, Try.ntmps4
  go_wp2_with (first | (go_at_call 5; refine h1.mono ?_; rintro e w1 ⟨rfl, hb1⟩) | (go_at_call 8; refine (HC.out _ hb1).mono ?_; rintro e w2 ⟨rfl, hb2⟩))
  go_ret
  exact ⟨rfl, hb1.trans (hb2.mono hb1.size)⟩
set_option maxRecDepth 100000 in
set_option maxHeartbeats 2000000 in
theorem none_range (u : Value) (zs : List S3) (now wait : Int) (w : World) (hZ : Row3 w u zs) (h : sc zs = 0) (ht : ¬ (isT now = true ∧ isW wait = true)) :
    Calls Try.prog 4 #[u, .int .i64 now, .int .i64 wait] w fun e w' => e = .returned (.bool true) ∧ Below w.heap.size w w' := by
  have h1 := lost_range u (.slice none 0 0) zs [] now wait w hZ (Row.nil w) (both_mk h chk_nil) ht
  have HC : Hid (∀ w1, Below w.heap.size w w1 → Calls Try.prog 8 #[u] w1 fun e w' => e = .returned .nilIface ∧ Below w1.heap.size w1 w') := fun w1 hb => by
    have := scheck_calls u zs w1 (hZ.below hb)
    rw [h, errV0] at this
    exact this
  have hor : now < 0 ∨ (¬ now < 0 ∧ 100000 < now) ∨ (¬ now < 0 ∧ ¬ 100000 < now ∧ wait < 1) ∨ (¬ now < 0 ∧ ¬ 100000 < now ∧ ¬ wait < 1 ∧ 100000 < wait) := by
    rw [isT_iff, isW_iff] at ht
    omega
  clear hZ h ht
  rcases hor with q1 | ⟨q1, q2⟩ | ⟨q1, q2, q3⟩ | ⟨q1, q2, q3, q4⟩
  all_goals
    go_enter Try.func4, Try.ntmps4
    go_wp2_with (first | (go_at_call 5; refine h1.mono ?_; rintro e w1 ⟨rfl, hb1⟩) | (go_at_call 8; refine (HC.out _ hb1).mono ?_; rintro e w2 ⟨rfl, hb2⟩))
    go_ret
    exact ⟨rfl, hb1.trans (hb2.mono hb1.size)⟩
set_option maxRecDepth 100000 in
set_option maxHeartbeats 2000000 in
theorem none_yes (u : Value) (zs : List S3) (now wait : Int) (w : World) (hZ : Row3 w u zs) (h : sc zs = 0) (hn : isT now = true) (hw : isW wait = true) :
    Calls Try.prog 4 #[u, .int .i64 now, .int .i64 wait] w fun e w' => e = .returned (.bool true) ∧ Below w.heap.size w w' := by
  have h1 := lost_yes u (.slice none 0 0) zs [] now wait w hZ (Row.nil w) (both_mk h chk_nil) hn hw
  rw [lost_none] at h1
  have HC : Hid (∀ w1, Below w.heap.size w w1 → Calls Try.prog 6 #[u, .slice none 0 0] w1 fun e w' => ∃ u', e = .returned (.tuple #[u', .nilIface]) ∧ Row3 w' u' zs ∧ Below w1.heap.size w1 w') := fun w1 hb => by
    have := leftx_yes u (.slice none 0 0) zs [] w1 (hZ.below hb) (Row.nil w1) (both_mk h chk_nil)
    rw [left_none] at this
    exact this
  have HS : Hid (∀ w1 u1, Below w.heap.size w w1 → Row3 w1 u1 zs → Calls Try.prog 9 #[u1, u] w1 fun e w' => e = .returned (.bool true) ∧ Below w1.heap.size w1 w') := fun w1 u1 hb hr => by
    have := same3_calls u1 u zs zs w1 hr (hZ.below hb)
    simpa using this
  clear hZ h hn hw
  go_enter Try.func4, Try.ntmps4
  go_wp2_with (first | (go_at_call 5; refine h1.mono ?_; rintro e w1 ⟨vo, rfl, hi1, hb1⟩; obtain ⟨io, ic, rfl, _, _⟩ := hi1) | (go_at_call 6; refine (HC.out _ hb1).mono ?_; rintro e w2 ⟨u2, rfl, hr2, hb2⟩; have hB2 := hb1.trans (hb2.mono hb1.size)) | (go_at_call 9; refine (HS.out _ _ hB2 hr2).mono ?_; rintro e w3 ⟨rfl, hb3⟩))
  go_ret
  exact ⟨rfl, hB2.trans (hb3.mono hB2.size)⟩
theorem none_walk (u : Value) (zs : List S3) (now wait : Int) (w : World) (hZ : Row3 w u zs) :
    Calls Try.prog 4 #[u, .int .i64 now, .int .i64 wait] w fun e w' => e = .returned (.bool true) ∧ Below w.heap.size w w' := by
  by_cases h : sc zs = 0
  · by_cases ht : isT now = true ∧ isW wait = true
    · exact none_yes u zs now wait w hZ h ht.1 ht.2
    · exact none_range u zs now wait w hZ h ht
  · exact none_wrong u zs now wait w hZ h
end Go.Proofs.Ytingcgadolcanaa
