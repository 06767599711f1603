/- The document's credit: its Take, and Get. -/
import Derived.Test.YtojhcmnmjdolpaaDoorB
namespace Go.Proofs.YtojhcmnmjdolpaaDoor
open Go.RowKit Go.Lib Go.Sort
set_option linter.unusedVariables false
set_option linter.unusedSimpArgs false


set_option maxRecDepth 100000 in
set_option maxHeartbeats 2000000 in
theorem rtake_range {w : World} {B sb : Nat} {win lim came read : Int} (h : Obj w B sb ⟨win, lim, came, read⟩) (n : Int) (hb : numB n = false) : Calls Tryd.prog 11 #[.pointer (some ⟨sb, 0, none⟩), .int .i64 n] w fun e w' => e = .returned (.int .i64 1) ∧ Turned w w' B sb ⟨win, lim, came, read⟩ := by
  have c0 := h.four.c0
  have c1 := h.four.c1
  have c2 := h.four.c2
  have c3 := h.four.c3
  have f1 := h.four.f1
  have f2 := h.four.f2
  have f3 := h.four.f3
  obtain ⟨w1, w2, l1, l2, a1, a2, r1, r2⟩ := h.inv
  simp only at c0 c1 c2 c3 w1 w2 l1 l2 a1 a2 r1 r2
  go_enter Tryd.func11, Tryd.ntmps11
  go_wp2_with (go_at_call 17; refine (may_calls n _).mono ?_; rintro e wx ⟨rfl, rfl⟩; rw [hb])
  go_ret
  exact ⟨rfl, Turned.same h⟩

set_option maxRecDepth 100000 in
set_option maxHeartbeats 2000000 in
theorem rtake_flow {w : World} {B sb : Nat} {win lim came read : Int} (h : Obj w B sb ⟨win, lim, came, read⟩) (n : Int) (hb : numB n = true) (h2 : lim < n) : Calls Tryd.prog 11 #[.pointer (some ⟨sb, 0, none⟩), .int .i64 n] w fun e w' => e = .returned (.int .i64 8) ∧ Turned w w' B sb ⟨win, lim, came, read⟩ := by
  have c0 := h.four.c0
  have c1 := h.four.c1
  have c2 := h.four.c2
  have c3 := h.four.c3
  have f1 := h.four.f1
  have f2 := h.four.f2
  have f3 := h.four.f3
  obtain ⟨w1, w2, l1, l2, a1, a2, r1, r2⟩ := h.inv
  simp only at c0 c1 c2 c3 w1 w2 l1 l2 a1 a2 r1 r2
  go_enter Tryd.func11, Tryd.ntmps11
  go_wp2_with (go_at_call 17; refine (may_calls n _).mono ?_; rintro e wx ⟨rfl, rfl⟩; rw [hb])
  go_ret
  exact ⟨rfl, Turned.same h⟩

set_option maxRecDepth 100000 in
set_option maxHeartbeats 2000000 in
theorem rtake_yes1 {w : World} {B sb : Nat} {win lim came read : Int} (h : Obj w B sb ⟨win, lim, came, read⟩) (n : Int) (hb : numB n = true) (h2 : n ≤ lim) (h3 : came < n) : Calls Tryd.prog 11 #[.pointer (some ⟨sb, 0, none⟩), .int .i64 n] w fun e w' => e = .returned (.int .i64 0) ∧ Turned w w' B sb (upS ⟨win, lim, came, read⟩ n) := by
  have c0 := h.four.c0
  have c1 := h.four.c1
  have c2 := h.four.c2
  have c3 := h.four.c3
  have f1 := h.four.f1
  have f2 := h.four.f2
  have f3 := h.four.f3
  obtain ⟨w1, w2, l1, l2, a1, a2, r1, r2⟩ := h.inv
  simp only at c0 c1 c2 c3 w1 w2 l1 l2 a1 a2 r1 r2
  go_enter Tryd.func11, Tryd.ntmps11
  go_wp2_with (go_at_call 17; refine (may_calls n _).mono ?_; rintro e wx ⟨rfl, rfl⟩; rw [hb])
  go_ret
  exact ⟨rfl, Turned.took h h2 (if_pos h3).symm⟩

set_option maxRecDepth 100000 in
set_option maxHeartbeats 2000000 in
theorem rtake_yes2 {w : World} {B sb : Nat} {win lim came read : Int} (h : Obj w B sb ⟨win, lim, came, read⟩) (n : Int) (hb : numB n = true) (h2 : n ≤ lim) (h3 : n ≤ came) : Calls Tryd.prog 11 #[.pointer (some ⟨sb, 0, none⟩), .int .i64 n] w fun e w' => e = .returned (.int .i64 0) ∧ Turned w w' B sb (upS ⟨win, lim, came, read⟩ n) := by
  have c0 := h.four.c0
  have c1 := h.four.c1
  have c2 := h.four.c2
  have c3 := h.four.c3
  have f1 := h.four.f1
  have f2 := h.four.f2
  have f3 := h.four.f3
  obtain ⟨w1, w2, l1, l2, a1, a2, r1, r2⟩ := h.inv
  simp only at c0 c1 c2 c3 w1 w2 l1 l2 a1 a2 r1 r2
  go_enter Tryd.func11, Tryd.ntmps11
  go_wp2_with (go_at_call 17; refine (may_calls n _).mono ?_; rintro e wx ⟨rfl, rfl⟩; rw [hb])
  go_ret
  exact ⟨rfl, Turned.kept h h3⟩

theorem rtake_calls {w : World} {B sb : Nat} {s : St} (h : Obj w B sb s) (u : Int) : Calls Tryd.prog 11 #[.pointer (some ⟨sb, 0, none⟩), .int .i64 u] w fun e w' => e = .returned (.int .i64 (takeF s u)) ∧ Turned w w' B sb (takeS s u) := by
  obtain ⟨win, lim, came, read⟩ := s
  rcases takeF_cases ⟨win, lim, came, read⟩ u with ⟨e, hb⟩ | ⟨e, hb, h2⟩ | ⟨e, hb, h2⟩
  · rw [takeS_no (by rw [e]; decide), e]; exact rtake_range h u hb
  · rw [takeS_no (by rw [e]; decide), e]; exact rtake_flow h u hb h2
  · rw [takeS_yes e, e]
    by_cases h3 : came < u
    · exact rtake_yes1 h u hb h2 h3
    · exact rtake_yes2 h u hb h2 (by omega)

set_option maxRecDepth 100000 in
set_option maxHeartbeats 2000000 in
theorem rget_range {w : World} {B sb : Nat} {win lim came read : Int} (h : Obj w B sb ⟨win, lim, came, read⟩) (n : Int) (h0 : n < 0) : Calls Tryd.prog 12 #[.pointer (some ⟨sb, 0, none⟩), .int .i64 n] w fun e w' => e = .returned (.int .i64 1) ∧ Turned w w' B sb ⟨win, lim, came, read⟩ := by
  have c0 := h.four.c0
  have c1 := h.four.c1
  have c2 := h.four.c2
  have c3 := h.four.c3
  have f1 := h.four.f1
  have f2 := h.four.f2
  have f3 := h.four.f3
  obtain ⟨w1, w2, l1, l2, a1, a2, r1, r2⟩ := h.inv
  simp only at c0 c1 c2 c3 w1 w2 l1 l2 a1 a2 r1 r2
  go_enter Tryd.func12, Tryd.ntmps12
  go_wp2_with fail
  go_ret
  exact ⟨rfl, Turned.same h⟩

set_option maxRecDepth 100000 in
set_option maxHeartbeats 2000000 in
theorem rget_flow {w : World} {B sb : Nat} {win lim came read : Int} (h : Obj w B sb ⟨win, lim, came, read⟩) (n : Int) (h0 : 0 ≤ n) (h2 : came - read < n) : Calls Tryd.prog 12 #[.pointer (some ⟨sb, 0, none⟩), .int .i64 n] w fun e w' => e = .returned (.int .i64 8) ∧ Turned w w' B sb ⟨win, lim, came, read⟩ := by
  have c0 := h.four.c0
  have c1 := h.four.c1
  have c2 := h.four.c2
  have c3 := h.four.c3
  have f1 := h.four.f1
  have f2 := h.four.f2
  have f3 := h.four.f3
  obtain ⟨w1, w2, l1, l2, a1, a2, r1, r2⟩ := h.inv
  simp only at c0 c1 c2 c3 w1 w2 l1 l2 a1 a2 r1 r2
  go_enter Tryd.func12, Tryd.ntmps12
  go_wp2_with fail
  go_quiet (fail)
  go_wp2_with fail
  go_ret
  exact ⟨rfl, Turned.drewN h _⟩

set_option maxRecDepth 100000 in
set_option maxHeartbeats 2000000 in
theorem rget_full {w : World} {B sb : Nat} {win lim came read : Int} (h : Obj w B sb ⟨win, lim, came, read⟩) (n : Int) (h0 : 0 ≤ n) (h2 : n ≤ came - read) (h3 : win / 2 < read + n - (lim - win)) (hb : numB (read + n + win) = false) : Calls Tryd.prog 12 #[.pointer (some ⟨sb, 0, none⟩), .int .i64 n] w fun e w' => e = .returned (.int .i64 4) ∧ Turned w w' B sb ⟨win, lim, came, read⟩ := by
  have c0 := h.four.c0
  have c1 := h.four.c1
  have c2 := h.four.c2
  have c3 := h.four.c3
  have f1 := h.four.f1
  have f2 := h.four.f2
  have f3 := h.four.f3
  obtain ⟨w1, w2, l1, l2, a1, a2, r1, r2⟩ := h.inv
  simp only at c0 c1 c2 c3 w1 w2 l1 l2 a1 a2 r1 r2
  go_enter Tryd.func12, Tryd.ntmps12
  go_wp2_with fail
  go_quiet (fail)
  go_wp2_with fail
  go_quiet (fail)
  go_wp2_with fail
  go_quiet (fail)
  go_wp2_with (go_at_call 17; refine (may_calls (read + n + win) _).mono ?_; rintro e wx ⟨rfl, rfl⟩; rw [hb])
  go_ret
  exact ⟨rfl, Turned.drewN h _⟩

set_option maxRecDepth 100000 in
set_option maxHeartbeats 2000000 in
theorem rget_more {w : World} {B sb : Nat} {win lim came read : Int} (h : Obj w B sb ⟨win, lim, came, read⟩) (n : Int) (h0 : 0 ≤ n) (h2 : n ≤ came - read) (h3 : win / 2 < read + n - (lim - win)) (hb : numB (read + n + win) = true) : Calls Tryd.prog 12 #[.pointer (some ⟨sb, 0, none⟩), .int .i64 n] w fun e w' => e = .returned (.int .i64 0) ∧ Turned w w' B sb ⟨win, moreL ⟨win, lim, came, read⟩ n, came, read + n⟩ := by
  have c0 := h.four.c0
  have c1 := h.four.c1
  have c2 := h.four.c2
  have c3 := h.four.c3
  have f1 := h.four.f1
  have f2 := h.four.f2
  have f3 := h.four.f3
  obtain ⟨w1, w2, l1, l2, a1, a2, r1, r2⟩ := h.inv
  simp only at c0 c1 c2 c3 w1 w2 l1 l2 a1 a2 r1 r2
  go_enter Tryd.func12, Tryd.ntmps12
  go_wp2_with fail
  go_quiet (fail)
  go_wp2_with fail
  go_quiet (fail)
  go_wp2_with fail
  go_quiet (fail)
  go_wp2_with (go_at_call 17; refine (may_calls (read + n + win) _).mono ?_; rintro e wx ⟨rfl, rfl⟩; rw [hb])
  go_ret
  exact ⟨rfl, (Turned.drewN h _).trans (Turned.got (Turned.drewN h _).1 h0 h2 (by rw [moreL_yes h3]; exact hb) rfl (moreL_yes (s := ⟨win, lim, came, read⟩) h3).symm)⟩

set_option maxRecDepth 100000 in
set_option maxHeartbeats 2000000 in
theorem rget_same {w : World} {B sb : Nat} {win lim came read : Int} (h : Obj w B sb ⟨win, lim, came, read⟩) (n : Int) (h0 : 0 ≤ n) (h2 : n ≤ came - read) (h3 : read + n - (lim - win) ≤ win / 2) (hb : numB lim = true) : Calls Tryd.prog 12 #[.pointer (some ⟨sb, 0, none⟩), .int .i64 n] w fun e w' => e = .returned (.int .i64 0) ∧ Turned w w' B sb ⟨win, moreL ⟨win, lim, came, read⟩ n, came, read + n⟩ := by
  have c0 := h.four.c0
  have c1 := h.four.c1
  have c2 := h.four.c2
  have c3 := h.four.c3
  have f1 := h.four.f1
  have f2 := h.four.f2
  have f3 := h.four.f3
  obtain ⟨w1, w2, l1, l2, a1, a2, r1, r2⟩ := h.inv
  simp only at c0 c1 c2 c3 w1 w2 l1 l2 a1 a2 r1 r2
  go_enter Tryd.func12, Tryd.ntmps12
  go_wp2_with fail
  go_quiet (fail)
  go_wp2_with fail
  go_quiet (fail)
  go_wp2_with (go_at_call 17; refine (may_calls lim _).mono ?_; rintro e wx ⟨rfl, rfl⟩; rw [hb])
  go_ret
  exact ⟨rfl, (Turned.drewN h _).trans (Turned.got (Turned.drewN h _).1 h0 h2 (by rw [moreL_no h3]; exact hb) rfl (moreL_no (s := ⟨win, lim, came, read⟩) h3).symm)⟩

theorem rget_calls {w : World} {B sb : Nat} {s : St} (h : Obj w B sb s) (n : Int) : Calls Tryd.prog 12 #[.pointer (some ⟨sb, 0, none⟩), .int .i64 n] w fun e w' => e = .returned (.int .i64 (getF s n)) ∧ Turned w w' B sb (getS s n) := by
  obtain ⟨win, lim, came, read⟩ := s
  rcases getF_cases ⟨win, lim, came, read⟩ n with ⟨e, h0⟩ | ⟨e, h0, h1⟩ | ⟨e, h0, h1, h2⟩ | ⟨e, h0, h1, h2⟩
  · rw [getS_no (by rw [e]; decide), e]; exact rget_range h n h0
  · rw [getS_no (by rw [e]; decide), e]; exact rget_flow h n h0 h1
  · rw [getS_no (by rw [e]; decide), e]
    by_cases h3 : win / 2 < read + n - (lim - win)
    · rw [moreL_yes h3] at h2
      exact rget_full h n h0 h1 h3 h2
    · exfalso
      rw [moreL_no (by simp only; omega)] at h2
      have h2 : ¬ (0 ≤ lim ∧ lim ≤ 1073741823) := of_decide_eq_false h2
      obtain ⟨w1, w2, l1, l2, _⟩ := h.inv
      simp only at w1 w2 l1 l2
      omega
  · rw [getS_yes e, e]
    by_cases h3 : win / 2 < read + n - (lim - win)
    · rw [moreL_yes h3] at h2
      exact rget_more h n h0 h1 h3 h2
    · rw [moreL_no (by simp only; omega)] at h2
      exact rget_same h n h0 h1 (by omega) h2
end Go.Proofs.YtojhcmnmjdolpaaDoor
