/- The walk of the law CreditFirst. -/
import Derived.Test.YtojhcmnmjdolpaaDoorC
import Derived.Test.YtojhcmnmjdolpaaDoorK
namespace Go.Proofs.YtojhcmnmjdolpaaDoor
open Go.RowKit Go.Lib Go.Sort
set_option linter.unusedVariables false
set_option linter.unusedSimpArgs false

def tookS (n : Int) : St := ⟨n, n, n, 0⟩
def gotS (n : Int) : St := ⟨n, 2 * n, n, n⟩
theorem f_more {n : Int} (h : winB n = true) : takeF (newS n) (n + 1) = 8 := by
  have h : 1 ≤ n ∧ n ≤ 1000 := of_decide_eq_true h
  exact takeF_flow (decide_eq_true ⟨by omega, by omega⟩) (by simp only [newS]; omega)
theorem f_take {n : Int} (h : winB n = true) : takeF (newS n) n = 0 := by
  have h : 1 ≤ n ∧ n ≤ 1000 := of_decide_eq_true h
  exact takeF_yes (decide_eq_true ⟨by omega, by omega⟩) (by simp only [newS]; omega)
theorem f_took {n : Int} (h : winB n = true) : takeS (newS n) n = tookS n := by
  rw [takeS_yes (f_take h)]
  have h : 1 ≤ n ∧ n ≤ 1000 := of_decide_eq_true h
  have e : (0 : Int) < n := by omega
  simp only [upS, newS, tookS, e, if_true]
theorem f_lim {n : Int} (h : winB n = true) : moreL (tookS n) n = 2 * n := by
  have h : 1 ≤ n ∧ n ≤ 1000 := of_decide_eq_true h
  rw [moreL_yes (by simp only [tookS]; omega)]
  simp only [tookS]; omega
theorem f_get {n : Int} (h : winB n = true) : getF (tookS n) n = 0 := by
  have e := f_lim h
  have h : 1 ≤ n ∧ n ≤ 1000 := of_decide_eq_true h
  exact getF_yes (by omega) (by simp only [tookS]; omega) (by rw [e]; exact decide_eq_true ⟨by omega, by omega⟩)
theorem f_got {n : Int} (h : winB n = true) : getS (tookS n) n = gotS n := by
  rw [getS_yes (f_get h), f_lim h]
  simp only [tookS, gotS, Int.zero_add]
theorem more_one {w wr : World} {sb : Nat} {n : Int} (hb : winB n = true) (h : One w wr sb (newS n)) : Calls Tryd.prog 6 #[.pointer (some ⟨sb, 0, none⟩), .int .i64 (n + 1)] wr fun e w' => e = .returned (.iface 41 (.int .i64 8)) ∧ One w w' sb (newS n) := by
  have := take_one h (n + 1)
  rw [takeS_no (by rw [f_more hb]; decide), f_more hb, errV_f (by decide)] at this
  exact this
theorem took_one {w wr : World} {sb : Nat} {n : Int} (hb : winB n = true) (h : One w wr sb (newS n)) : Calls Tryd.prog 6 #[.pointer (some ⟨sb, 0, none⟩), .int .i64 n] wr fun e w' => e = .returned .nilIface ∧ One w w' sb (tookS n) := by
  have := take_one h n
  rw [f_took hb, f_take hb, errV_0] at this
  exact this
theorem got_one {w wr : World} {sb : Nat} {n : Int} (hb : winB n = true) (h : One w wr sb (tookS n)) : Calls Tryd.prog 7 #[.pointer (some ⟨sb, 0, none⟩), .int .i64 n] wr fun e w' => e = .returned (.tuple #[.int .i64 (2 * n), .nilIface]) ∧ One w w' sb (gotS n) := by
  have := read_one h n
  rw [f_got hb, getN_yes (f_get hb), f_lim hb, f_get hb, errV_0] at this
  exact this
theorem lim_one {w wr : World} {sb : Nat} {n : Int} (h : One w wr sb (gotS n)) : Calls Tryd.prog 9 #[.pointer (some ⟨sb, 0, none⟩)] wr fun e w' => e = .returned (.int .i64 (2 * n)) ∧ One w w' sb (gotS n) := limit_one h
theorem rest_one {w wr : World} {sb : Nat} {n : Int} (h : One w wr sb (gotS n)) : Calls Tryd.prog 10 #[.pointer (some ⟨sb, 0, none⟩)] wr fun e w' => e = .returned (.int .i64 0) ∧ One w w' sb (gotS n) := by
  have := left_one h
  rw [show (gotS n).came - (gotS n).read = 0 by simp only [gotS]; omega] at this
  exact this

set_option maxRecDepth 100000 in
set_option maxHeartbeats 2000000 in
theorem first_lo (n : Int) (w : World) (c : n < 1) (hb : winB n = false) : Calls Tryd.prog 3 #[.int .i64 n] w fun e w' => e = .returned (.bool true) ∧ Below w.heap.size w w' := by
  go_enter Tryd.func3, Tryd.ntmps3
  go_wp2_with (go_at_call 5; refine (new_no n _ hb).mono ?_; rintro e w1 ⟨rfl, rfl⟩)
  go_ret
  exact ⟨by simp, Below.refl _ _⟩

set_option maxRecDepth 100000 in
set_option maxHeartbeats 2000000 in
theorem first_hi (n : Int) (w : World) (c : 1000 < n) (hb : winB n = false) : Calls Tryd.prog 3 #[.int .i64 n] w fun e w' => e = .returned (.bool true) ∧ Below w.heap.size w w' := by
  go_enter Tryd.func3, Tryd.ntmps3
  go_wp2_with (go_at_call 5; refine (new_no n _ hb).mono ?_; rintro e w1 ⟨rfl, rfl⟩)
  go_ret
  exact ⟨by simp, Below.refl _ _⟩

set_option maxRecDepth 100000 in
set_option maxHeartbeats 2000000 in
theorem first_yes (n : Int) (w : World) (hH : Handle w) (hb : winB n = true) : Calls Tryd.prog 3 #[.int .i64 n] w fun e w' => e = .returned (.bool true) ∧ Below w.heap.size w w' := by
  obtain ⟨n1, n2⟩ : 1 ≤ n ∧ n ≤ 1000 := of_decide_eq_true hb
  go_enter Tryd.func3, Tryd.ntmps3
  go_wp2_with fail
  refine (new_one (Below.refl w.heap.size w) hb).mono ?_
  rintro e w1 ⟨sb, rfl, h1⟩
  go_wp2_with fail
  refine (more_one hb h1).mono ?_
  rintro e w2 ⟨rfl, h2⟩
  clear h1
  go_wp2_with fail
  refine (took_one hb h2).mono ?_
  rintro e w3 ⟨rfl, h3⟩
  clear h2
  go_wp2_with fail
  refine (got_one hb h3).mono ?_
  rintro e w4 ⟨rfl, h4⟩
  clear h3
  go_wp2_with fail
  refine (same_err 8 8 _ (hH.below h4.bel)).mono ?_
  rintro e w5 ⟨rfl, hb5⟩
  have h5 := h4.below hb5
  clear h4 hb5
  go_wp2_with (first | (go_at_call 9; refine (lim_one h5).mono ?_; rintro e w6 ⟨rfl, h6⟩) | (go_at_call 10; refine (rest_one h6).mono ?_; rintro e w7 ⟨rfl, h7⟩))
  go_ret
  exact ⟨by simp, h7.bel⟩
theorem first_walk (n : Int) (w : World) (hH : Handle w) : Calls Tryd.prog 3 #[.int .i64 n] w fun e w' => e = .returned (.bool true) ∧ Below w.heap.size w w' := by
  cases hb : winB n with
  | true => exact first_yes n w hH hb
  | false =>
    by_cases h : n < 1
    · exact first_lo n w h hb
    · exact first_hi n w (by have := of_decide_eq_false hb; omega) hb
end Go.Proofs.YtojhcmnmjdolpaaDoor
