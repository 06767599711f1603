/- The walk of the law PathKnown. -/
import Derived.Test.YtjjfeffmmkoooaaDoorC
import Derived.Test.YtjjfeffmmkoooaaDoorK
namespace Go.Proofs.YtjjfeffmmkoooaaDoor
open Go.RowKit Go.Lib Go.Sort
set_option linter.unusedVariables false
set_option linter.unusedSimpArgs false

theorem came_zero_no (n : Int) (w : World) (hn : pkB n = false) : Calls Tryd.prog 10 #[path 0 0 false, .int .i64 n] w fun e w' => e = .returned (.tuple #[path 0 0 false, .iface 41 (.int .i64 1)]) ∧ Below w.heap.size w w' := came_n 0 0 false n w rfl hn
theorem came_zero (n : Int) (w : World) (hn : pkB n = true) : Calls Tryd.prog 10 #[path 0 0 false, .int .i64 n] w fun e w' => e = .returned (.tuple #[path n 0 false, .nilIface]) ∧ Below w.heap.size w w' := by
  have h := pkB_yes hn
  have hs : byB (0 + n) = true := decide_eq_true (by omega)
  have := came_ok 0 0 false n w rfl hn hs
  rw [Int.zero_add] at this
  exact this
theorem flt_known {n : Int} (h0 : 0 ≤ n) (h1 : n ≤ 200) (k : Bool) : flt n 0 k = 0 := by
  have hb := byB_yes (n := n)
  have e1 : byB n = true := decide_eq_true (by omega)
  have e2 : byB 0 = true := rfl
  have e3 : ¬ bnd n k < 0 := by
    cases k
    · show ¬ (if 3 * n < 1073741823 then 3 * n else 1073741823) < 0; split <;> omega
    · show ¬ ((1073741823 : Int) < 0); omega
  simp [flt, e1, e2, e3]
theorem room_known (n : Int) (w : World) (h0 : 0 ≤ n) (h1 : n ≤ 200) : Calls Tryd.prog 13 #[path n 0 true] w fun e w' => e = .returned (.tuple #[.int .i64 200, .nilIface]) ∧ Below w.heap.size w w' :=
  room_more n 0 true w (flt_known h0 h1 true) (show (200 : Int) ≤ 1073741823 - 0 by omega)
theorem send_known (n m : Int) (w : World) (h0 : 0 ≤ n) (h1 : n ≤ 200) (hm : pkB m = true) : Calls Tryd.prog 12 #[path n 0 true, .int .i64 m] w fun e w' => e = .returned (.tuple #[path n m true, .nilIface]) ∧ Below w.heap.size w w' := by
  have h := pkB_yes hm
  have hs : byB (0 + m) = true := decide_eq_true (by omega)
  have := send_ok n 0 true m w (flt_known h0 h1 true) hm hs (show 0 + m ≤ 1073741823 by omega)
  rw [Int.zero_add] at this
  exact this

set_option maxRecDepth 100000 in
set_option maxHeartbeats 2000000 in
theorem known_no1 (n m : Int) (w : World) (hn : pkB n = false) (c : n < 0) :
    Calls Tryd.prog 5 #[.int .i64 n, .int .i64 m] w fun e w' => e = .returned (.bool true) ∧ Below w.heap.size w w' := by
  go_enter Tryd.func5, Tryd.ntmps5
  go_wp2_with fail
  refine (came_zero_no n _ hn).mono ?_
  rintro e w1 ⟨rfl, hb1⟩
  go_wp2_with fail
  go_ret
  exact ⟨by simp <;> omega, hb1.alloc hb1.size _⟩
set_option maxRecDepth 100000 in
set_option maxHeartbeats 2000000 in
theorem known_no2 (n m : Int) (w : World) (hn : pkB n = false) (c : 200 < n) :
    Calls Tryd.prog 5 #[.int .i64 n, .int .i64 m] w fun e w' => e = .returned (.bool true) ∧ Below w.heap.size w w' := by
  go_enter Tryd.func5, Tryd.ntmps5
  go_wp2_with fail
  refine (came_zero_no n _ hn).mono ?_
  rintro e w1 ⟨rfl, hb1⟩
  go_wp2_with fail
  go_ret
  exact ⟨by simp <;> omega, hb1.alloc hb1.size _⟩
set_option maxRecDepth 100000 in
set_option maxHeartbeats 2000000 in
theorem known_zero (m : Int) (w : World) (hH : Handle w) :
    Calls Tryd.prog 5 #[.int .i64 0, .int .i64 m] w fun e w' => e = .returned (.bool true) ∧ Below w.heap.size w w' := by
  go_enter Tryd.func5, Tryd.ntmps5
  go_wp2_with fail
  refine (came_zero 0 _ rfl).mono ?_
  rintro e w1 ⟨rfl, hb1⟩
  go_wp2_with fail
  have hB1 := hb1.alloc hb1.size (.cells #[.int .i64 0, .int .i64 0, .bool false] 23)
  refine (prove_0 0 false _ rfl).mono ?_
  rintro e w2 ⟨rfl, hb2⟩
  have hB2 := hB1.trans (hb2.mono hB1.size)
  go_wp2_with fail
  have hB3 := hB2.alloc hB2.size (.cells #[.int .i64 0, .int .i64 0, .bool false] 23)
  refine (same_err 5 5 _ (hH.below hB3)).mono ?_
  rintro e w3 ⟨rfl, hb3⟩
  go_wp2_with fail
  go_ret
  exact ⟨by simp, hB3.trans (hb3.mono hB3.size)⟩
set_option maxRecDepth 100000 in
set_option maxHeartbeats 2000000 in
theorem known_in (n m : Int) (w : World) (hn : pkB n = true) (hz : n ≠ 0) (hm : pkB m = true) (m0 : 0 ≤ m) (m1 : m ≤ 200) :
    Calls Tryd.prog 5 #[.int .i64 n, .int .i64 m] w fun e w' => e = .returned (.bool true) ∧ Below w.heap.size w w' := by
  obtain ⟨n0, n1⟩ := pkB_yes hn
  go_enter Tryd.func5, Tryd.ntmps5
  go_wp2_with fail
  refine (came_zero n _ hn).mono ?_
  rintro e w1 ⟨rfl, hb1⟩
  go_wp2_with fail
  have hB1 := hb1.alloc hb1.size (.cells #[.int .i64 n, .int .i64 0, .bool false] 23)
  refine (prove_ok n 0 false _ (flt_known n0 n1 false) hz).mono ?_
  rintro e w2 ⟨rfl, hb2⟩
  have hB2 := hB1.trans (hb2.mono hB1.size)
  go_wp2_with fail
  have hB3 := hB2.alloc hB2.size (.cells #[.int .i64 n, .int .i64 0, .bool true] 23)
  have hX := Box.new w2 n 0 true
  refine (room_known n _ n0 n1).mono ?_
  rintro e w3 ⟨rfl, hb3⟩
  have hX := hX.below hb3
  have hB4 := hB3.trans (hb3.mono hB3.size)
  obtain ⟨pl, p0, p1, p2, pf0, pf1, pf2⟩ := hX
  go_wp2_with fail
  refine (send_known n m _ n0 n1 hm).mono ?_
  rintro e w4 ⟨rfl, hb4⟩
  have hB5 := hB4.trans (hb4.mono hB4.size)
  go_wp2_with fail
  go_ret
  exact ⟨by simp <;> omega, hB5.alloc hB5.size _⟩
set_option maxRecDepth 100000 in
set_option maxHeartbeats 2000000 in
theorem known_lo (n m : Int) (w : World) (hn : pkB n = true) (hz : n ≠ 0) (hm : pkB m = false) (m0 : m < 0) :
    Calls Tryd.prog 5 #[.int .i64 n, .int .i64 m] w fun e w' => e = .returned (.bool true) ∧ Below w.heap.size w w' := by
  obtain ⟨n0, n1⟩ := pkB_yes hn
  go_enter Tryd.func5, Tryd.ntmps5
  go_wp2_with fail
  refine (came_zero n _ hn).mono ?_
  rintro e w1 ⟨rfl, hb1⟩
  go_wp2_with fail
  have hB1 := hb1.alloc hb1.size (.cells #[.int .i64 n, .int .i64 0, .bool false] 23)
  refine (prove_ok n 0 false _ (flt_known n0 n1 false) hz).mono ?_
  rintro e w2 ⟨rfl, hb2⟩
  have hB2 := hB1.trans (hb2.mono hB1.size)
  go_wp2_with fail
  have hB3 := hB2.alloc hB2.size (.cells #[.int .i64 n, .int .i64 0, .bool true] 23)
  have hX := Box.new w2 n 0 true
  refine (room_known n _ n0 n1).mono ?_
  rintro e w3 ⟨rfl, hb3⟩
  have hX := hX.below hb3
  have hB4 := hB3.trans (hb3.mono hB3.size)
  obtain ⟨pl, p0, p1, p2, pf0, pf1, pf2⟩ := hX
  go_wp2_with fail
  refine (send_n n 0 true m _ (flt_known n0 n1 true) hm).mono ?_
  rintro e w4 ⟨rfl, hb4⟩
  have hB5 := hB4.trans (hb4.mono hB4.size)
  go_wp2_with fail
  go_ret
  exact ⟨by simp <;> omega, hB5.alloc hB5.size _⟩
set_option maxRecDepth 100000 in
set_option maxHeartbeats 2000000 in
theorem known_hi (n m : Int) (w : World) (hn : pkB n = true) (hz : n ≠ 0) (hm : pkB m = false) (m0 : 200 < m) :
    Calls Tryd.prog 5 #[.int .i64 n, .int .i64 m] w fun e w' => e = .returned (.bool true) ∧ Below w.heap.size w w' := by
  obtain ⟨n0, n1⟩ := pkB_yes hn
  go_enter Tryd.func5, Tryd.ntmps5
  go_wp2_with fail
  refine (came_zero n _ hn).mono ?_
  rintro e w1 ⟨rfl, hb1⟩
  go_wp2_with fail
  have hB1 := hb1.alloc hb1.size (.cells #[.int .i64 n, .int .i64 0, .bool false] 23)
  refine (prove_ok n 0 false _ (flt_known n0 n1 false) hz).mono ?_
  rintro e w2 ⟨rfl, hb2⟩
  have hB2 := hB1.trans (hb2.mono hB1.size)
  go_wp2_with fail
  have hB3 := hB2.alloc hB2.size (.cells #[.int .i64 n, .int .i64 0, .bool true] 23)
  have hX := Box.new w2 n 0 true
  refine (room_known n _ n0 n1).mono ?_
  rintro e w3 ⟨rfl, hb3⟩
  have hX := hX.below hb3
  have hB4 := hB3.trans (hb3.mono hB3.size)
  obtain ⟨pl, p0, p1, p2, pf0, pf1, pf2⟩ := hX
  go_wp2_with fail
  refine (send_n n 0 true m _ (flt_known n0 n1 true) hm).mono ?_
  rintro e w4 ⟨rfl, hb4⟩
  have hB5 := hB4.trans (hb4.mono hB4.size)
  go_wp2_with fail
  go_ret
  exact ⟨by simp <;> omega, hB5.alloc hB5.size _⟩
theorem known_walk (n m : Int) (w : World) (hH : Handle w) : Calls Tryd.prog 5 #[.int .i64 n, .int .i64 m] w fun e w' => e = .returned (.bool true) ∧ Below w.heap.size w w' := by
  cases hn : pkB n with
  | false => rcases pkB_no hn with c | c
             · exact known_no1 n m w hn c
             · exact known_no2 n m w hn c
  | true =>
    by_cases hz : n = 0
    · subst hz; exact known_zero m w hH
    · cases hm : pkB m with
      | true => exact known_in n m w hn hz hm (pkB_yes hm).1 (pkB_yes hm).2
      | false => rcases pkB_no hm with c | c
                 · exact known_lo n m w hn hz hm c
                 · exact known_hi n m w hn hz hm c
end Go.Proofs.YtjjfeffmmkoooaaDoor
