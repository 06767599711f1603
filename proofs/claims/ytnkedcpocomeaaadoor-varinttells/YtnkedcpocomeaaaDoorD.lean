/- The contracts of Long and Put at every number; the walk of the law VarintShort. -/
import Derived.Test.YtnkedcpocomeaaaDoorC
namespace Go.Proofs.YtnkedcpocomeaaaDoor
open Go.RowKit

def lng (n : Int) : Int := if n < 64 then 1 else if n < 16384 then 2 else 4
theorem lng_mono (n m : Int) (h : n ≤ m) : lng n ≤ lng m := by unfold lng; repeat' split <;> omega
theorem lng_bd (n : Int) : 1 ≤ lng n ∧ lng n ≤ 4 := by unfold lng; repeat' split <;> omega
theorem nums_len (n : Int) : ((strOfNums (nums n)).size : Int) = lng n := by
  rw [strOfNums_size]; unfold nums lng
  by_cases a : n < 64
  · simp [a]
  · by_cases b : n < 16384
    · simp [a, b]
    · simp [a, b]

/-- May a number be? -/
def mayB (n : Int) : Bool := decide (0 ≤ n ∧ n < 1073741824)
theorem mayB_yes {n : Int} (h : mayB n = true) : 0 ≤ n ∧ n < 1073741824 := of_decide_eq_true h
theorem mayB_no {n : Int} (h : mayB n = false) : n < 0 ∨ 1073741824 ≤ n := by
  have : ¬ (0 ≤ n ∧ n < 1073741824) := of_decide_eq_false h
  omega

theorem long_yes (n : Int) (w : World) (hF : Forms w) (h : mayB n = true) :
    Calls Tryd.prog 11 #[.int .i64 n] w fun e w' => e = .returned (.tuple #[.int .i64 (lng n), .nilIface]) ∧ Below w.heap.size w w' := by
  obtain ⟨h0, h1⟩ := mayB_yes h
  by_cases a : n < 64
  · have e : lng n = 1 := by simp [lng, a]
    rw [e]; exact long_0 n w hF h0 a
  · by_cases b : n < 16384
    · have e : lng n = 2 := by simp [lng, a, b]
      rw [e]; exact long_1 n w hF (by omega) b
    · have e : lng n = 4 := by simp [lng, a, b]
      rw [e]; exact long_2 n w hF (by omega) h1
theorem long_no (n : Int) (w : World) (hF : Forms w) (h : mayB n = false) :
    Calls Tryd.prog 11 #[.int .i64 n] w fun e w' => e = .returned (.tuple #[.int .i64 0, .iface 49 (.int .i64 1)]) ∧ Below w.heap.size w w' := by
  rcases mayB_no h with h | h
  · exact long_neg n w hF h
  · exact long_big n w hF h
theorem put_yes (n : Int) (w : World) (hF : Forms w) (h : mayB n = true) :
    Calls Tryd.prog 9 #[.int .i64 n] w fun e w' => e = .returned (.tuple #[.string (strOfNums (nums n)), .nilIface]) ∧ Below w.heap.size w w' := by
  obtain ⟨h0, h1⟩ := mayB_yes h
  by_cases a : n < 64
  · exact put_0 n w hF h0 a
  · by_cases b : n < 16384
    · exact put_1 n w hF (by omega) b
    · exact put_2 n w hF (by omega) h1
theorem put_no (n : Int) (w : World) (hF : Forms w) (h : mayB n = false) :
    Calls Tryd.prog 9 #[.int .i64 n] w fun e w' => e = .returned (.tuple #[.string { data := #[] }, .iface 49 (.int .i64 1)]) ∧ Below w.heap.size w w' := by
  rcases mayB_no h with h | h
  · exact put_neg n w h
  · exact put_big n w hF h

theorem long_any (n : Int) (w : World) (hF : Forms w) :
    Calls Tryd.prog 11 #[.int .i64 n] w fun e w' => ∃ (f : Int) (er : Value), e = .returned (.tuple #[.int .i64 f, er]) ∧ Below w.heap.size w w' := by
  cases h : mayB n with
  | true => exact (long_yes n w hF h).mono fun e w' ⟨he, hb⟩ => ⟨_, _, he, hb⟩
  | false => exact (long_no n w hF h).mono fun e w' ⟨he, hb⟩ => ⟨_, _, he, hb⟩

theorem bel3 {w w1 w2 w3 : World} (hb1 : Below w.heap.size w w1) (hb2 : Below w1.heap.size w1 w2) (hb3 : Below w2.heap.size w2 w3) : Below w.heap.size w w3 :=
  (hb1.trans (hb2.mono hb1.size)).trans (hb3.mono (Nat.le_trans hb1.size hb2.size))

set_option maxRecDepth 100000 in
set_option maxHeartbeats 2000000 in
theorem short_no (n m : Int) (w : World) (hF : Forms w) (h : mayB n = false) :
    Calls Tryd.prog 5 #[.int .i64 n, .int .i64 m] w fun e w' => e = .returned (.bool true) ∧ Below w.heap.size w w' := by
  rcases mayB_no h with h0 | h0
  all_goals
    go_enter Tryd.func5, Tryd.ntmps5
    go_wp2_with fail
    refine (long_yes 64 _ hF rfl).mono ?_
    rintro e w1 ⟨rfl, hb1⟩
    rw [show lng 64 = 2 from rfl]
    have hF1 := hF.below hb1
    go_wp2_with fail
    refine (long_no n _ hF1 h).mono ?_
    rintro e w2 ⟨rfl, hb2⟩
    have hF2 := hF1.below hb2
    go_wp2_with fail
    refine (long_any m _ hF2).mono ?_
    rintro e w3 ⟨f, er, rfl, hb3⟩
    have hB := bel3 hb1 hb2 hb3
    go_wp2_with fail
    go_ret
    first | exact ⟨rfl, hB⟩ | exact ⟨congrArg (fun b => Ending.returned (.bool b)) (by simp; omega), hB⟩

set_option maxRecDepth 100000 in
set_option maxHeartbeats 2000000 in
theorem short_half (n m : Int) (w : World) (hF : Forms w) (h : mayB n = true) (hm : mayB m = false) :
    Calls Tryd.prog 5 #[.int .i64 n, .int .i64 m] w fun e w' => e = .returned (.bool true) ∧ Below w.heap.size w w' := by
  go_enter Tryd.func5, Tryd.ntmps5
  go_wp2_with fail
  refine (long_yes 64 _ hF rfl).mono ?_
  rintro e w1 ⟨rfl, hb1⟩
  rw [show lng 64 = 2 from rfl]
  have hF1 := hF.below hb1
  go_wp2_with fail
  refine (long_yes n _ hF1 h).mono ?_
  rintro e w2 ⟨rfl, hb2⟩
  have hF2 := hF1.below hb2
  go_wp2_with fail
  refine (long_no m _ hF2 hm).mono ?_
  rintro e w3 ⟨rfl, hb3⟩
  have hB := bel3 hb1 hb2 hb3
  go_wp2_with fail
  go_ret
  exact ⟨rfl, hB⟩

set_option maxRecDepth 100000 in
set_option maxHeartbeats 2000000 in
theorem short_yes (n m : Int) (w : World) (hF : Forms w) (h : mayB n = true) (hm : mayB m = true) :
    Calls Tryd.prog 5 #[.int .i64 n, .int .i64 m] w fun e w' => e = .returned (.bool true) ∧ Below w.heap.size w w' := by
  have hn := nums_len n
  by_cases hlt : n < m
  · have hle := lng_mono n m (by omega)
    go_enter Tryd.func5, Tryd.ntmps5
    go_wp2_with fail
    refine (long_yes 64 _ hF rfl).mono ?_
    rintro e w1 ⟨rfl, hb1⟩
    rw [show lng 64 = 2 from rfl]
    have hF1 := hF.below hb1
    go_wp2_with fail
    refine (long_yes n _ hF1 h).mono ?_
    rintro e w2 ⟨rfl, hb2⟩
    have hF2 := hF1.below hb2
    go_wp2_with fail
    refine (long_yes m _ hF2 hm).mono ?_
    rintro e w3 ⟨rfl, hb3⟩
    have hF3 := hF2.below hb3
    go_wp2_with fail
    refine (put_yes n _ hF3 h).mono ?_
    rintro e w4 ⟨rfl, hb4⟩
    have hB := (bel3 hb1 hb2 hb3).trans (hb4.mono (bel3 hb1 hb2 hb3).size)
    have ht : ((((strOfNums (nums n)).size : Nat) : Int) == lng n) = true := by rw [hn]; simp
    clear hn
    generalize lng n = a at *
    generalize lng m = b at *
    go_wp2_with fail
    go_ret
    exact ⟨rfl, hB⟩
  · have hle := lng_mono m n (by omega)
    go_enter Tryd.func5, Tryd.ntmps5
    go_wp2_with fail
    refine (long_yes 64 _ hF rfl).mono ?_
    rintro e w1 ⟨rfl, hb1⟩
    rw [show lng 64 = 2 from rfl]
    have hF1 := hF.below hb1
    go_wp2_with fail
    refine (long_yes n _ hF1 h).mono ?_
    rintro e w2 ⟨rfl, hb2⟩
    have hF2 := hF1.below hb2
    go_wp2_with fail
    refine (long_yes m _ hF2 hm).mono ?_
    rintro e w3 ⟨rfl, hb3⟩
    have hF3 := hF2.below hb3
    go_wp2_with fail
    refine (put_yes n _ hF3 h).mono ?_
    rintro e w4 ⟨rfl, hb4⟩
    have hB := (bel3 hb1 hb2 hb3).trans (hb4.mono (bel3 hb1 hb2 hb3).size)
    have ht : ((((strOfNums (nums n)).size : Nat) : Int) == lng n) = true := by rw [hn]; simp
    clear hn
    generalize lng n = a at *
    generalize lng m = b at *
    go_wp2_with fail
    go_ret
    exact ⟨rfl, hB⟩

theorem short_calls (n m : Int) (w : World) (hF : Forms w) :
    Calls Tryd.prog 5 #[.int .i64 n, .int .i64 m] w fun e w' => e = .returned (.bool true) ∧ Below w.heap.size w w' := by
  cases h : mayB n with
  | false => exact short_no n m w hF h
  | true =>
    cases hm : mayB m with
    | false => exact short_half n m w hF h hm
    | true => exact short_yes n m w hF h hm

end Go.Proofs.YtnkedcpocomeaaaDoor
