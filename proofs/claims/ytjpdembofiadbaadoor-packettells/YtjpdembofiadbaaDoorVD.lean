/- The contracts of Long and Put at every number; the walk of the law VarintShort. -/
import Derived.Test.YtjpdembofiadbaaDoorVC
namespace Go.Proofs.YtjpdembofiadbaaDoor.V
open Go.RowKit
set_option linter.unusedVariables false
set_option linter.unusedSimpArgs false

def lng (n : Int) : Int := if n < 64 then 1 else if n < 16384 then 2 else 4
theorem lng_mono (n m : Int) (h : n ≤ m) : lng n ≤ lng m := by unfold lng; repeat' split <;> omega
theorem lng_bd (n : Int) : 1 ≤ lng n ∧ lng n ≤ 4 := by unfold lng; repeat' split <;> omega
theorem nums_len (n : Int) : ((strOfNums (nums n)).size : Int) = lng n := by
  rw [strOfNums_size]; unfold nums lng
  by_cases a : n < 64
  · simp [a]
  · by_cases b : n < 16384
    · simp [a, b]
    · simp [a, b]

/-- May a number be? -/
def mayB (n : Int) : Bool := decide (0 ≤ n ∧ n < 1073741824)
theorem mayB_yes {n : Int} (h : mayB n = true) : 0 ≤ n ∧ n < 1073741824 := of_decide_eq_true h
theorem mayB_no {n : Int} (h : mayB n = false) : n < 0 ∨ 1073741824 ≤ n := by
  have : ¬ (0 ≤ n ∧ n < 1073741824) := of_decide_eq_false h
  omega

theorem put_yes (n : Int) (w : World) (hF : Forms w) (h : mayB n = true) :
    Calls Tryd.prog 72 #[.int .i64 n] w fun e w' => e = .returned (.tuple #[.string (strOfNums (nums n)), .nilIface]) ∧ Below w.heap.size w w' := by
  obtain ⟨h0, h1⟩ := mayB_yes h
  by_cases a : n < 64
  · exact put_0 n w hF h0 a
  · by_cases b : n < 16384
    · exact put_1 n w hF (by omega) b
    · exact put_2 n w hF (by omega) h1
theorem put_no (n : Int) (w : World) (hF : Forms w) (h : mayB n = false) :
    Calls Tryd.prog 72 #[.int .i64 n] w fun e w' => e = .returned (.tuple #[.string { data := #[] }, .iface 48 (.int .i64 1)]) ∧ Below w.heap.size w w' := by
  rcases mayB_no h with h | h
  · exact put_neg n w h
  · exact put_big n w hF h

theorem bel3 {w w1 w2 w3 : World} (hb1 : Below w.heap.size w w1) (hb2 : Below w1.heap.size w1 w2) (hb3 : Below w2.heap.size w2 w3) : Below w.heap.size w w3 :=
  (hb1.trans (hb2.mono hb1.size)).trans (hb3.mono (Nat.le_trans hb1.size hb2.size))

end Go.Proofs.YtjpdembofiadbaaDoor.V
