/- What the laws of package run need. -/
import Derived.Test.YtdokgalidhmbbaaGreatDoorHWQ
set_option linter.unusedVariables false
set_option linter.unusedSimpArgs false
set_option maxRecDepth 100000
set_option maxHeartbeats 8000000
namespace Go.Proofs.YtdokgalidhmbbaaGreatDoor
namespace Rn
open Go.RowKit

def reps (k : Nat) (l : List UInt8) : List UInt8 := (List.replicate k l).flatten
theorem reps_succ (k : Nat) (l : List UInt8) : reps (k + 1) l = reps k l ++ l := by
  unfold reps
  rw [List.replicate_succ', List.flatten_append]
  simp
def baseT : List UInt8 := [119, 114, 105, 116, 101, 32, 49, 32, 97, 98, 99, 100, 101, 102, 103, 104, 105, 10, 115, 101, 110, 100, 32, 49, 10]
def twT : List UInt8 := [116, 119, 105, 99, 101, 32, 48, 10]
def cmT : List UInt8 := [99, 111, 109, 101, 32, 48, 10]
def rdT : List UInt8 := [114, 101, 97, 100, 32, 48, 32]
def enT : List UInt8 := [10, 114, 101, 97, 100, 32, 48, 32, 57, 10, 114, 101, 97, 100, 32, 48, 32, 57, 10]
def abcT : List UInt8 := [97, 98, 99, 100, 101, 102, 103, 104, 105]
def sesT (m n : Nat) : List UInt8 := (((baseT ++ reps m twT) ++ reps (m + 1) cmT) ++ rdT ++ digF n) ++ enT
def restT (n : Nat) : List UInt8 := if n = 9 then [45] else abcT.drop n
def outT (m n : Nat) : List (List UInt8) := List.replicate (2 * m + 3) okL ++ [abcT.take n, restT n, [45], []]
set_option maxRecDepth 100000 in
theorem twice_all : ((List.range 11).all fun m => (List.range 9).all fun n => decide (cutF 10 (runL (sesT m (n + 1))) = outT m (n + 1))) = true := by kernel_rfl
theorem twice_is {m n : Nat} (hm : m ≤ 10) (h1 : 1 ≤ n) (h9 : n ≤ 9) : cutF 10 (runL (sesT m n)) = outT m n := by
  have h := List.all_eq_true.1 twice_all m (List.mem_range.2 (by omega))
  have h2 := List.all_eq_true.1 h (n - 1) (List.mem_range.2 (by omega))
  have h3 := of_decide_eq_true h2
  rwa [show n - 1 + 1 = n by omega] at h3
set_option maxRecDepth 100000 in
theorem twice_no : runL twT = [69, 114, 114, 82, 97, 110, 103, 101, 10] := by kernel_rfl
end Rn
end Go.Proofs.YtdokgalidhmbbaaGreatDoor
