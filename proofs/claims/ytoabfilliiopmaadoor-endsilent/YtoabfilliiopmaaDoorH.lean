/- The library's iterator over a slice of numbers two by two: what it hands its loop, for every loop body that leaves its two boxes. -/
import Derived.Test.YtoabfilliiopmaaDoorW
import Derived.RangeFuncBox
import Derived.RangeFuncLeaves
import Derived.RangeFuncNested
import Derived.Shelf.Abstract
import Derived.OwnWalkIn
import Derived.TacticsInMore
import Derived.LoopNIn
import Derived.LoopIn
import Derived.BigRegionIn
import Derived.Sort.QuietIn
namespace Go.Proofs.YtoabfilliiopmaaDoor
open Go.RowKit Go.Shelf
attribute [local go_sem] Oper.semAt_some
set_option linter.unusedVariables false
set_option linter.unusedSimpArgs false

/-- The iterator's two boxes: the slice, and by how many. -/
structure Hdr (b off L cap Bs Bn : Nat) (W : World) : Prop where
  head : W.cell? ⟨Bs, 0, none⟩ = some (.slice (some ⟨b, off, none⟩) L cap)
  two : W.cell? ⟨Bn, 0, none⟩ = some (.int .i64 2)
def KpH (b off L cap Bs Bn : Nat) (W W' : World) : Prop := Hdr b off L cap Bs Bn W → Hdr b off L cap Bs Bn W'
abbrev Ix (m : Nat) := { k : Nat // k < m }
theorem range_snoc (k : Nat) : List.range (k + 1) = List.range k ++ [k] := List.range_succ

set_option maxRecDepth 100000 in
set_option maxHeartbeats 2000000 in
theorem chunk1_in (n : Nat) (hn : 1 ≤ n) (l b off m L cap Bs Bn : Nat) (hL : Hid (L = 2 * m)) (hm : m ≤ 1000) (hcap : L ≤ cap) (J Jx : List (Ix m) → World → Prop)
    (hY : ∀ pre x W, J pre W → pre.length < m → YieldAt Fence.wide (n - 1) Tryd.prog l #[.slice (some ⟨b, off + 2 * x.1, none⟩) 2 2] W fun e W' =>
      (e = .returned (.bool true) ∧ J (pre ++ [x]) W' ∧ KpH b off L cap Bs Bn W W') ∨ (e = .returned (.bool false) ∧ Jx (pre ++ [x]) W'))
    (W : World) (hR : Hdr b off L cap Bs Bn W) (h0 : J [] W) (hJd : ∀ pre W q, J pre W → J pre (W.drewN q)) :
    CallsIn Fence.wide n Tryd.prog 61 #[.func (.yield l) #[] #[], .pointer (some ⟨Bs, 0, none⟩), .pointer (some ⟨Bn, 0, none⟩)] W fun e W' => (∃ v, e = .returned v) ∧
      ((∃ ys, ys.map (fun x => x.1) = List.range m ∧ J ys W') ∨ (∃ pre, True ∧ Jx pre W')) := by
  refine callsIn_of_wp Tryd.func61 rfl trivial ?_ rfl
  simp only [Tryd.ntmps61, List.size_toArray, List.length_cons, List.length_nil, Nat.reduceAdd, Nat.reduceSub, Array.replicate_succ, Array.replicate_zero, List.push_toArray, List.append_toArray, List.nil_append, List.cons_append]
  have hh := hR.head
  have h2 := hR.two
  gi_wp2
  gi_loopw [4] (fun i wr => ∃ k j : Nat, k ≤ m ∧ j = 2 * k ∧ i = .int .i64 (j : Int) ∧ (∃ ys, ys.map (fun x => x.1) = List.range k ∧ J ys wr) ∧ Hdr b off L cap Bs Bn wr)
    (fun i _ => L - (intOf i).toNat)
  case atStart => exact ⟨0, 0, Nat.zero_le _, rfl, rfl, ⟨[], rfl, h0⟩, hR⟩
  case round =>
    obtain ⟨k, j, hk, hj, rfl, ⟨ys, hys, hJs⟩, hRr⟩ := hrel
    have hyl : ys.length = k := by have := congrArg List.length hys; simpa using this
    have hhr := hRr.head
    have h2r := hRr.two
    have HY : Hid (ys.map (fun x => x.1) = List.range k) := hys
    clear hys
    by_cases hlt : k < m
    · have hL' := hL.out
      have g1 : (j : Int) < (L : Int) := by omega
      have gc : ¬ cap = j := by omega
      have gl : j + 2 ≤ L := by omega
      have hjb : j ≤ 2000 := by omega
      have HJ : Hid (j = 2 * k) := hj
      have HE : Hid (∀ W, J ys W → YieldAt Fence.wide (n - 1) Tryd.prog l #[.slice (some ⟨b, off + j, none⟩) 2 2] W fun e W' =>
          (e = .returned (.bool true) ∧ J (ys ++ [⟨k, hlt⟩]) W' ∧ KpH b off L cap Bs Bn W W') ∨ (e = .returned (.bool false) ∧ Jx (ys ++ [⟨k, hlt⟩]) W')) := by
        show ∀ W, _
        intro W hW
        have := hY ys ⟨k, hlt⟩ W hW (by omega)
        rw [← hj] at this
        exact this
      clear hj hL' hY hR h0 hh h2
      gi_wp2
      gi_quiet (fail)
      obtain ⟨fn, tmps, assign, body, hy, hR'⟩ := HE.out (wr.drewN nq) (hJd _ _ nq hJs)
      have hw2 : wrap64 ((j : Int) + 2) = (j : Int) + 2 := by unfold wrap64; omega
      have hw3 : ((j : Int) + 2).toNat - j = 2 := by omega
      have hw4 : ((j : Int) + 2).toNat = j + 2 := by omega
      have g3 : (j : Int) + 2 ≤ (cap : Int) := by omega
      have g4 : ¬ j + 2 = j := by omega
      gi_wp2
      refine hR'.mono ?_
      rintro e W3 (⟨rfl, hJ3, hk3⟩ | ⟨rfl, hJx3⟩)
      · have hH3 : Hdr b off L cap Bs Bn W3 := hk3 ⟨hRr.head, hRr.two⟩
        have h23 := hH3.two
        gi_wp2
        go_roundw
        case rel => exact ⟨k + 1, j + 2, by omega, by have := HJ.out; omega, by simp, ⟨_, by rw [List.map_append, HY.out, range_snoc]; rfl, hJ3⟩, hH3⟩
        case measure => simp [intOf]; omega
      · gi_wp2
        refine bodyPost_ret (results_none rfl _ _ _) rfl ?_
        exact ⟨⟨_, rfl⟩, .inr ⟨_, trivial, hJx3⟩⟩
    · obtain rfl : k = m := by omega
      have g1 : ¬ (j : Int) < (L : Int) := by have := hL.out; omega
      clear hj
      gi_wp2
      go_end0
      exact ⟨⟨_, rfl⟩, .inl ⟨_, HY.out, hJs⟩⟩

set_option maxHeartbeats 1000000 in
theorem chunk_in (n : Nat) (a : Option Addr) (len cap : Nat) (w : World) :
    CallsIn Fence.wide n Tryd.prog 56 #[.slice a len cap, .int .i64 2] w fun e w' => e = .returned (.func (.func 61) #[] #[.pointer (some ⟨w.heap.size, 0, none⟩), .pointer (some ⟨w.heap.size + 1, 0, none⟩)]) ∧ w' = (w.alloc (.cells #[.slice a len cap] 31)).alloc (.cells #[.int .i64 2] 3) := by
  refine callsIn_of_wp Tryd.func56 rfl trivial ?_ rfl
  simp only [Tryd.ntmps56, List.size_toArray, List.length_cons, List.length_nil, Nat.reduceAdd, Nat.reduceSub, Array.replicate_succ, Array.replicate_zero, List.push_toArray, List.append_toArray, List.nil_append, List.cons_append]
  gi_wp2
  go_ret
  exact ⟨rfl, rfl⟩

theorem chunk_stops (n : Nat) (hn : 1 ≤ n) (b off m L cap Bs Bn : Nat) (hL : L = 2 * m) (hm : m ≤ 1000) (hcap : L ≤ cap) (w : World) (hBs : Bs < w.heap.size) (hBn : Bn < w.heap.size) (hR : Hdr b off L cap Bs Bn w) :
    SeqStopsK Fence.wide n Tryd.prog 61 #[.pointer (some ⟨Bs, 0, none⟩), .pointer (some ⟨Bn, 0, none⟩)] (fun x : Ix m => #[.slice (some ⟨b, off + 2 * x.1, none⟩) 2 2]) (KpH b off L cap Bs Bn)
      (fun ys => ys.map (fun x => x.1) = List.range m) (fun _ => True) m w := fun l J Jx W hW hJ _ hY h0 =>
  chunk1_in n hn l b off m L cap Bs Bn hL hm hcap J Jx hY W ⟨(hW.cell (p := ⟨Bs, 0, none⟩) hBs).trans hR.head, (hW.cell (p := ⟨Bn, 0, none⟩) hBn).trans hR.two⟩ h0
    (fun pre W' q h => hJ pre W' (W'.drewN q) none h ⟨rfl, rfl, rfl, Nat.le_refl _, fun _ _ _ => rfl⟩ (fun r e => by cases e))
end Go.Proofs.YtoabfilliiopmaaDoor
