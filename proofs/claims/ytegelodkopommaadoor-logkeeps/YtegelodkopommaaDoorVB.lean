/- The library's iterator over a slice from its end: what it hands its loop, for every loop body that leaves the slice's header and its bytes bytes. -/
import Derived.Test.YtegelodkopommaaDoorChecked
import Derived.RangeFuncBox
import Derived.RangeFuncLeaves
import Derived.Shelf.Abstract
import Derived.WalkKit
import Derived.WalkSpells
import Derived.OwnWalkIn
import Derived.TacticsInMore
import Derived.LoopNIn
import Derived.LoopIn
import Derived.Outline
import Derived.KernelRfl
namespace Go.Proofs.YtegelodkopommaaDoor.V
open Go.RowKit Go.Shelf
set_option linter.unusedVariables false
attribute [local go_sem] Oper.semAt_some

def downto (len k : Nat) : List Nat := (List.range k).map fun t => len - 1 - t
theorem downto_succ (len k : Nat) : downto len (k + 1) = downto len k ++ [len - 1 - k] := by simp [downto, List.range_succ]
theorem downto_length (len k : Nat) : (downto len k).length = k := by simp [downto]

/-- Cell j of the row at block b is a byte, for every j below len; Bs holds its header. -/
structure Row (len cap Bs b : Nat) (W : World) : Prop where
  head : W.cell? ⟨Bs, 0, none⟩ = some (.slice (some ⟨b, 0, none⟩) len cap)
  byte : ∀ j, j < len → ∃ v, W.cell? ⟨b, j, none⟩ = some (.int .u8 v)

def KpRow (len cap Bs b : Nat) (W W' : World) : Prop := Row len cap Bs b W → Row len cap Bs b W'

set_option maxRecDepth 100000 in
set_option maxHeartbeats 2000000 in
theorem back1_in (F : Fence) (n : Nat) (h18 : F.fn 41) (hro : F.round = none) (hn : 1 ≤ n) (l Bs b len cap : Nat) (hlen : len ≤ 1000) (J Jx : List { p : Nat × Int // p.1 < len } → World → Prop)
    (hY : ∀ pre x W, J pre W → pre.length < len → YieldAt F (n - 1) Tryd.prog l #[.int .i64 (x.1.1 : Int), .int .u8 x.1.2] W fun e W' =>
      (e = .returned (.bool true) ∧ J (pre ++ [x]) W' ∧ KpRow len cap Bs b W W') ∨ (e = .returned (.bool false) ∧ Jx (pre ++ [x]) W'))
    (W : World) (hR : Row len cap Bs b W) (h0 : J [] W) :
    CallsIn F n Tryd.prog 41 #[.func (.yield l) #[] #[], .pointer (some ⟨Bs, 0, none⟩)] W fun e W' => (∃ v, e = .returned v) ∧
      ((∃ ys, ys.map (fun x => x.1.1) = downto len len ∧ J ys W') ∨ (∃ pre, True ∧ Jx pre W')) := by
  refine callsIn_of_wp Tryd.func41 rfl h18 ?_ hro
  simp only [Tryd.ntmps41, List.size_toArray, List.length_cons, List.length_nil, Nat.reduceAdd, Nat.reduceSub, Array.replicate_succ, Array.replicate_zero, List.push_toArray, List.append_toArray, List.nil_append, List.cons_append]
  have hh := hR.head
  gi_wp2
  gi_loopw [3] (fun i wr => ∃ k : Nat, k ≤ len ∧ i = .int .i64 ((len : Int) - 1 - k) ∧ (∃ ys, ys.map (fun x => x.1.1) = downto len k ∧ J ys wr) ∧ Row len cap Bs b wr)
    (fun i _ => (intOf i + 1).toNat)
  case atStart => exact ⟨0, Nat.zero_le _, by simp, ⟨[], rfl, h0⟩, hR⟩
  case round =>
    obtain ⟨k, hk, rfl, ⟨ys, hys, hJs⟩, hRr⟩ := hrel
    have hyl : ys.length = k := by have := congrArg List.length hys; simpa [downto_length] using this
    by_cases hlt : k < len
    · obtain ⟨v, hv⟩ := hRr.byte (len - 1 - k) (by omega)
      have hhr := hRr.head
      obtain ⟨fn, tmps, assign, body, hy, hR'⟩ := hY ys ⟨(len - 1 - k, v), by show len - 1 - k < len; omega⟩ wr hJs (by omega)
      dsimp only at hy
      have e1 : ((len - 1 - k : Nat) : Int) = (len : Int) - 1 - k := by omega
      have e2 : ((len : Int) - 1 - k).toNat = len - 1 - k := by omega
      rw [e1] at hy
      have HY : Hid (ys.map (fun x => x.1.1) = downto len k) := hys
      clear hys
      have g1 : (0 : Int) ≤ (len : Int) - 1 - k := by omega
      have g2 : (len : Int) - 1 - k < (len : Int) := by omega
      gi_wp2
      refine hR'.mono ?_
      rintro e W3 (⟨rfl, hJ3, hk3⟩ | ⟨rfl, hJx3⟩)
      · gi_wp2
        go_roundw
        case rel => exact ⟨k + 1, by omega, by simp; omega, ⟨_, by rw [List.map_append, HY.out, downto_succ]; rfl, hJ3⟩, hk3 hRr⟩
        case measure => simp [intOf]; omega
      · gi_wp2
        refine bodyPost_ret (results_none rfl _ _ _) rfl ?_
        exact ⟨⟨_, rfl⟩, .inr ⟨_, trivial, hJx3⟩⟩
    · obtain rfl : k = len := by omega
      have HY : Hid (ys.map (fun x => x.1.1) = downto k k) := hys
      clear hys
      gi_wp2
      go_end0
      exact ⟨⟨_, rfl⟩, .inl ⟨_, HY.out, hJs⟩⟩

set_option maxHeartbeats 1000000 in
theorem back_in (F : Fence) (n : Nat) (h16 : F.fn 30) (hro : F.round = none) (a : Option Addr) (len cap : Nat) (w : World) :
    CallsIn F n Tryd.prog 30 #[.slice a len cap] w fun e w' => e = .returned (.func (.func 41) #[] #[.pointer (some ⟨w.heap.size, 0, none⟩)]) ∧ w' = w.alloc (.cells #[.slice a len cap] 44) := by
  refine callsIn_of_wp Tryd.func30 rfl h16 ?_ hro
  simp only [Tryd.ntmps30, List.size_toArray, List.length_cons, List.length_nil, Nat.reduceAdd, Nat.reduceSub, Array.replicate_succ, Array.replicate_zero, List.push_toArray, List.append_toArray, List.nil_append, List.cons_append]
  gi_wp2
  go_ret
  exact ⟨rfl, rfl⟩

theorem back_stops (F : Fence) (n : Nat) (h18 : F.fn 41) (hro : F.round = none) (hn : 1 ≤ n) (Bs b len cap : Nat) (hlen : len ≤ 1000) (w : World) (hBs : Bs < w.heap.size) (hb : b < w.heap.size) (hR : Row len cap Bs b w) :
    SeqStopsK F n Tryd.prog 41 #[.pointer (some ⟨Bs, 0, none⟩)] (fun x : { p : Nat × Int // p.1 < len } => #[Value.int .i64 (x.1.1 : Int), Value.int .u8 x.1.2]) (KpRow len cap Bs b)
      (fun ys => ys.map (fun x => x.1.1) = downto len len) (fun _ => True) len w := fun l J Jx W hW _ _ hY h0 =>
  back1_in F n h18 hro hn l Bs b len cap hlen J Jx hY W
    ⟨(hW.cell (p := ⟨Bs, 0, none⟩) hBs).trans hR.head, fun j hj => by
      obtain ⟨v, h⟩ := hR.byte j hj
      exact ⟨v, (hW.cell (p := ⟨b, j, none⟩) hb).trans h⟩⟩ h0

end Go.Proofs.YtegelodkopommaaDoor.V
