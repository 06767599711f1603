/- What the laws of package run need. -/
import Derived.Test.YtdokgalidhmbbaaGreatDoorChecked
import Derived.WalkKit
import Derived.WalkSpells
import Derived.WalkLawsBesides
import Derived.LoopN
import Derived.Outline
import Derived.KernelRfl
import Derived.RangeFuncBox
import Derived.RangeFuncLeaves
import Derived.Shelf.Abstract
import Derived.OwnWalkIn
import Derived.TacticsInMore
import Derived.LoopNIn
import Derived.LoopIn
import Derived.RangeFuncNested
import Derived.Laws.BytesArg
import Derived.Deep.QuietTactic
import Derived.BigQuiet
import Derived.Laws.BitsAllLaws
import Derived.Lib.AppendStr
set_option linter.unusedVariables false
set_option linter.unusedSimpArgs false
set_option maxRecDepth 100000
set_option maxHeartbeats 8000000
namespace Go.Proofs.YtdokgalidhmbbaaGreatDoor.V
open Go.RowKit

structure Forms (w : World) : Prop where
  c0 : w.cell? ⟨3, 0, none⟩ = some (.int .i64 1)
  c1 : w.cell? ⟨3, 1, none⟩ = some (.int .i64 64)
  c2 : w.cell? ⟨3, 2, none⟩ = some (.int .i64 2)
  c3 : w.cell? ⟨3, 3, none⟩ = some (.int .i64 16384)
  c4 : w.cell? ⟨3, 4, none⟩ = some (.int .i64 4)
  c5 : w.cell? ⟨3, 5, none⟩ = some (.int .i64 1073741824)
  pos : 3 < w.heap.size

theorem Forms.below {w w' : World} (h : Forms w) (hb : Below w.heap.size w w') : Forms w' :=
  ⟨(hb.cell (p := ⟨3, 0, none⟩) h.pos).trans h.c0, (hb.cell (p := ⟨3, 1, none⟩) h.pos).trans h.c1, (hb.cell (p := ⟨3, 2, none⟩) h.pos).trans h.c2,
   (hb.cell (p := ⟨3, 3, none⟩) h.pos).trans h.c3, (hb.cell (p := ⟨3, 4, none⟩) h.pos).trans h.c4, (hb.cell (p := ⟨3, 5, none⟩) h.pos).trans h.c5, Nat.lt_of_lt_of_le h.pos hb.size⟩

theorem idx0 (w : World) : (Instr.index 196 (.agg #[.int .i64 1, .int .i64 64, .int .i64 2, .int .i64 16384, .int .i64 4, .int .i64 1073741824]) (.int .i64 0)).run Tryz.prog w = .ok (.agg #[.int .i64 1, .int .i64 64]) w := by kernel_rfl
theorem idx1 (w : World) : (Instr.index 196 (.agg #[.int .i64 1, .int .i64 64, .int .i64 2, .int .i64 16384, .int .i64 4, .int .i64 1073741824]) (.int .i64 1)).run Tryz.prog w = .ok (.agg #[.int .i64 2, .int .i64 16384]) w := by kernel_rfl
theorem idx2 (w : World) : (Instr.index 196 (.agg #[.int .i64 1, .int .i64 64, .int .i64 2, .int .i64 16384, .int .i64 4, .int .i64 1073741824]) (.int .i64 2)).run Tryz.prog w = .ok (.agg #[.int .i64 4, .int .i64 1073741824]) w := by kernel_rfl

set_option maxRecDepth 100000 in
set_option maxHeartbeats 1000000 in
theorem bits_neg (n : Int) (w : World) (h : n < 0) :
    Calls Tryz.prog 107 #[.int .i64 n] w fun e w' => e = .returned (.tuple #[.int .i64 0, .iface 133 (.int .i64 1)]) ∧ Below w.heap.size w w' := by
  go_enter Tryz.func107, Tryz.ntmps107
  go_wp2
  go_ret2
  exact ⟨rfl, Below.refl _ _⟩

set_option maxRecDepth 100000 in
set_option maxHeartbeats 1000000 in
theorem bits_0 (n : Int) (w : World) (hF : Forms w) (h0 : 0 ≤ n) (h1 : n < 64) :
    Calls Tryz.prog 107 #[.int .i64 n] w fun e w' => e = .returned (.tuple #[.int .i64 0, .nilIface]) ∧ Below w.heap.size w w' := by
  obtain ⟨c0, c1, c2, c3, c4, c5, hp⟩ := hF
  have i0 := idx0
  have i1 := idx1
  have i2 := idx2
  go_enter Tryz.func107, Tryz.ntmps107
  go_wp2
  refine wp_loop_rounds 4 ?_
  rw [rounds_succ]; go_wp2
  go_ret2
  exact ⟨rfl, ((Below.refl _ _).alloc (Nat.le_refl _) _)⟩

set_option maxRecDepth 100000 in
set_option maxHeartbeats 1000000 in
theorem bits_1 (n : Int) (w : World) (hF : Forms w) (h0 : 64 ≤ n) (h1 : n < 16384) :
    Calls Tryz.prog 107 #[.int .i64 n] w fun e w' => e = .returned (.tuple #[.int .i64 1, .nilIface]) ∧ Below w.heap.size w w' := by
  obtain ⟨c0, c1, c2, c3, c4, c5, hp⟩ := hF
  have i0 := idx0
  have i1 := idx1
  have i2 := idx2
  go_enter Tryz.func107, Tryz.ntmps107
  go_wp2
  refine wp_loop_rounds 4 ?_
  rw [rounds_succ]; go_wp2
  rw [rounds_succ]; go_wp2
  go_ret2
  exact ⟨rfl, (((Below.refl _ _).alloc (Nat.le_refl _) _).alloc (by simp <;> omega) _)⟩

set_option maxRecDepth 100000 in
set_option maxHeartbeats 1000000 in
theorem bits_2 (n : Int) (w : World) (hF : Forms w) (h0 : 16384 ≤ n) (h1 : n < 1073741824) :
    Calls Tryz.prog 107 #[.int .i64 n] w fun e w' => e = .returned (.tuple #[.int .i64 2, .nilIface]) ∧ Below w.heap.size w w' := by
  obtain ⟨c0, c1, c2, c3, c4, c5, hp⟩ := hF
  have i0 := idx0
  have i1 := idx1
  have i2 := idx2
  go_enter Tryz.func107, Tryz.ntmps107
  go_wp2
  refine wp_loop_rounds 4 ?_
  rw [rounds_succ]; go_wp2
  rw [rounds_succ]; go_wp2
  rw [rounds_succ]; go_wp2
  go_ret2
  exact ⟨rfl, ((((Below.refl _ _).alloc (Nat.le_refl _) _).alloc (by simp <;> omega) _).alloc (by simp <;> omega) _)⟩

set_option maxRecDepth 100000 in
set_option maxHeartbeats 1000000 in
theorem bits_big (n : Int) (w : World) (hF : Forms w) (h0 : 1073741824 ≤ n) :
    Calls Tryz.prog 107 #[.int .i64 n] w fun e w' => e = .returned (.tuple #[.int .i64 0, .iface 133 (.int .i64 1)]) ∧ Below w.heap.size w w' := by
  obtain ⟨c0, c1, c2, c3, c4, c5, hp⟩ := hF
  have i0 := idx0
  have i1 := idx1
  have i2 := idx2
  go_enter Tryz.func107, Tryz.ntmps107
  go_wp2
  refine wp_loop_rounds 4 ?_
  rw [rounds_succ]; go_wp2
  rw [rounds_succ]; go_wp2
  rw [rounds_succ]; go_wp2
  rw [rounds_succ]; go_wp2
  go_ret2
  exact ⟨rfl, ((((Below.refl _ _).alloc (Nat.le_refl _) _).alloc (by simp <;> omega) _).alloc (by simp <;> omega) _)⟩

end Go.Proofs.YtdokgalidhmbbaaGreatDoor.V
namespace Go.Proofs.YtdokgalidhmbbaaGreatDoor.V
open Go.RowKit Go.Shelf
attribute [local go_sem] Oper.semAt_some

def downto (len k : Nat) : List Nat := (List.range k).map fun t => len - 1 - t
theorem downto_succ (len k : Nat) : downto len (k + 1) = downto len k ++ [len - 1 - k] := by simp [downto, List.range_succ]
theorem downto_length (len k : Nat) : (downto len k).length = k := by simp [downto]

/-- Cell j of the row at block b is a byte, for every j below len; Bs holds its header. -/
structure Row (len cap Bs b : Nat) (W : World) : Prop where
  head : W.cell? ⟨Bs, 0, none⟩ = some (.slice (some ⟨b, 0, none⟩) len cap)
  byte : ∀ j, j < len → ∃ v, W.cell? ⟨b, j, none⟩ = some (.int .u8 v)

def KpRow (len cap Bs b : Nat) (W W' : World) : Prop := Row len cap Bs b W → Row len cap Bs b W'

set_option maxRecDepth 100000 in
set_option maxHeartbeats 2000000 in
theorem back1_in (F : Fence) (n : Nat) (h18 : F.fn 138) (hro : F.round = none) (hn : 1 ≤ n) (l Bs b len cap : Nat) (hlen : len ≤ 1000) (J Jx : List { p : Nat × Int // p.1 < len } → World → Prop)
    (hY : ∀ pre x W, J pre W → pre.length < len → YieldAt F (n - 1) Tryz.prog l #[.int .i64 (x.1.1 : Int), .int .u8 x.1.2] W fun e W' =>
      (e = .returned (.bool true) ∧ J (pre ++ [x]) W' ∧ KpRow len cap Bs b W W') ∨ (e = .returned (.bool false) ∧ Jx (pre ++ [x]) W'))
    (W : World) (hR : Row len cap Bs b W) (h0 : J [] W) :
    CallsIn F n Tryz.prog 138 #[.func (.yield l) #[] #[], .pointer (some ⟨Bs, 0, none⟩)] W fun e W' => (∃ v, e = .returned v) ∧
      ((∃ ys, ys.map (fun x => x.1.1) = downto len len ∧ J ys W') ∨ (∃ pre, True ∧ Jx pre W')) := by
  refine callsIn_of_wp Tryz.func138 rfl h18 ?_ hro
  simp only [Tryz.ntmps138, List.size_toArray, List.length_cons, List.length_nil, Nat.reduceAdd, Nat.reduceSub, Array.replicate_succ, Array.replicate_zero, List.push_toArray, List.append_toArray, List.nil_append, List.cons_append]
  have hh := hR.head
  gi_wp2
  gi_loopw [3] (fun i wr => ∃ k : Nat, k ≤ len ∧ i = .int .i64 ((len : Int) - 1 - k) ∧ (∃ ys, ys.map (fun x => x.1.1) = downto len k ∧ J ys wr) ∧ Row len cap Bs b wr)
    (fun i _ => (intOf i + 1).toNat)
  case atStart => exact ⟨0, Nat.zero_le _, by simp, ⟨[], rfl, h0⟩, hR⟩
  case round =>
    obtain ⟨k, hk, rfl, ⟨ys, hys, hJs⟩, hRr⟩ := hrel
    have hyl : ys.length = k := by have := congrArg List.length hys; simpa [downto_length] using this
    by_cases hlt : k < len
    · obtain ⟨v, hv⟩ := hRr.byte (len - 1 - k) (by omega)
      have hhr := hRr.head
      obtain ⟨fn, tmps, assign, body, hy, hR'⟩ := hY ys ⟨(len - 1 - k, v), by show len - 1 - k < len; omega⟩ wr hJs (by omega)
      dsimp only at hy
      have e1 : ((len - 1 - k : Nat) : Int) = (len : Int) - 1 - k := by omega
      have e2 : ((len : Int) - 1 - k).toNat = len - 1 - k := by omega
      rw [e1] at hy
      have HY : Hid (ys.map (fun x => x.1.1) = downto len k) := hys
      clear hys
      have g1 : (0 : Int) ≤ (len : Int) - 1 - k := by omega
      have g2 : (len : Int) - 1 - k < (len : Int) := by omega
      gi_wp2
      refine hR'.mono ?_
      rintro e W3 (⟨rfl, hJ3, hk3⟩ | ⟨rfl, hJx3⟩)
      · gi_wp2
        go_roundw
        case rel => exact ⟨k + 1, by omega, by simp; omega, ⟨_, by rw [List.map_append, HY.out, downto_succ]; rfl, hJ3⟩, hk3 hRr⟩
        case measure => simp [intOf]; omega
      · gi_wp2
        refine bodyPost_ret (results_none rfl _ _ _) rfl ?_
        exact ⟨⟨_, rfl⟩, .inr ⟨_, trivial, hJx3⟩⟩
    · obtain rfl : k = len := by omega
      have HY : Hid (ys.map (fun x => x.1.1) = downto k k) := hys
      clear hys
      gi_wp2
      go_end0
      exact ⟨⟨_, rfl⟩, .inl ⟨_, HY.out, hJs⟩⟩

set_option maxHeartbeats 1000000 in
theorem back_in (F : Fence) (n : Nat) (h16 : F.fn 108) (hro : F.round = none) (a : Option Addr) (len cap : Nat) (w : World) :
    CallsIn F n Tryz.prog 108 #[.slice a len cap] w fun e w' => e = .returned (.func (.func 138) #[] #[.pointer (some ⟨w.heap.size, 0, none⟩)]) ∧ w' = w.alloc (.cells #[.slice a len cap] 37) := by
  refine callsIn_of_wp Tryz.func108 rfl h16 ?_ hro
  simp only [Tryz.ntmps108, List.size_toArray, List.length_cons, List.length_nil, Nat.reduceAdd, Nat.reduceSub, Array.replicate_succ, Array.replicate_zero, List.push_toArray, List.append_toArray, List.nil_append, List.cons_append]
  gi_wp2
  go_ret
  exact ⟨rfl, rfl⟩

theorem back_stops (F : Fence) (n : Nat) (h18 : F.fn 138) (hro : F.round = none) (hn : 1 ≤ n) (Bs b len cap : Nat) (hlen : len ≤ 1000) (w : World) (hBs : Bs < w.heap.size) (hb : b < w.heap.size) (hR : Row len cap Bs b w) :
    SeqStopsK F n Tryz.prog 138 #[.pointer (some ⟨Bs, 0, none⟩)] (fun x : { p : Nat × Int // p.1 < len } => #[Value.int .i64 (x.1.1 : Int), Value.int .u8 x.1.2]) (KpRow len cap Bs b)
      (fun ys => ys.map (fun x => x.1.1) = downto len len) (fun _ => True) len w := fun l J Jx W hW _ _ hY h0 =>
  back1_in F n h18 hro hn l Bs b len cap hlen J Jx hY W
    ⟨(hW.cell (p := ⟨Bs, 0, none⟩) hBs).trans hR.head, fun j hj => by
      obtain ⟨v, h⟩ := hR.byte j hj
      exact ⟨v, (hW.cell (p := ⟨b, j, none⟩) hb).trans h⟩⟩ h0

end Go.Proofs.YtdokgalidhmbbaaGreatDoor.V
namespace Go.Proofs.YtdokgalidhmbbaaGreatDoor.V
open Go.RowKit Go.Shelf
attribute [local go_sem] Oper.semAt_some

theorem mk1 (w : World) : (Instr.makeSlice 37 (.int .i64 1) (.int .i64 1)).run Tryz.prog w = .ok (.slice (some ⟨w.heap.size, 0, none⟩) 1 1) (w.alloc (.cells #[.int .u8 0] 5)) := by kernel_rfl
theorem mk2 (w : World) : (Instr.makeSlice 37 (.int .i64 2) (.int .i64 2)).run Tryz.prog w = .ok (.slice (some ⟨w.heap.size, 0, none⟩) 2 2) (w.alloc (.cells #[.int .u8 0, .int .u8 0] 5)) := by kernel_rfl
theorem mk4 (w : World) : (Instr.makeSlice 37 (.int .i64 4) (.int .i64 4)).run Tryz.prog w = .ok (.slice (some ⟨w.heap.size, 0, none⟩) 4 4) (w.alloc (.cells #[.int .u8 0, .int .u8 0, .int .u8 0, .int .u8 0] 5)) := by kernel_rfl

/-- Block B holds just these bytes. -/
def Byt (W : World) (B : Nat) (cs : List Int) : Prop := W.heap[B]? = some (.cells (cs.map (Value.int .u8)).toArray 5 (0, 0))
theorem Byt.lt {W : World} {B : Nat} {cs : List Int} (h : Byt W B cs) : B < W.heap.size := (Array.getElem?_eq_some_iff.1 h).1
theorem Byt.cell {W : World} {B : Nat} {cs : List Int} (h : Byt W B cs) (j : Nat) (hj : j < cs.length) : W.cell? ⟨B, j, none⟩ = some (.int .u8 (cs[j]?.getD 0)) := by
  simp [World.cell?, show W.heap[B]? = _ from h, hj]
theorem Byt.frozen {W : World} {B : Nat} {cs : List Int} (h : Byt W B cs) (j : Nat) : W.frozen? ⟨B, j, none⟩ = false := by
  simp [World.frozen?, show W.heap[B]? = _ from h]
theorem Byt.kept {W W' : World} {row : Option Nat} {B : Nat} {cs : List Int} (h : Byt W B cs) (hg : W.grownBy W' row) (hne : some B ≠ row) : Byt W' B cs := (hg.block B h.lt hne).trans h
theorem Byt.alloc {W : World} {B : Nat} {cs : List Int} (h : Byt W B cs) (o : Obj) : Byt (W.alloc o) B cs := h.kept (World.grownBy_alloc W o none) (by simp)
theorem Byt.set {W : World} {B : Nat} {cs : List Int} (h : Byt W B cs) (j : Nat) (v : Int) : Byt (W.setCell ⟨B, j, none⟩ (.int .u8 v)) B (cs.set j v) := by
  obtain ⟨hlt, hk⟩ := Array.getElem?_eq_some_iff.1 h
  show (W.heap.modify B _)[B]? = _
  rw [Array.getElem?_eq_getElem (by rw [Array.size_modify]; exact hlt), Array.getElem_modify_self, hk]
  simp [List.map_set]
theorem Byt.other {W : World} {B B' : Nat} {cs : List Int} (h : Byt W B cs) (hne : B ≠ B') (u : Value) : Byt (W.setCell ⟨B', 0, none⟩ u) B cs := h.kept (grownBy_setCell' W B' u) (fun e => hne (by cases e; rfl))
theorem Byt.own {β : Type} (B : Nat) (f : β → List Int) : Own (fun s W => Byt W B (f s)) := fun s X Y row hs hg hrow =>
  hs.kept hg (fun e' => by obtain ⟨o, ho, hc⟩ := hrow B e'.symm; rw [show X.heap[B]? = _ from hs] at ho; cases ho; cases hc)
theorem Boxed.otherRow {W : World} {B B' j : Nat} {t : TypeId} {v : Value} (h : Boxed W B t v) (hne : B ≠ B') (u : Value) : Boxed (W.setCell ⟨B', j, none⟩ u) B t v :=
  (Below.heap_setCell _ _ _ B hne).trans h

/-- One round: the last eight bits into place i; the rest. -/
def step (s : Int × List Int) (i : Nat) : Int × List Int := (s.1 / 256, s.2.set i (s.1 % 256))
def after (r : Int) (cs : List Int) (is : List Nat) : Int × List Int := is.foldl step (r, cs)
theorem after_snoc (r : Int) (cs : List Int) (is : List Nat) (i : Nat) : after r cs (is ++ [i]) = step (after r cs is) i := by simp [after]
theorem after_len (r : Int) (cs : List Int) (is : List Nat) : (after r cs is).2.length = cs.length := by
  unfold after
  induction is generalizing r cs with
  | nil => rfl
  | cons i is ih => simpa [step] using ih (r / 256) (cs.set i (r % 256))
theorem after_bd (r : Int) (cs : List Int) (is : List Nat) (h0 : 0 ≤ r) (h1 : r < 4294967296) : 0 ≤ (after r cs is).1 ∧ (after r cs is).1 < 4294967296 := by
  unfold after
  induction is generalizing r cs with
  | nil => exact ⟨h0, h1⟩
  | cons i is ih => exact ih (r / 256) (cs.set i (r % 256)) (by omega) (by omega)

theorem KpRow.put {w : World} {len cap Bs b : Nat} (W : World) (l : Nat) (o o' : Obj) (_ : w.heap.size ≤ l) (h : W.heap[l]? = some o) (hc : o.isCells = false) (_ : o.isWalk = false) : KpRow len cap Bs b W (W.putObj l o') := fun hR =>
  ⟨cell_kept hR.head (grownBy_putObj' W l o') (fun r e => by cases e; exact ⟨o, h, hc⟩), fun j hj => by
    obtain ⟨v, hv⟩ := hR.byte j hj
    exact ⟨v, cell_kept hv (grownBy_putObj' W l o') (fun r e => by cases e; exact ⟨o, h, hc⟩)⟩⟩

/-- The bytes of a number that may be. -/
def nums (n : Int) : List Int := if n < 64 then [n] else if n < 16384 then [64 + n / 256, n % 256] else [128 + n / 16777216, n / 65536 % 256, n / 256 % 256, n % 256]
theorem nums_0 (n : Int) (h0 : 0 ≤ n) (h1 : n < 64) : (after n [0] (downto 1 1)).2 = nums n := by
  simp [after, downto, step, List.range_succ, nums, h1]; omega
theorem nums_1 (n : Int) (h0 : 64 ≤ n) (h1 : n < 16384) : (after (n + 16384) [0, 0] (downto 2 2)).2 = nums n := by
  have h2 : ¬ n < 64 := by omega
  simp [after, downto, step, List.range_succ, nums, h1, h2]; omega
theorem nums_2 (n : Int) (h0 : 16384 ≤ n) (h1 : n < 1073741824) : (after (n + 2147483648) [0, 0, 0, 0] (downto 4 4)).2 = nums n := by
  have h2 : ¬ n < 64 := by omega
  have h3 : ¬ n < 16384 := by omega
  simp [after, downto, step, List.range_succ, nums, h2, h3]; omega

set_option maxRecDepth 100000 in
set_option maxHeartbeats 1000000 in
theorem put_neg (n : Int) (w : World) (h : n < 0) :
    Calls Tryz.prog 81 #[.int .i64 n] w fun e w' => e = .returned (.tuple #[.string { data := #[] }, .iface 133 (.int .i64 1)]) ∧ Below w.heap.size w w' := by
  refine (callsIn_wide (n := 4)).1 ?_
  have h15 : Fence.wide.fn 107 := trivial
  refine callsIn_of_wp_marks Tryz.func81 rfl trivial ?_ rfl
  simp only [Tryz.ntmps81, List.size_toArray, List.length_cons, List.length_nil, Nat.reduceAdd, Nat.reduceSub, Array.replicate_succ, Array.replicate_zero, List.push_toArray, List.append_toArray, List.nil_append, List.cons_append]
  gi_wp2_with (gi_at_call 107; refine (callsIn_wide.2 (bits_neg _ _ h)).mono ?_; rintro e w1 ⟨rfl, hb⟩)
  exact ⟨_, results_tmp2 rfl _ _ _, rfl, hb⟩

set_option maxRecDepth 100000 in
set_option maxHeartbeats 1000000 in
theorem put_big (n : Int) (w : World) (hF : Forms w) (h : 1073741824 ≤ n) :
    Calls Tryz.prog 81 #[.int .i64 n] w fun e w' => e = .returned (.tuple #[.string { data := #[] }, .iface 133 (.int .i64 1)]) ∧ Below w.heap.size w w' := by
  refine (callsIn_wide (n := 4)).1 ?_
  have h15 : Fence.wide.fn 107 := trivial
  refine callsIn_of_wp_marks Tryz.func81 rfl trivial ?_ rfl
  simp only [Tryz.ntmps81, List.size_toArray, List.length_cons, List.length_nil, Nat.reduceAdd, Nat.reduceSub, Array.replicate_succ, Array.replicate_zero, List.push_toArray, List.append_toArray, List.nil_append, List.cons_append]
  gi_wp2_with (gi_at_call 107; refine (callsIn_wide.2 (bits_big _ _ hF h)).mono ?_; rintro e w1 ⟨rfl, hb⟩)
  exact ⟨_, results_tmp2 rfl _ _ _, rfl, hb⟩

set_option maxRecDepth 100000 in
set_option maxHeartbeats 2000000 in
theorem put_any (n : Int) (w : World) (L bt : Nat) (en be : Int) (xs : List Int) (hbits : Calls Tryz.prog 107 #[.int .i64 n] w fun e w' => e = .returned (.tuple #[.int .i64 (bt : Int), .nilIface]) ∧ Below w.heap.size w w') (hbt : (bt : Int) < 3) (hce : ∀ W, Below w.heap.size w W → W.cell? ⟨3, bt * 2, none⟩ = some (.int .i64 (L : Int)) ∧ W.cell? ⟨3, bt * 2 + 1, none⟩ = some (.int .i64 en) ∧ 3 < W.heap.size) (hbe : (bt : Int) * en = be) (hb0 : 0 ≤ be) (hb1 : be < 4294967296) (hn0 : 0 ≤ n) (hr : n + be < 4294967296) (hL : L ≤ 4)
    (hmk : ∀ W : World, (Instr.makeSlice 37 (.int .i64 (L : Int)) (.int .i64 (L : Int))).run Tryz.prog W = .ok (.slice (some ⟨W.heap.size, 0, none⟩) L L) (W.alloc (.cells ((List.replicate L (0 : Int)).map (Value.int .u8)).toArray 5))) (hxs : (after (n + be) (List.replicate L 0) (downto L L)).2 = xs) :
    Calls Tryz.prog 81 #[.int .i64 n] w fun e w' => e = .returned (.tuple #[.string (strOfNums xs), .nilIface]) ∧ Below w.heap.size w w' := by
  refine (callsIn_wide (n := 4)).1 ?_
  have h15 : Fence.wide.fn 107 := trivial
  have h16 : Fence.wide.fn 108 := trivial
  generalize hZ : ((List.replicate L (0 : Int)).map (Value.int .u8)).toArray = Z at hmk
  have HZ : Hid (((List.replicate L (0 : Int)).map (Value.int .u8)).toArray = Z) := hZ
  have HL4 : Hid (L ≤ 4) := hL
  have HZL : Hid (((List.replicate L 0) : List Int).length = L) := List.length_replicate ..
  have hbt0 : (0 : Int) ≤ (bt : Int) := by omega
  clear hZ hL
  refine callsIn_of_wp_marks Tryz.func81 rfl trivial ?_ rfl
  simp only [Tryz.ntmps81, List.size_toArray, List.length_cons, List.length_nil, Nat.reduceAdd, Nat.reduceSub, Array.replicate_succ, Array.replicate_zero, List.push_toArray, List.append_toArray, List.nil_append, List.cons_append]
  gi_wp2_with (first | (gi_at_call 107; refine (callsIn_wide.2 hbits).mono ?_; rintro e w1 ⟨rfl, hb⟩; obtain ⟨c0, c1, hp⟩ := hce w1 hb) | (gi_at_call 108; refine (back_in Fence.wide 3 trivial rfl _ _ _ _).mono ?_; rintro e w' ⟨rfl, rfl⟩))
  clear hmk hbits hce hbe c0 c1
  obtain ⟨W0, hW0⟩ : ∃ W0, ((((w1.alloc (.cells #[.int .i64 (n + be)] 3)).alloc (.cells Z 5)).alloc (.cells #[(.slice (some ⟨w1.heap.size + 1, 0, none⟩) L L)] 37)).alloc (.cells #[(.slice (some ⟨w1.heap.size + 1, 0, none⟩) L L)] 37)) = W0 := ⟨_, rfl⟩
  have sz : W0.heap.size = w1.heap.size + 4 := by rw [← hW0]; simp
  have bR : Boxed W0 w1.heap.size 3 (.int .i64 (n + be)) := by rw [← hW0]; exact (((Boxed.new w1 3 _).alloc _).alloc _).alloc _
  have bB : Byt W0 (w1.heap.size + 1) (List.replicate L 0) := by
    rw [← hW0]
    have h : Byt ((w1.alloc (.cells #[.int .i64 (n + be)] 3)).alloc (.cells Z 5)) (w1.heap.size + 1) (List.replicate L 0) := by
      have := World.alloc_heap_new (w1.alloc (.cells #[.int .i64 (n + be)] 3)) (.cells Z 5)
      rw [World.size_alloc] at this
      unfold Byt
      rw [HZ.out]
      exact this
    exact (h.alloc _).alloc _
  have bS : Boxed W0 (w1.heap.size + 1 + 1) 37 (.slice (some ⟨w1.heap.size + 1, 0, none⟩) L L) := by
    rw [← hW0]
    have h := Boxed.new ((w1.alloc (.cells #[.int .i64 (n + be)] 3)).alloc (.cells Z 5)) 37 (.slice (some ⟨w1.heap.size + 1, 0, none⟩) L L)
    rw [World.size_alloc, World.size_alloc] at h
    exact h.alloc _
  have bH : Boxed W0 (w1.heap.size + 1 + 1 + 1) 37 (.slice (some ⟨w1.heap.size + 1, 0, none⟩) L L) := by
    rw [← hW0]
    have h := Boxed.new (((w1.alloc (.cells #[.int .i64 (n + be)] 3)).alloc (.cells Z 5)).alloc (.cells #[(.slice (some ⟨w1.heap.size + 1, 0, none⟩) L L)] 37)) 37 (.slice (some ⟨w1.heap.size + 1, 0, none⟩) L L)
    rw [World.size_alloc, World.size_alloc, World.size_alloc] at h
    exact h
  have hsz := hb.size
  have hB0 : Below w.heap.size w W0 := by
    rw [← hW0]
    exact ((((hb.alloc hsz _).alloc (by simp <;> omega) _).alloc (by simp <;> omega) _).alloc (by simp <;> omega) _)
  rw [hW0]
  clear hW0
  refine wpIn_rangeFunc_ownG rfl (by decide) (gf := 138) (lb := #[.pointer (some ⟨w1.heap.size + 1 + 1 + 1, 0, none⟩)]) rfl trivial (enters_of Tryz.func138 (by kernel_rfl) rfl)
    (back_stops Fence.wide (4 - 1) trivial rfl (by decide) (w1.heap.size + 1 + 1 + 1) (w1.heap.size + 1) L L (by have := HL4.out; omega) W0 (by omega) (by omega) ⟨bH.cell, fun j hj => ⟨_, bB.cell j (by rw [HZL.out]; exact hj)⟩⟩)
    (fun h k hR => k (h hR)) (KpRow.put (w := W0)) (Below.refl _ _) (fun _ => rfl)
    (fun pre W => Boxed W w1.heap.size 3 (.int .i64 (after (n + be) (List.replicate L 0) (pre.map fun x => x.1.1)).1) ∧ Byt W (w1.heap.size + 1) (after (n + be) (List.replicate L 0) (pre.map fun x => x.1.1)).2 ∧ Boxed W (w1.heap.size + 1 + 1) 37 (.slice (some ⟨w1.heap.size + 1, 0, none⟩) L L) ∧ Boxed W (w1.heap.size + 1 + 1 + 1) 37 (.slice (some ⟨w1.heap.size + 1, 0, none⟩) L L) ∧ Below w.heap.size w W)
    (fun _ _ _ => False)
    (OwnFrom.and (Own.from (boxed_own _ _ _) _) (OwnFrom.and (Own.from (Byt.own _ _) _) (OwnFrom.and (Own.from (boxed_own _ _ _) _) (OwnFrom.and (Own.from (boxed_own _ _ _) _) (ownFrom_below (Nat.le_refl _) (by omega))))))
    (fun _ _ _ _ _ hs _ _ => hs)
    ⟨bR, bB, bS, bH, hB0⟩
    (fun x => { tmps := #[.int .i64 n, undef, .string { data := #[] }, .nilIface, .int .i64 (bt : Int), .nilIface, .pointer (some ⟨w1.heap.size, 0, none⟩), .pointer (some ⟨w1.heap.size + 1 + 1, 0, none⟩), .int .i64 (x.1.1 : Int), .tuple #[.int .i64 (bt : Int), .nilIface], .int .i64 n, .tuple #[.int .i64 (bt : Int), .nilIface], .int .i64 (bt : Int), .nilIface, .nilIface, .bool false, undef, .int .i64 n, .int .i64 (bt : Int), .int .i64 (bt : Int), .pointer (some ⟨3, bt * 2, none⟩), .pointer (some ⟨3, bt * 2 + 1, none⟩), .int .i64 en, .int .i64 be, .int .i64 (n + be), .int .i64 (bt : Int), .pointer (some ⟨3, bt * 2, none⟩), .pointer (some ⟨3, bt * 2, none⟩), .int .i64 (L : Int), (.slice (some ⟨w1.heap.size + 1, 0, none⟩) L L), (.slice (some ⟨w1.heap.size + 1, 0, none⟩) L L), .func (.func 138) #[] #[.pointer (some ⟨w1.heap.size + 1 + 1 + 1, 0, none⟩)], .int .i64 (x.1.1 : Int), .int .u8 x.1.2, undef, undef, undef, undef, undef, undef, undef, undef, undef], defers := [] }) ?assign ?body ?done ?stop
  case assign =>
    intro l x W K hK
    gi_wp2
    exact hK
  case body =>
    rintro l pre ⟨⟨i, v⟩, hx⟩ W ⟨kR, kB, kS, kH, hB⟩ _
    have hx : i < L := hx
    have hlen := (after_len (n + be) (List.replicate L 0) (pre.map fun x => x.1.1)).trans HZL.out
    have hbd := after_bd (n + be) (List.replicate L 0) (pre.map fun x => x.1.1) (by omega) (by omega)
    have sn := after_snoc (n + be) (List.replicate L 0) (pre.map fun x => x.1.1) i
    have kc := kB.cell i (by rw [hlen]; exact hx)
    have kf := kB.frozen i
    have HS : Hid (after (n + be) (List.replicate L 0) (pre.map (fun x => x.1.1) ++ [i]) = step (after (n + be) (List.replicate L 0) (pre.map fun x => x.1.1)) i) := sn
    have HL : Hid ((after (n + be) (List.replicate L 0) (pre.map fun x => x.1.1)).2.length = L) := hlen
    clear sn hlen
    generalize after (n + be) (List.replicate L 0) (pre.map fun x => x.1.1) = st at *
    have kRc := kR.cell
    have kRf := kR.frozen
    have kSc := kS.cell
    obtain ⟨hbd0, hbd1⟩ := hbd
    have g1 : ((i : Nat) : Int) < (L : Int) := by omega
    gi_wp2
    have kB' := (kB.set i (st.1 % 256)).other (B' := w1.heap.size) (by omega) (.int .i64 (st.1 / 256))
    have kR' := (Boxed.otherRow (B' := w1.heap.size + 1) (j := i) kR (by omega) (.int .u8 (st.1 % 256))).set (.int .i64 (st.1 / 256))
    have kS' := (Boxed.otherRow (B' := w1.heap.size + 1) (j := i) kS (by omega) (.int .u8 (st.1 % 256))).other (B' := w1.heap.size) (by omega) (.int .i64 (st.1 / 256))
    have kH' := (Boxed.otherRow (B' := w1.heap.size + 1) (j := i) kH (by omega) (.int .u8 (st.1 % 256))).other (B' := w1.heap.size) (by omega) (.int .i64 (st.1 / 256))
    have hB' := (hB.setCell (p := ⟨w1.heap.size + 1, i, none⟩) (by show w.heap.size ≤ w1.heap.size + 1; omega) (.int .u8 (st.1 % 256))).setCell (p := ⟨w1.heap.size, 0, none⟩) hsz (.int .i64 (st.1 / 256))
    have hL : (st.2.set i (st.1 % 256)).length = L := by rw [List.length_set]; exact HL.out
    refine ⟨((KeepsOthers.setCell _ _ _).trans (KeepsOthers.setCell _ _ _)).from _, fun _ => ⟨kH'.cell, fun j hj => ⟨_, kB'.cell j (by rw [hL]; exact hj)⟩⟩, ?_, ?_, kS', kH', hB'⟩
    · rw [List.map_append]
      show Boxed _ _ _ (.int .i64 (after (n + be) (List.replicate L 0) (pre.map (fun x => x.1.1) ++ [i])).1)
      rw [HS.out]; exact kR'
    · rw [List.map_append]
      show Byt _ _ (after (n + be) (List.replicate L 0) (pre.map (fun x => x.1.1) ++ [i])).2
      rw [HS.out]; exact kB'
  case done =>
    rintro D ys W hD hys ⟨kR, kB, kS, kH, hB⟩ hK
    rw [hys, hxs] at kB
    have hl : xs.length = L := by rw [← hxs, after_len, HZL.out]
    have hcv := run_convert_bytes_arg (P := Tryz.prog) W 37 5 Tryz.underlying37 Tryz.underlying5 (w1.heap.size + 1) 0 L L xs hl (fun j hj => by
      rw [Nat.zero_add, kB.cell j (by omega)]; simp [List.getD]) 9 Tryz.underlying9
    have kSc := kS.cell
    have HL : Hid (xs.length = L) := hl
    clear hl hys
    gi_wp2
    refine ⟨by simp, .inl ⟨_, _, rfl, run_takeDeferred hK, ?_⟩⟩
    exact ⟨_, results_tmp2 rfl _ _ _, rfl, hB.trans (belowK_b (w := w) (Nat.le_refl _) W D _ _ (by omega) hK rfl rfl)⟩
  case stop =>
    rintro D c pre W _ _ h _
    exact h.elim
theorem put_0 (n : Int) (w : World) (hF : Forms w) (h0 : 0 ≤ n) (h1 : n < 64) :
    Calls Tryz.prog 81 #[.int .i64 n] w fun e w' => e = .returned (.tuple #[.string (strOfNums (nums n)), .nilIface]) ∧ Below w.heap.size w w' :=
  put_any n w 1 0 64 0 (nums n) (bits_0 n w hF h0 h1) (by decide) (fun W hW => ⟨(hF.below hW).c0, (hF.below hW).c1, (hF.below hW).pos⟩) rfl (by decide) (by decide) (by omega) (by omega) (by decide) mk1 (by rw [Int.add_zero]; exact nums_0 n h0 h1)
theorem put_1 (n : Int) (w : World) (hF : Forms w) (h0 : 64 ≤ n) (h1 : n < 16384) :
    Calls Tryz.prog 81 #[.int .i64 n] w fun e w' => e = .returned (.tuple #[.string (strOfNums (nums n)), .nilIface]) ∧ Below w.heap.size w w' :=
  put_any n w 2 1 16384 16384 (nums n) (bits_1 n w hF h0 h1) (by decide) (fun W hW => ⟨(hF.below hW).c2, (hF.below hW).c3, (hF.below hW).pos⟩) rfl (by decide) (by decide) (by omega) (by omega) (by decide) mk2 (nums_1 n h0 h1)
theorem put_2 (n : Int) (w : World) (hF : Forms w) (h0 : 16384 ≤ n) (h1 : n < 1073741824) :
    Calls Tryz.prog 81 #[.int .i64 n] w fun e w' => e = .returned (.tuple #[.string (strOfNums (nums n)), .nilIface]) ∧ Below w.heap.size w w' :=
  put_any n w 4 2 1073741824 2147483648 (nums n) (bits_2 n w hF h0 h1) (by decide) (fun W hW => ⟨(hF.below hW).c4, (hF.below hW).c5, (hF.below hW).pos⟩) rfl (by decide) (by decide) (by omega) (by omega) (by decide) mk4 (nums_2 n h0 h1)

end Go.Proofs.YtdokgalidhmbbaaGreatDoor.V
namespace Go.Proofs.YtdokgalidhmbbaaGreatDoor.V
open Go.RowKit

def lng (n : Int) : Int := if n < 64 then 1 else if n < 16384 then 2 else 4
theorem lng_bd (n : Int) : 1 ≤ lng n ∧ lng n ≤ 4 := by unfold lng; repeat' split <;> omega
/-- May a number be? -/
def mayB (n : Int) : Bool := decide (0 ≤ n ∧ n < 1073741824)
theorem mayB_yes {n : Int} (h : mayB n = true) : 0 ≤ n ∧ n < 1073741824 := of_decide_eq_true h
theorem mayB_no {n : Int} (h : mayB n = false) : n < 0 ∨ 1073741824 ≤ n := by
  have : ¬ (0 ≤ n ∧ n < 1073741824) := of_decide_eq_false h
  omega

theorem put_yes (n : Int) (w : World) (hF : Forms w) (h : mayB n = true) :
    Calls Tryz.prog 81 #[.int .i64 n] w fun e w' => e = .returned (.tuple #[.string (strOfNums (nums n)), .nilIface]) ∧ Below w.heap.size w w' := by
  obtain ⟨h0, h1⟩ := mayB_yes h
  by_cases a : n < 64
  · exact put_0 n w hF h0 a
  · by_cases b : n < 16384
    · exact put_1 n w hF (by omega) b
    · exact put_2 n w hF (by omega) h1
theorem put_no (n : Int) (w : World) (hF : Forms w) (h : mayB n = false) :
    Calls Tryz.prog 81 #[.int .i64 n] w fun e w' => e = .returned (.tuple #[.string { data := #[] }, .iface 133 (.int .i64 1)]) ∧ Below w.heap.size w w' := by
  rcases mayB_no h with h | h
  · exact put_neg n w h
  · exact put_big n w hF h


theorem or_nat (A B : Nat) (hA : A < 1099511627776) (hB : B < 256) : bits .or .i64 ((A * 256 : Nat) : Int) (B : Int) = ((A * 256 + B : Nat) : Int) := by
  show IntKind.i64.wrap ((BitVec.ofInt 64 ((A * 256 : Nat) : Int) ||| BitVec.ofInt 64 (B : Int)).toNat : Int) = _
  rw [BitVec.toNat_or, ofInt_u64 (A * 256) (by omega), ofInt_u64 B (by omega)]
  have h := Nat.two_pow_add_eq_or_of_lt (i := 8) (b := B) hB A
  rw [show A * 256 = 2 ^ 8 * A by omega, ← h, IntKind.wrap_i64]
  omega
theorem or_byte (a b : Int) (h1 : 0 ≤ a) (h2 : a < 1099511627776) (h3 : 0 ≤ b) (h4 : b < 256) : bits .or .i64 (a * 256) b = a * 256 + b := by
  obtain ⟨A, rfl⟩ := Int.eq_ofNat_of_zero_le h1
  obtain ⟨B, rfl⟩ := Int.eq_ofNat_of_zero_le h3
  have := or_nat A B (by omega) (by omega)
  simpa using this
theorem or_zero (b : Int) (h3 : 0 ≤ b) (h4 : b < 256) : bits .or .i64 0 b = b := by
  have := or_byte 0 b (by omega) (by omega) h3 h4
  simpa using this

set_option maxRecDepth 100000 in
set_option maxHeartbeats 1000000 in
theorem get_empty (s : ByteArray) (w : World) (hF : Forms w) (hl : s.size ≤ maxLen) (h : s.size = 0) :
    Calls Tryz.prog 228 #[.string s] w fun e w' => e = .returned (.tuple #[.int .i64 0, .int .i64 0, .iface 133 (.int .i64 2)]) ∧ Below w.heap.size w w' := by
  unfold maxLen at hl
  obtain ⟨c0, c1, c2, c3, c4, c5, hp⟩ := hF
  go_enter Tryz.func228, Tryz.ntmps228
  go_wp2
  go_ret3
  exact ⟨rfl, Below.refl _ _⟩

set_option maxRecDepth 100000 in
set_option maxHeartbeats 1000000 in
theorem get_b3 (s : ByteArray) (w : World) (hF : Forms w) (hl : s.size ≤ maxLen) (h : 0 < s.size) (hb : (192 : Int) ≤ (s[0].toNat : Int)) :
    Calls Tryz.prog 228 #[.string s] w fun e w' => e = .returned (.tuple #[.int .i64 0, .int .i64 0, .iface 133 (.int .i64 2)]) ∧ Below w.heap.size w w' := by
  unfold maxLen at hl
  obtain ⟨c0, c1, c2, c3, c4, c5, hp⟩ := hF
  have hz : ((s.size : Int) == 0) = false := beq_eq_false_iff_ne.2 (by omega)
  have hb2 : (s[0].toNat : Int) < 256 := by have := s[0].toNat_lt; omega
  have hq : (s[0].toNat : Int) / 64 = 3 := by omega
  go_enter Tryz.func228, Tryz.ntmps228
  go_wp2
  go_ret3
  exact ⟨rfl, Below.refl _ _⟩

set_option maxRecDepth 100000 in
set_option maxHeartbeats 1000000 in
theorem get_b1short (s : ByteArray) (w : World) (hF : Forms w) (hl : s.size ≤ maxLen) (h : 0 < s.size) (h2 : s.size < 2) (hb0 : (64 : Int) ≤ (s[0].toNat : Int)) (hb1 : (s[0].toNat : Int) < 128) :
    Calls Tryz.prog 228 #[.string s] w fun e w' => e = .returned (.tuple #[.int .i64 0, .int .i64 0, .iface 133 (.int .i64 2)]) ∧ Below w.heap.size w w' := by
  unfold maxLen at hl
  obtain ⟨c0, c1, c2, c3, c4, c5, hp⟩ := hF
  have hz : ((s.size : Int) == 0) = false := beq_eq_false_iff_ne.2 (by omega)
  have hq : (s[0].toNat : Int) / 64 = 1 := by omega
  have hs : (s.size : Int) < 2 := by omega
  go_enter Tryz.func228, Tryz.ntmps228
  go_wp2
  go_ret3
  exact ⟨rfl, Below.refl _ _⟩

set_option maxRecDepth 100000 in
set_option maxHeartbeats 1000000 in
theorem get_b2short (s : ByteArray) (w : World) (hF : Forms w) (hl : s.size ≤ maxLen) (h : 0 < s.size) (h4 : s.size < 4) (hb0 : (128 : Int) ≤ (s[0].toNat : Int)) (hb1 : (s[0].toNat : Int) < 192) :
    Calls Tryz.prog 228 #[.string s] w fun e w' => e = .returned (.tuple #[.int .i64 0, .int .i64 0, .iface 133 (.int .i64 2)]) ∧ Below w.heap.size w w' := by
  unfold maxLen at hl
  obtain ⟨c0, c1, c2, c3, c4, c5, hp⟩ := hF
  have hz : ((s.size : Int) == 0) = false := beq_eq_false_iff_ne.2 (by omega)
  have hq : (s[0].toNat : Int) / 64 = 2 := by omega
  have hs : (s.size : Int) < 4 := by omega
  go_enter Tryz.func228, Tryz.ntmps228
  go_wp2
  go_ret3
  exact ⟨rfl, Below.refl _ _⟩

set_option maxRecDepth 100000 in
set_option maxHeartbeats 1000000 in
theorem get_0 (s : ByteArray) (w : World) (hF : Forms w) (hl : s.size ≤ maxLen) (h : 0 < s.size) (hb1 : (s[0].toNat : Int) < 64) :
    Calls Tryz.prog 228 #[.string s] w fun e w' => e = .returned (.tuple #[.int .i64 (s[0].toNat : Int), .int .i64 1, .nilIface]) ∧ Below w.heap.size w w' := by
  unfold maxLen at hl
  obtain ⟨c0, c1, c2, c3, c4, c5, hp⟩ := hF
  have hz : ((s.size : Int) == 0) = false := beq_eq_false_iff_ne.2 (by omega)
  have hq : (s[0].toNat : Int) / 64 = 0 := by omega
  have ho := or_zero (s[0].toNat : Int) (by omega) (by omega)
  have hs : ¬ (s.size : Int) < 1 := by omega
  go_enter Tryz.func228, Tryz.ntmps228
  go_wp2
  refine wp_loop_rounds 2 ?_
  rw [rounds_succ]; go_wp2
  rw [rounds_succ]; go_wp2
  go_quiet (fail)
  go_wp2
  go_ret3
  exact ⟨rfl, below_drewN (Below.refl _ _) _⟩

set_option maxRecDepth 100000 in
set_option maxHeartbeats 1000000 in
theorem get_1 (s : ByteArray) (w : World) (hF : Forms w) (hl : s.size ≤ maxLen) (h : 1 < s.size) (hb0 : (64 : Int) ≤ (s[0].toNat : Int)) (hb1 : (s[0].toNat : Int) < 128) (hn : (64 : Int) ≤ ((s[0].toNat : Int) * (256 : Int) + (s[1].toNat : Int) - (16384 : Int))) :
    Calls Tryz.prog 228 #[.string s] w fun e w' => e = .returned (.tuple #[.int .i64 ((s[0].toNat : Int) * (256 : Int) + (s[1].toNat : Int) - (16384 : Int)), .int .i64 2, .nilIface]) ∧ Below w.heap.size w w' := by
  unfold maxLen at hl
  obtain ⟨c0, c1, c2, c3, c4, c5, hp⟩ := hF
  have hz : ((s.size : Int) == 0) = false := beq_eq_false_iff_ne.2 (by omega)
  have hq : (s[0].toNat : Int) / 64 = 1 := by omega
  have v1 : (s[1].toNat : Int) < 256 := by have := s[1].toNat_lt; omega
  have ho := or_zero (s[0].toNat : Int) (by omega) (by omega)
  have ho1 := or_byte (s[0].toNat : Int) (s[1].toNat : Int) (by omega) (by omega) (by omega) v1
  have hs : ¬ (s.size : Int) < 2 := by omega
  go_enter Tryz.func228, Tryz.ntmps228
  go_wp2
  refine wp_loop_rounds 3 ?_
  rw [rounds_succ]; go_wp2
  rw [rounds_succ]; go_wp2
  rw [rounds_succ]; go_wp2
  go_quiet (fail)
  go_wp2
  go_ret3
  exact ⟨rfl, below_drewN (Below.refl _ _) _⟩

set_option maxRecDepth 100000 in
set_option maxHeartbeats 1000000 in
theorem get_1no (s : ByteArray) (w : World) (hF : Forms w) (hl : s.size ≤ maxLen) (h : 1 < s.size) (hb0 : (64 : Int) ≤ (s[0].toNat : Int)) (hb1 : (s[0].toNat : Int) < 128) (hn : ((s[0].toNat : Int) * (256 : Int) + (s[1].toNat : Int) - (16384 : Int)) < 64) :
    Calls Tryz.prog 228 #[.string s] w fun e w' => e = .returned (.tuple #[.int .i64 0, .int .i64 0, .iface 133 (.int .i64 2)]) ∧ Below w.heap.size w w' := by
  unfold maxLen at hl
  obtain ⟨c0, c1, c2, c3, c4, c5, hp⟩ := hF
  have hz : ((s.size : Int) == 0) = false := beq_eq_false_iff_ne.2 (by omega)
  have hq : (s[0].toNat : Int) / 64 = 1 := by omega
  have v1 : (s[1].toNat : Int) < 256 := by have := s[1].toNat_lt; omega
  have ho := or_zero (s[0].toNat : Int) (by omega) (by omega)
  have ho1 := or_byte (s[0].toNat : Int) (s[1].toNat : Int) (by omega) (by omega) (by omega) v1
  have hs : ¬ (s.size : Int) < 2 := by omega
  go_enter Tryz.func228, Tryz.ntmps228
  go_wp2
  refine wp_loop_rounds 3 ?_
  rw [rounds_succ]; go_wp2
  rw [rounds_succ]; go_wp2
  rw [rounds_succ]; go_wp2
  go_ret3
  exact ⟨rfl, Below.refl _ _⟩

set_option maxRecDepth 100000 in
set_option maxHeartbeats 1000000 in
theorem get_2 (s : ByteArray) (w : World) (hF : Forms w) (hl : s.size ≤ maxLen) (h : 3 < s.size) (hb0 : (128 : Int) ≤ (s[0].toNat : Int)) (hb1 : (s[0].toNat : Int) < 192) (hn : (16384 : Int) ≤ ((((s[0].toNat : Int) * (256 : Int) + (s[1].toNat : Int)) * (256 : Int) + (s[2].toNat : Int)) * (256 : Int) + (s[3].toNat : Int) - (2147483648 : Int))) :
    Calls Tryz.prog 228 #[.string s] w fun e w' => e = .returned (.tuple #[.int .i64 ((((s[0].toNat : Int) * (256 : Int) + (s[1].toNat : Int)) * (256 : Int) + (s[2].toNat : Int)) * (256 : Int) + (s[3].toNat : Int) - (2147483648 : Int)), .int .i64 4, .nilIface]) ∧ Below w.heap.size w w' := by
  unfold maxLen at hl
  obtain ⟨c0, c1, c2, c3, c4, c5, hp⟩ := hF
  have hz : ((s.size : Int) == 0) = false := beq_eq_false_iff_ne.2 (by omega)
  have hq : (s[0].toNat : Int) / 64 = 2 := by omega
  have v1 : (s[1].toNat : Int) < 256 := by have := s[1].toNat_lt; omega
  have v2 : (s[2].toNat : Int) < 256 := by have := s[2].toNat_lt; omega
  have v3 : (s[3].toNat : Int) < 256 := by have := s[3].toNat_lt; omega
  have ho := or_zero (s[0].toNat : Int) (by omega) (by omega)
  have ho1 := or_byte (s[0].toNat : Int) (s[1].toNat : Int) (by omega) (by omega) (by omega) v1
  have ho2 := or_byte ((s[0].toNat : Int) * (256 : Int) + (s[1].toNat : Int)) (s[2].toNat : Int) (by omega) (by omega) (by omega) v2
  have ho3 := or_byte (((s[0].toNat : Int) * (256 : Int) + (s[1].toNat : Int)) * (256 : Int) + (s[2].toNat : Int)) (s[3].toNat : Int) (by omega) (by omega) (by omega) v3
  have hs : ¬ (s.size : Int) < 4 := by omega
  go_enter Tryz.func228, Tryz.ntmps228
  go_wp2
  refine wp_loop_rounds 5 ?_
  rw [rounds_succ]; go_wp2
  rw [rounds_succ]; go_wp2
  rw [rounds_succ]; go_wp2
  rw [rounds_succ]; go_wp2
  rw [rounds_succ]; go_wp2
  go_quiet (fail)
  go_wp2
  go_ret3
  exact ⟨rfl, below_drewN (Below.refl _ _) _⟩

set_option maxRecDepth 100000 in
set_option maxHeartbeats 1000000 in
theorem get_2no (s : ByteArray) (w : World) (hF : Forms w) (hl : s.size ≤ maxLen) (h : 3 < s.size) (hb0 : (128 : Int) ≤ (s[0].toNat : Int)) (hb1 : (s[0].toNat : Int) < 192) (hn : ((((s[0].toNat : Int) * (256 : Int) + (s[1].toNat : Int)) * (256 : Int) + (s[2].toNat : Int)) * (256 : Int) + (s[3].toNat : Int) - (2147483648 : Int)) < 16384) :
    Calls Tryz.prog 228 #[.string s] w fun e w' => e = .returned (.tuple #[.int .i64 0, .int .i64 0, .iface 133 (.int .i64 2)]) ∧ Below w.heap.size w w' := by
  unfold maxLen at hl
  obtain ⟨c0, c1, c2, c3, c4, c5, hp⟩ := hF
  have hz : ((s.size : Int) == 0) = false := beq_eq_false_iff_ne.2 (by omega)
  have hq : (s[0].toNat : Int) / 64 = 2 := by omega
  have v1 : (s[1].toNat : Int) < 256 := by have := s[1].toNat_lt; omega
  have v2 : (s[2].toNat : Int) < 256 := by have := s[2].toNat_lt; omega
  have v3 : (s[3].toNat : Int) < 256 := by have := s[3].toNat_lt; omega
  have ho := or_zero (s[0].toNat : Int) (by omega) (by omega)
  have ho1 := or_byte (s[0].toNat : Int) (s[1].toNat : Int) (by omega) (by omega) (by omega) v1
  have ho2 := or_byte ((s[0].toNat : Int) * (256 : Int) + (s[1].toNat : Int)) (s[2].toNat : Int) (by omega) (by omega) (by omega) v2
  have ho3 := or_byte (((s[0].toNat : Int) * (256 : Int) + (s[1].toNat : Int)) * (256 : Int) + (s[2].toNat : Int)) (s[3].toNat : Int) (by omega) (by omega) (by omega) v3
  have hs : ¬ (s.size : Int) < 4 := by omega
  go_enter Tryz.func228, Tryz.ntmps228
  go_wp2
  refine wp_loop_rounds 5 ?_
  rw [rounds_succ]; go_wp2
  rw [rounds_succ]; go_wp2
  rw [rounds_succ]; go_wp2
  rw [rounds_succ]; go_wp2
  rw [rounds_succ]; go_wp2
  go_ret3
  exact ⟨rfl, Below.refl _ _⟩

end Go.Proofs.YtdokgalidhmbbaaGreatDoor.V
namespace Go.Proofs.YtdokgalidhmbbaaGreatDoor.V
open Go.RowKit Go.Lib

theorem own_below {w w' : World} {B e size n : Nat} {v : Value} {xs : List Value} (h : w.ownsRow B e size v n xs) (hb : Below w.heap.size w w') : w'.ownsRow B e size v n xs := by
  refine ⟨h.1, ?_⟩
  rcases h.2 with hn | ⟨g, cap, cur, rfl, hB, hgg, hr⟩
  · exact .inl hn
  · exact .inr ⟨g, cap, cur, rfl, hB, (hb.block g (Array.getElem?_eq_some_iff.1 hgg).1).trans hgg, hr⟩

theorem str_ints (s : ByteArray) : strOfNums (s.data.toList.map fun b => (b.toNat : Int)) = s := by
  obtain ⟨⟨l⟩⟩ := s
  simp [strOfNums, Function.comp_def]

/-- A row that the call made, turned into a string. -/
theorem own_string {w : World} {B n : Nat} {v : Value} {s : ByteArray} (h : w.ownsRow B 5 1 v n (strCells s)) : (convert 37 9 v).run Tryz.prog w = .ok (.string s) w := by
  have hl : s.size = n := by have := h.1; rw [strCells_length] at this; omega
  rcases h.2 with ⟨rfl, hn⟩ | ⟨g, cap, cur, rfl, _⟩
  · rw [run_convert_bytes_nil w 37 5 Tryz.underlying37 Tryz.underlying5 0 0 9 Tryz.underlying9]
    obtain ⟨⟨l⟩⟩ := s
    have : l = [] := List.eq_nil_of_length_eq_zero (by have : l.length = n := hl; omega)
    subst this
    rfl
  · rw [run_convert_bytes_arg w 37 5 Tryz.underlying37 Tryz.underlying5 g 0 n cap (s.data.toList.map fun b => (b.toNat : Int)) (by simpa using hl) (fun i hi => by
      have hc := h.cells (g := g) rfl i (.int .u8 (((s.data.toList.map fun b => (b.toNat : Int))[i]?).getD 0)) (by
        have hi' : i < s.data.size := by have : s.data.size = n := hl; omega
        simp [strCells, Array.getElem?_eq_getElem hi'])
      rw [Addr.add_lit] at hc
      rw [hc]
      simp [List.getD]) 9 Tryz.underlying9, str_ints]

def allS (zs : List Int) : ByteArray := strOfNums (zs.flatMap nums)
theorem nums_length_le (n : Int) : (nums n).length ≤ 4 := by
  unfold nums
  by_cases a : n < 64
  · simp [a]
  · by_cases b : n < 16384
    · simp [a, b]
    · simp [a, b]
theorem allS_size (zs : List Int) : (allS zs).size ≤ 4 * zs.length := by
  unfold allS
  rw [strOfNums_size]
  induction zs with
  | nil => simp
  | cons z zs ih =>
    have := nums_length_le z
    simp only [List.flatMap_cons, List.length_append, List.length_cons]
    omega
theorem strCells_app (a b : List Int) : strCells (strOfNums (a ++ b)) = strCells (strOfNums a) ++ strCells (strOfNums b) := by simp [strCells, strOfNums]
theorem take_snoc (zs : List Int) (k : Nat) (h : k < zs.length) : zs.take (k + 1) = zs.take k ++ [zs[k]?.getD 0] := by
  rw [List.take_succ_eq_append_getElem h]
  simp [h]
theorem allS_cells (zs : List Int) (k : Nat) (h : k < zs.length) : strCells (allS (zs.take (k + 1))) = strCells (allS (zs.take k)) ++ strCells (strOfNums (nums (zs[k]?.getD 0))) := by
  rw [take_snoc zs k h]
  unfold allS
  rw [List.flatMap_append, strCells_app]
  simp
theorem allS_next (zs : List Int) (k : Nat) (h : k < zs.length) : (allS (zs.take (k + 1))).size = (allS (zs.take k)).size + (strOfNums (nums (zs[k]?.getD 0))).size := by
  rw [← strCells_length, allS_cells zs k h, List.length_append, strCells_length, strCells_length]

theorem info5 : (Tryz.prog.info? 5).map (fun i => (i.zero, i.size, i.bytes)) = some (some (.int .u8 0), 1, 1) := by kernel_rfl

set_option maxRecDepth 100000 in
set_option maxHeartbeats 1000000 in
theorem all_none (a : Option Addr) (cap : Nat) (w : World) :
    Calls Tryz.prog 225 #[.slice a 0 cap] w fun e w' => e = .returned (.tuple #[.string { data := #[] }, .nilIface]) ∧ Below w.heap.size w w' := by
  have hcv := run_convert_bytes_nil (P := Tryz.prog) w 37 5 Tryz.underlying37 Tryz.underlying5 0 0 9 Tryz.underlying9
  go_enter Tryz.func225, Tryz.ntmps225
  go_wp2_with fail
  refine wp_loop_rounds 1 ?_
  rw [rounds_succ]
  go_wp2_with fail
  go_ret2
  exact ⟨rfl, Below.refl _ _⟩

set_option maxRecDepth 100000 in
set_option maxHeartbeats 2000000 in
theorem all_some (b off len cap : Nat) (zs : List Int) (w : World) (hF : Forms w) (hlen : zs.length = len) (h40 : len ≤ 40) (hb : b < w.heap.size)
    (hc : ∀ j, j < len → w.cell? ⟨b, off + j, none⟩ = some (.int .i64 (zs[j]?.getD 0))) :
    Calls Tryz.prog 225 #[.slice (some ⟨b, off, none⟩) len cap] w fun e w' =>
      ((zs.all mayB = true ∧ e = .returned (.tuple #[.string (allS zs), .nilIface])) ∨ (zs.all mayB = false ∧ e = .returned (.tuple #[.string { data := #[] }, .iface 133 (.int .i64 1)]))) ∧ Below w.heap.size w w' := by
  obtain ⟨i0, hi, hz0, hz1, hz2⟩ := info_parts info5
  have h40' : ¬ (40 : Int) < (len : Int) := by omega
  have HL : Hid (zs.length = len) := hlen
  clear hlen
  go_enter Tryz.func225, Tryz.ntmps225
  go_wp2_with fail
  go_loopw [4, 15] (fun t i wr => ∃ k : Nat, k ≤ len ∧ i = .int .i64 k ∧ wr.ownsRow w.heap.size 5 1 t (allS (zs.take k)).size (strCells (allS (zs.take k))) ∧ (zs.take k).all mayB = true ∧ Below w.heap.size w wr) (fun _ i _ => len - (intOf i).toNat)
  case atStart => exact ⟨0, Nat.zero_le _, rfl, World.ownsRow_nil _ _ _ _, rfl, Below.refl _ _⟩
  case round =>
    obtain ⟨k, hk, rfl, hown, hall, hB⟩ := hrel
    by_cases hlt : k < len
    · have hcx : wr.cell? ⟨b, off + k, none⟩ = some (.int .i64 (zs[k]?.getD 0)) := (hB.cell (p := ⟨b, off + k, none⟩) hb).trans (hc k hlt)
      have hF1 := hF.below hB
      have g1 : (k : Int) < (len : Int) := by omega
      have hkl : k < zs.length := by have := HL.out; omega
      have hm : Hid (zs[k]?.getD 0 ∈ zs) := by
        show zs[k]?.getD 0 ∈ zs
        simp [hkl]
      have hsz1 : (allS (zs.take k)).size ≤ 160 := by
        have := allS_size (zs.take k)
        rw [List.length_take] at this
        omega
      have hsz2 : (strOfNums (nums (zs[k]?.getD 0))).size ≤ 4 := by rw [strOfNums_size]; exact nums_length_le _
      have HC : Hid (strCells (allS (zs.take (k + 1))) = strCells (allS (zs.take k)) ++ strCells (strOfNums (nums (zs[k]?.getD 0)))) := allS_cells zs k hkl
      have HN : Hid ((allS (zs.take (k + 1))).size = (allS (zs.take k)).size + (strOfNums (nums (zs[k]?.getD 0))).size) := allS_next zs k hkl
      have HA : Hid (mayB (zs[k]?.getD 0) = true → (zs.take (k + 1)).all mayB = true) := by
        show mayB (zs[k]?.getD 0) = true → (zs.take (k + 1)).all mayB = true
        intro hz
        rw [take_snoc zs k hkl, List.all_append, hall]
        simp [hz]
      clear hkl hall hc
      generalize zs[k]?.getD 0 = z at *
      cases hz : mayB z with
      | false =>
        go_wp2_with fail
        refine (put_no _ _ hF1 hz).mono ?_
        rintro e w1 ⟨rfl, hb1⟩
        have hB1 := hB.trans (hb1.mono hB.size)
        go_wp2_with fail
        go_ret2
        refine ⟨.inr ⟨?_, rfl⟩, hB1⟩
        cases h : zs.all mayB with
        | false => rfl
        | true => have := List.all_eq_true.1 h _ hm.out; rw [hz] at this; cases this
      | true =>
        go_wp2_with fail
        refine (put_yes _ _ hF1 hz).mono ?_
        rintro e w1 ⟨rfl, hb1⟩
        have hB1 := hB.trans (hb1.mono hB.size)
        have hown1 := own_below hown hb1
        have HA1 : Hid ((zs.take (k + 1)).all mayB = true) := HA.out hz
        clear hz HA
        have hbs := hB1.size
        generalize strOfNums (nums z) = sz at *
        generalize allS (zs.take k) = so at *
        go_wp2_with (at_builtin; refine wpList_append_own_string _ rfl _ _ 37 9 rfl w.heap.size 5 i0 Tryz.underlying37 Tryz.underlying9 hi hz0 hz1 hz2 _ _ _ rfl hown1 _ rfl (by unfold maxLen; omega) (by omega) hbs ?_; intro v' w2 hown2 hg2 _)
        have hg3 : w1.grownBy w2 u4.ownBlock := hg2
        have hB2 : Below w.heap.size w w2 := hB1.grown hg3 hbs (fun j e => (hown1.lt j e).1)
        exact ⟨⟨k + 1, by omega, by go_num, by rw [HN.out, HC.out]; exact hown2, HA1.out, hB2⟩, by simp [intOf]; omega⟩
    · obtain rfl : k = len := by omega
      have hcv := own_string hown
      have e1 : zs.take k = zs := List.take_of_length_le (by have := HL.out; omega)
      rw [e1] at hcv hall
      clear hown e1
      go_wp2_with fail
      go_ret2
      exact ⟨.inl ⟨hall, rfl⟩, hB⟩


def ints (s : ByteArray) : List Int := s.data.toList.map fun b => (b.toNat : Int)

/-- The number that bytes begin with, and how many these are. -/
def getI (l : List Int) : Option (Int × Int) :=
  match l with
  | [] => none
  | b0 :: r =>
    if b0 < 64 then some (b0, 1)
    else if b0 < 128 then
      match r with
      | [] => none
      | b1 :: _ => if b0 * 256 + b1 - 16384 < 64 then none else some (b0 * 256 + b1 - 16384, 2)
    else if b0 < 192 then
      match r with
      | b1 :: b2 :: b3 :: _ => if ((b0 * 256 + b1) * 256 + b2) * 256 + b3 - 2147483648 < 16384 then none else some (((b0 * 256 + b1) * 256 + b2) * 256 + b3 - 2147483648, 4)
      | _ => none
    else none

def getV : Option (Int × Int) → Value
  | none => .tuple #[.int .i64 0, .int .i64 0, .iface 133 (.int .i64 2)]
  | some x => .tuple #[.int .i64 x.1, .int .i64 x.2, .nilIface]

set_option maxHeartbeats 1000000 in
theorem get_all (s : ByteArray) (w : World) (hF : Forms w) (hl : s.size ≤ maxLen) :
    Calls Tryz.prog 228 #[.string s] w fun e w' => e = .returned (getV (getI (ints s))) ∧ Below w.heap.size w w' := by
  obtain ⟨⟨l⟩⟩ := s
  match l, hl with
  | [], hl => exact get_empty _ w hF hl rfl
  | b0 :: r, hl =>
    have hp : 0 < (⟨⟨b0 :: r⟩⟩ : ByteArray).size := Nat.succ_pos _
    by_cases a0 : (b0.toNat : Int) < 64
    · have e : getI (ints ⟨⟨b0 :: r⟩⟩) = some ((b0.toNat : Int), 1) := by simp [ints, getI, a0]
      rw [e]
      exact (get_0 ⟨⟨b0 :: r⟩⟩ w hF hl hp a0).mono fun _ _ ⟨he, hb⟩ => ⟨he, hb⟩
    · by_cases a1 : (b0.toNat : Int) < 128
      · match r, hl, hp with
        | [], hl, hp =>
          have e : getI (ints ⟨⟨[b0]⟩⟩) = none := by simp [ints, getI, a0, a1]
          rw [e]
          exact (get_b1short ⟨⟨[b0]⟩⟩ w hF hl hp (Nat.lt_succ_self 1) (show (64 : Int) ≤ (b0.toNat : Int) by omega) a1).mono fun _ _ ⟨he, hb⟩ => ⟨he, hb⟩
        | b1 :: r, hl, hp =>
          have hp1 : 1 < (⟨⟨b0 :: b1 :: r⟩⟩ : ByteArray).size := Nat.succ_lt_succ (Nat.succ_pos _)
          by_cases c : (b0.toNat : Int) * 256 + (b1.toNat : Int) - 16384 < 64
          · have e : getI (ints ⟨⟨b0 :: b1 :: r⟩⟩) = none := by simp [ints, getI, a0, a1, c]
            rw [e]
            exact (get_1no ⟨⟨b0 :: b1 :: r⟩⟩ w hF hl hp1 (show (64 : Int) ≤ (b0.toNat : Int) by omega) a1 c).mono fun _ _ ⟨he, hb⟩ => ⟨he, hb⟩
          · have e : getI (ints ⟨⟨b0 :: b1 :: r⟩⟩) = some ((b0.toNat : Int) * 256 + (b1.toNat : Int) - 16384, 2) := by simp [ints, getI, a0, a1, c]
            rw [e]
            exact (get_1 ⟨⟨b0 :: b1 :: r⟩⟩ w hF hl hp1 (show (64 : Int) ≤ (b0.toNat : Int) by omega) a1 (show (64 : Int) ≤ (b0.toNat : Int) * 256 + (b1.toNat : Int) - 16384 by omega)).mono fun _ _ ⟨he, hb⟩ => ⟨he, hb⟩
      · by_cases a2 : (b0.toNat : Int) < 192
        · match r, hl, hp with
          | b1 :: b2 :: b3 :: r, hl, hp =>
            have hp3 : 3 < (⟨⟨b0 :: b1 :: b2 :: b3 :: r⟩⟩ : ByteArray).size := Nat.succ_lt_succ (Nat.succ_lt_succ (Nat.succ_lt_succ (Nat.succ_pos _)))
            by_cases c : (((b0.toNat : Int) * 256 + (b1.toNat : Int)) * 256 + (b2.toNat : Int)) * 256 + (b3.toNat : Int) - 2147483648 < 16384
            · have e : getI (ints ⟨⟨b0 :: b1 :: b2 :: b3 :: r⟩⟩) = none := by simp [ints, getI, a0, a1, a2, c]
              rw [e]
              exact (get_2no ⟨⟨b0 :: b1 :: b2 :: b3 :: r⟩⟩ w hF hl hp3 (show (128 : Int) ≤ (b0.toNat : Int) by omega) a2 c).mono fun _ _ ⟨he, hb⟩ => ⟨he, hb⟩
            · have e : getI (ints ⟨⟨b0 :: b1 :: b2 :: b3 :: r⟩⟩) = some ((((b0.toNat : Int) * 256 + (b1.toNat : Int)) * 256 + (b2.toNat : Int)) * 256 + (b3.toNat : Int) - 2147483648, 4) := by simp [ints, getI, a0, a1, a2, c]
              rw [e]
              exact (get_2 ⟨⟨b0 :: b1 :: b2 :: b3 :: r⟩⟩ w hF hl hp3 (show (128 : Int) ≤ (b0.toNat : Int) by omega) a2 (show (16384 : Int) ≤ (((b0.toNat : Int) * 256 + (b1.toNat : Int)) * 256 + (b2.toNat : Int)) * 256 + (b3.toNat : Int) - 2147483648 by omega)).mono fun _ _ ⟨he, hb⟩ => ⟨he, hb⟩
          | [], hl, hp =>
            have e : getI (ints ⟨⟨[b0]⟩⟩) = none := by simp [ints, getI, a0, a1]
            rw [e]
            exact (get_b2short ⟨⟨[b0]⟩⟩ w hF hl hp (show 1 < 4 by decide) (show (128 : Int) ≤ (b0.toNat : Int) by omega) a2).mono fun _ _ ⟨he, hb⟩ => ⟨he, hb⟩
          | [b1], hl, hp =>
            have e : getI (ints ⟨⟨[b0, b1]⟩⟩) = none := by simp [ints, getI, a0, a1]
            rw [e]
            exact (get_b2short ⟨⟨[b0, b1]⟩⟩ w hF hl hp (show 2 < 4 by decide) (show (128 : Int) ≤ (b0.toNat : Int) by omega) a2).mono fun _ _ ⟨he, hb⟩ => ⟨he, hb⟩
          | [b1, b2], hl, hp =>
            have e : getI (ints ⟨⟨[b0, b1, b2]⟩⟩) = none := by simp [ints, getI, a0, a1]
            rw [e]
            exact (get_b2short ⟨⟨[b0, b1, b2]⟩⟩ w hF hl hp (show 3 < 4 by decide) (show (128 : Int) ≤ (b0.toNat : Int) by omega) a2).mono fun _ _ ⟨he, hb⟩ => ⟨he, hb⟩
        · have e : getI (ints ⟨⟨b0 :: r⟩⟩) = none := by simp [ints, getI, a0, a1, a2]
          rw [e]
          exact (get_b3 ⟨⟨b0 :: r⟩⟩ w hF hl hp (show (192 : Int) ≤ (b0.toNat : Int) by omega)).mono fun _ _ ⟨he, hb⟩ => ⟨he, hb⟩

theorem nums_bd (n : Int) (h : mayB n = true) : ∀ z ∈ nums n, 0 ≤ z ∧ z < 256 := by
  obtain ⟨h0, h1⟩ := mayB_yes h
  unfold nums
  by_cases a : n < 64
  · simp [a]; omega
  · by_cases b : n < 16384
    · simp [a, b]; omega
    · simp [a, b]; omega
theorem getI_back (n : Int) (h : mayB n = true) (rest : List Int) : getI (nums n ++ rest) = some (n, lng n) := by
  obtain ⟨h0, h1⟩ := mayB_yes h
  unfold nums lng
  by_cases a : n < 64
  · simp [a, getI]
  · by_cases b : n < 16384
    · have c1 : ¬ 64 + n / 256 < 64 := by omega
      have c2 : 64 + n / 256 < 128 := by omega
      have c3 : (64 + n / 256) * 256 + n % 256 - 16384 = n := by omega
      simp [a, b, getI, c1, c2, c3]
    · have c1 : ¬ 128 + n / 16777216 < 64 := by omega
      have c2 : ¬ 128 + n / 16777216 < 128 := by omega
      have c3 : 128 + n / 16777216 < 192 := by omega
      have c4 : (((128 + n / 16777216) * 256 + n / 65536 % 256) * 256 + n / 256 % 256) * 256 + n % 256 - 2147483648 = n := by omega
      simp [a, b, getI, c1, c2, c3, c4]
theorem ints_nums (l : List Int) (h : ∀ z ∈ l, 0 ≤ z ∧ z < 256) : ints (strOfNums l) = l := by
  unfold ints strOfNums
  simp only [List.map_map]
  conv => rhs; rw [← List.map_id l]
  apply List.map_congr_left
  intro z hz
  have := h z hz
  simp
  omega
theorem ints_app (s t : ByteArray) : ints (s ++ t) = ints s ++ ints t := by
  simp [ints]


theorem conv_new (xs : List Int) (w : World) (cs : Array Value) (hcs : cs = (xs.map (Value.int .u8)).toArray) :
    (convert 37 9 (.slice (some ⟨w.heap.size, 0, none⟩) xs.length xs.length)).run Tryz.prog (w.alloc (.cells cs 5)) = .ok (.string (strOfNums xs)) (w.alloc (.cells cs 5)) := by
  subst hcs
  refine run_convert_bytes_arg (w.alloc (.cells (xs.map (Value.int .u8)).toArray 5)) 37 5 Tryz.underlying37 Tryz.underlying5 w.heap.size 0 xs.length xs.length xs rfl (fun i hi => ?_) 9 Tryz.underlying9
  have h : Byt (w.alloc (.cells (xs.map (Value.int .u8)).toArray 5)) w.heap.size xs := World.alloc_heap_new w _
  rw [Nat.zero_add, h.cell i hi]
  simp [List.getD]

end Go.Proofs.YtdokgalidhmbbaaGreatDoor.V
