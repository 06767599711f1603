/- What Put answers: the bytes of a number that may be, and the error of one that may not. -/
import Derived.Test.YtegelodkopommaaDoorVB
import Derived.RangeFuncNested
import Derived.Laws.BytesArg
namespace Go.Proofs.YtegelodkopommaaDoor.V
open Go.RowKit Go.Shelf
set_option linter.unusedVariables false
attribute [local go_sem] Oper.semAt_some

theorem mk1 (w : World) : (Instr.makeSlice 44 (.int .i64 1) (.int .i64 1)).run Tryd.prog w = .ok (.slice (some ⟨w.heap.size, 0, none⟩) 1 1) (w.alloc (.cells #[.int .u8 0] 5)) := by kernel_rfl
theorem mk2 (w : World) : (Instr.makeSlice 44 (.int .i64 2) (.int .i64 2)).run Tryd.prog w = .ok (.slice (some ⟨w.heap.size, 0, none⟩) 2 2) (w.alloc (.cells #[.int .u8 0, .int .u8 0] 5)) := by kernel_rfl
theorem mk4 (w : World) : (Instr.makeSlice 44 (.int .i64 4) (.int .i64 4)).run Tryd.prog w = .ok (.slice (some ⟨w.heap.size, 0, none⟩) 4 4) (w.alloc (.cells #[.int .u8 0, .int .u8 0, .int .u8 0, .int .u8 0] 5)) := by kernel_rfl

/-- Block B holds just these bytes. -/
def Byt (W : World) (B : Nat) (cs : List Int) : Prop := W.heap[B]? = some (.cells (cs.map (Value.int .u8)).toArray 5 (0, 0))
theorem Byt.lt {W : World} {B : Nat} {cs : List Int} (h : Byt W B cs) : B < W.heap.size := (Array.getElem?_eq_some_iff.1 h).1
theorem Byt.cell {W : World} {B : Nat} {cs : List Int} (h : Byt W B cs) (j : Nat) (hj : j < cs.length) : W.cell? ⟨B, j, none⟩ = some (.int .u8 (cs[j]?.getD 0)) := by
  simp [World.cell?, show W.heap[B]? = _ from h, hj]
theorem Byt.frozen {W : World} {B : Nat} {cs : List Int} (h : Byt W B cs) (j : Nat) : W.frozen? ⟨B, j, none⟩ = false := by
  simp [World.frozen?, show W.heap[B]? = _ from h]
theorem Byt.kept {W W' : World} {row : Option Nat} {B : Nat} {cs : List Int} (h : Byt W B cs) (hg : W.grownBy W' row) (hne : some B ≠ row) : Byt W' B cs := (hg.block B h.lt hne).trans h
theorem Byt.alloc {W : World} {B : Nat} {cs : List Int} (h : Byt W B cs) (o : Obj) : Byt (W.alloc o) B cs := h.kept (World.grownBy_alloc W o none) (by simp)
theorem Byt.set {W : World} {B : Nat} {cs : List Int} (h : Byt W B cs) (j : Nat) (v : Int) : Byt (W.setCell ⟨B, j, none⟩ (.int .u8 v)) B (cs.set j v) := by
  obtain ⟨hlt, hk⟩ := Array.getElem?_eq_some_iff.1 h
  show (W.heap.modify B _)[B]? = _
  rw [Array.getElem?_eq_getElem (by rw [Array.size_modify]; exact hlt), Array.getElem_modify_self, hk]
  simp [List.map_set]
theorem Byt.other {W : World} {B B' : Nat} {cs : List Int} (h : Byt W B cs) (hne : B ≠ B') (u : Value) : Byt (W.setCell ⟨B', 0, none⟩ u) B cs := h.kept (grownBy_setCell' W B' u) (fun e => hne (by cases e; rfl))
theorem Byt.own {β : Type} (B : Nat) (f : β → List Int) : Own (fun s W => Byt W B (f s)) := fun s X Y row hs hg hrow =>
  hs.kept hg (fun e' => by obtain ⟨o, ho, hc⟩ := hrow B e'.symm; rw [show X.heap[B]? = _ from hs] at ho; cases ho; cases hc)
theorem Boxed.otherRow {W : World} {B B' j : Nat} {t : TypeId} {v : Value} (h : Boxed W B t v) (hne : B ≠ B') (u : Value) : Boxed (W.setCell ⟨B', j, none⟩ u) B t v :=
  (Below.heap_setCell _ _ _ B hne).trans h

/-- One round: the last eight bits into place i; the rest. -/
def step (s : Int × List Int) (i : Nat) : Int × List Int := (s.1 / 256, s.2.set i (s.1 % 256))
def after (r : Int) (cs : List Int) (is : List Nat) : Int × List Int := is.foldl step (r, cs)
theorem after_snoc (r : Int) (cs : List Int) (is : List Nat) (i : Nat) : after r cs (is ++ [i]) = step (after r cs is) i := by simp [after]
theorem after_len (r : Int) (cs : List Int) (is : List Nat) : (after r cs is).2.length = cs.length := by
  unfold after
  induction is generalizing r cs with
  | nil => rfl
  | cons i is ih => simpa [step] using ih (r / 256) (cs.set i (r % 256))
theorem after_bd (r : Int) (cs : List Int) (is : List Nat) (h0 : 0 ≤ r) (h1 : r < 4294967296) : 0 ≤ (after r cs is).1 ∧ (after r cs is).1 < 4294967296 := by
  unfold after
  induction is generalizing r cs with
  | nil => exact ⟨h0, h1⟩
  | cons i is ih => exact ih (r / 256) (cs.set i (r % 256)) (by omega) (by omega)

theorem KpRow.put {w : World} {len cap Bs b : Nat} (W : World) (l : Nat) (o o' : Obj) (_ : w.heap.size ≤ l) (h : W.heap[l]? = some o) (hc : o.isCells = false) (_ : o.isWalk = false) : KpRow len cap Bs b W (W.putObj l o') := fun hR =>
  ⟨cell_kept hR.head (grownBy_putObj' W l o') (fun r e => by cases e; exact ⟨o, h, hc⟩), fun j hj => by
    obtain ⟨v, hv⟩ := hR.byte j hj
    exact ⟨v, cell_kept hv (grownBy_putObj' W l o') (fun r e => by cases e; exact ⟨o, h, hc⟩)⟩⟩

/-- The bytes of a number that may be. -/
def nums (n : Int) : List Int := if n < 64 then [n] else if n < 16384 then [64 + n / 256, n % 256] else [128 + n / 16777216, n / 65536 % 256, n / 256 % 256, n % 256]
theorem nums_0 (n : Int) (h0 : 0 ≤ n) (h1 : n < 64) : (after n [0] (downto 1 1)).2 = nums n := by
  simp [after, downto, step, List.range_succ, nums, h1]; omega
theorem nums_1 (n : Int) (h0 : 64 ≤ n) (h1 : n < 16384) : (after (n + 16384) [0, 0] (downto 2 2)).2 = nums n := by
  have h2 : ¬ n < 64 := by omega
  simp [after, downto, step, List.range_succ, nums, h1, h2]; omega
theorem nums_2 (n : Int) (h0 : 16384 ≤ n) (h1 : n < 1073741824) : (after (n + 2147483648) [0, 0, 0, 0] (downto 4 4)).2 = nums n := by
  have h2 : ¬ n < 64 := by omega
  have h3 : ¬ n < 16384 := by omega
  simp [after, downto, step, List.range_succ, nums, h2, h3]; omega

end Go.Proofs.YtegelodkopommaaDoor.V
