/- What bitsOf and Long answer, where the table of forms holds what the program's text lays. -/
import Derived.Test.YtjpdembofiadbaaDoorChecked
import Derived.WalkKit
import Derived.WalkSpells
import Derived.WalkLawsBesides
import Derived.LoopN
import Derived.Outline
import Derived.KernelRfl
namespace Go.Proofs.YtjpdembofiadbaaDoor.V
open Go.RowKit
set_option linter.unusedVariables false
set_option linter.unusedSimpArgs false

structure Forms (w : World) : Prop where
  c0 : w.cell? ⟨2, 0, none⟩ = some (.int .i64 1)
  c1 : w.cell? ⟨2, 1, none⟩ = some (.int .i64 64)
  c2 : w.cell? ⟨2, 2, none⟩ = some (.int .i64 2)
  c3 : w.cell? ⟨2, 3, none⟩ = some (.int .i64 16384)
  c4 : w.cell? ⟨2, 4, none⟩ = some (.int .i64 4)
  c5 : w.cell? ⟨2, 5, none⟩ = some (.int .i64 1073741824)
  pos : 2 < w.heap.size

theorem Forms.below {w w' : World} (h : Forms w) (hb : Below w.heap.size w w') : Forms w' :=
  ⟨(hb.cell (p := ⟨2, 0, none⟩) h.pos).trans h.c0, (hb.cell (p := ⟨2, 1, none⟩) h.pos).trans h.c1, (hb.cell (p := ⟨2, 2, none⟩) h.pos).trans h.c2,
   (hb.cell (p := ⟨2, 3, none⟩) h.pos).trans h.c3, (hb.cell (p := ⟨2, 4, none⟩) h.pos).trans h.c4, (hb.cell (p := ⟨2, 5, none⟩) h.pos).trans h.c5, Nat.lt_of_lt_of_le h.pos hb.size⟩

theorem idx0 (w : World) : (Instr.index 138 (.agg #[.int .i64 1, .int .i64 64, .int .i64 2, .int .i64 16384, .int .i64 4, .int .i64 1073741824]) (.int .i64 0)).run Tryd.prog w = .ok (.agg #[.int .i64 1, .int .i64 64]) w := by kernel_rfl
theorem idx1 (w : World) : (Instr.index 138 (.agg #[.int .i64 1, .int .i64 64, .int .i64 2, .int .i64 16384, .int .i64 4, .int .i64 1073741824]) (.int .i64 1)).run Tryd.prog w = .ok (.agg #[.int .i64 2, .int .i64 16384]) w := by kernel_rfl
theorem idx2 (w : World) : (Instr.index 138 (.agg #[.int .i64 1, .int .i64 64, .int .i64 2, .int .i64 16384, .int .i64 4, .int .i64 1073741824]) (.int .i64 2)).run Tryd.prog w = .ok (.agg #[.int .i64 4, .int .i64 1073741824]) w := by kernel_rfl

set_option maxRecDepth 100000 in
set_option maxHeartbeats 1000000 in
theorem bits_neg (n : Int) (w : World) (h : n < 0) :
    Calls Tryd.prog 77 #[.int .i64 n] w fun e w' => e = .returned (.tuple #[.int .i64 0, .iface 48 (.int .i64 1)]) ∧ Below w.heap.size w w' := by
  go_enter Tryd.func77, Tryd.ntmps77
  go_wp2
  go_ret2
  exact ⟨rfl, Below.refl _ _⟩

set_option maxRecDepth 100000 in
set_option maxHeartbeats 1000000 in
theorem bits_0 (n : Int) (w : World) (hF : Forms w) (h0 : 0 ≤ n) (h1 : n < 64) :
    Calls Tryd.prog 77 #[.int .i64 n] w fun e w' => e = .returned (.tuple #[.int .i64 0, .nilIface]) ∧ Below w.heap.size w w' := by
  obtain ⟨c0, c1, c2, c3, c4, c5, hp⟩ := hF
  have i0 := idx0
  have i1 := idx1
  have i2 := idx2
  go_enter Tryd.func77, Tryd.ntmps77
  go_wp2
  refine wp_loop_rounds 4 ?_
  rw [rounds_succ]; go_wp2
  go_ret2
  exact ⟨rfl, ((Below.refl _ _).alloc (Nat.le_refl _) _)⟩

set_option maxRecDepth 100000 in
set_option maxHeartbeats 1000000 in
theorem bits_1 (n : Int) (w : World) (hF : Forms w) (h0 : 64 ≤ n) (h1 : n < 16384) :
    Calls Tryd.prog 77 #[.int .i64 n] w fun e w' => e = .returned (.tuple #[.int .i64 1, .nilIface]) ∧ Below w.heap.size w w' := by
  obtain ⟨c0, c1, c2, c3, c4, c5, hp⟩ := hF
  have i0 := idx0
  have i1 := idx1
  have i2 := idx2
  go_enter Tryd.func77, Tryd.ntmps77
  go_wp2
  refine wp_loop_rounds 4 ?_
  rw [rounds_succ]; go_wp2
  rw [rounds_succ]; go_wp2
  go_ret2
  exact ⟨rfl, (((Below.refl _ _).alloc (Nat.le_refl _) _).alloc (by simp <;> omega) _)⟩

set_option maxRecDepth 100000 in
set_option maxHeartbeats 1000000 in
theorem bits_2 (n : Int) (w : World) (hF : Forms w) (h0 : 16384 ≤ n) (h1 : n < 1073741824) :
    Calls Tryd.prog 77 #[.int .i64 n] w fun e w' => e = .returned (.tuple #[.int .i64 2, .nilIface]) ∧ Below w.heap.size w w' := by
  obtain ⟨c0, c1, c2, c3, c4, c5, hp⟩ := hF
  have i0 := idx0
  have i1 := idx1
  have i2 := idx2
  go_enter Tryd.func77, Tryd.ntmps77
  go_wp2
  refine wp_loop_rounds 4 ?_
  rw [rounds_succ]; go_wp2
  rw [rounds_succ]; go_wp2
  rw [rounds_succ]; go_wp2
  go_ret2
  exact ⟨rfl, ((((Below.refl _ _).alloc (Nat.le_refl _) _).alloc (by simp <;> omega) _).alloc (by simp <;> omega) _)⟩

set_option maxRecDepth 100000 in
set_option maxHeartbeats 1000000 in
theorem bits_big (n : Int) (w : World) (hF : Forms w) (h0 : 1073741824 ≤ n) :
    Calls Tryd.prog 77 #[.int .i64 n] w fun e w' => e = .returned (.tuple #[.int .i64 0, .iface 48 (.int .i64 1)]) ∧ Below w.heap.size w w' := by
  obtain ⟨c0, c1, c2, c3, c4, c5, hp⟩ := hF
  have i0 := idx0
  have i1 := idx1
  have i2 := idx2
  go_enter Tryd.func77, Tryd.ntmps77
  go_wp2
  refine wp_loop_rounds 4 ?_
  rw [rounds_succ]; go_wp2
  rw [rounds_succ]; go_wp2
  rw [rounds_succ]; go_wp2
  rw [rounds_succ]; go_wp2
  go_ret2
  exact ⟨rfl, ((((Below.refl _ _).alloc (Nat.le_refl _) _).alloc (by simp <;> omega) _).alloc (by simp <;> omega) _)⟩

end Go.Proofs.YtjpdembofiadbaaDoor.V
