/- A slice of ranges as it lies in memory; what isNumber, touches and Check answer. -/
import Derived.Test.YtegelodkopommaaDoorM
import Derived.Test.YtegelodkopommaaDoorChecked
import Derived.WalkKit
import Derived.WalkSpells
import Derived.WalkLawsBesides
import Derived.LoopN
import Derived.Outline
import Derived.BigQuiet
import Derived.Deep.RegionWith
import Derived.Deep.RegionHeld3
import Derived.Shelf.SlSortCmp.QuietGrown
import Derived.KernelRfl
namespace Go.Proofs.YtegelodkopommaaDoor
open Go.RowKit Go.Lib Go.Sort
set_option linter.unusedVariables false
set_option linter.unusedSimpArgs false

def at' (zs : List R) (j : Nat) : R := zs[j]?.getD (0, 0)
def Cells (w : World) (b off : Nat) (zs : List R) : Prop := ∀ j, j < zs.length → w.cell? ⟨b, off + j * 2, none⟩ = some (.int .i64 (at' zs j).1) ∧ w.cell? ⟨b, off + j * 2 + 1, none⟩ = some (.int .i64 (at' zs j).2)
/-- The slice's value v holds the ranges zs in the world w. -/
def Row (w : World) (v : Value) (zs : List R) : Prop := ∃ ao c, v = .slice ao zs.length c ∧ zs.length ≤ 9223372036854775807 ∧ (ao = none → c = 0) ∧ (zs = [] ∨ ∃ b off, ao = some ⟨b, off, none⟩ ∧ b < w.heap.size ∧ Cells w b off zs)
theorem Cells.below {w w' : World} {b off : Nat} {zs : List R} (h : Cells w b off zs) (hb : b < w.heap.size) (bel : Below w.heap.size w w') : Cells w' b off zs := fun j hj =>
  ⟨(bel.cell (p := ⟨b, off + j * 2, none⟩) hb).trans (h j hj).1, (bel.cell (p := ⟨b, off + j * 2 + 1, none⟩) hb).trans (h j hj).2⟩
theorem Row.below {w w' : World} {v : Value} {zs : List R} (h : Row w v zs) (bel : Below w.heap.size w w') : Row w' v zs := by
  obtain ⟨ao, c, rfl, hl, hn, h⟩ := h
  refine ⟨ao, c, rfl, hl, hn, ?_⟩
  rcases h with h | ⟨b, off, rfl, hb, hc⟩
  · exact .inl h
  · exact .inr ⟨b, off, rfl, Nat.lt_of_lt_of_le hb bel.size, hc.below hb bel⟩
theorem Row.nil (w : World) : Row w (.slice none 0 0) [] := ⟨none, 0, rfl, by simp, fun _ => rfl, .inl rfl⟩
theorem at_mem {zs : List R} {j : Nat} (h : j < zs.length) : at' zs j ∈ zs := by simp [at', h]
theorem drop_at {zs : List R} {j : Nat} (h : j < zs.length) : zs.drop j = at' zs j :: zs.drop (j + 1) := by
  rw [List.drop_eq_getElem_cons h]; simp [at', h]
theorem below_drewN {B : Nat} {a w : World} (h : Below B a w) (q : Nat) : Below B a (w.drewN q) := ⟨h.os, h.tape, h.output, h.size, h.block⟩
theorem below2 {B : Nat} {w w1 w2 : World} (h : Below B w w1) (hB : B ≤ w1.heap.size) (h2 : Below w1.heap.size w1 w2) : Below B w w2 := h.trans (h2.mono hB)

set_option maxRecDepth 100000 in
set_option maxHeartbeats 2000000 in
theorem isNumber_calls (n : Int) (w : World) : Calls Tryd.prog 27 #[.int .i64 n] w fun e w' => e = .returned (.bool (isN n)) ∧ w' = w := by
  by_cases h1 : 0 ≤ n
  · by_cases h2 : n ≤ 1073741823
    · have e : isN n = true := by simp [isN, h1, h2]
      go_enter Tryd.func27, Tryd.ntmps27
      go_wp2
      go_ret
      exact ⟨by simp [isN, h1, h2], rfl⟩
    · go_enter Tryd.func27, Tryd.ntmps27
      go_wp2
      go_ret
      exact ⟨by simp [isN, h1, h2], rfl⟩
  · go_enter Tryd.func27, Tryd.ntmps27
    go_wp2
    go_ret
    exact ⟨by rw [(isN_no n).2 (by omega)]; rfl, rfl⟩

set_option maxRecDepth 100000 in
set_option maxHeartbeats 2000000 in
theorem touches_grow (a b c d : Int) (w : World) (h0 : 0 ≤ b) (h1 : b ≤ 1073741823) : Calls Tryd.prog 34 #[.agg #[.int .i64 a, .int .i64 b], .agg #[.int .i64 c, .int .i64 d]] w fun e w' => e = .returned (.bool (decide (c ≤ b + 1))) ∧ ∃ q os', w' = grow (w.drewN q) os' := by
  go_enter Tryd.func34, Tryd.ntmps34
  go_wp2
  go_ret
  exact ⟨by simp <;> omega, 0, _, by rw [alloc_eq_grow, alloc_eq_grow, grow_grow]; rfl⟩
theorem below_grow {B : Nat} {a w : World} (h : Below B a w) (hB : B ≤ w.heap.size) (os : Array Obj) : Below B a (grow w os) := by
  refine ⟨h.os, h.tape, h.output, ?_, fun k hk => ?_⟩
  · have := h.size; show _ ≤ (w.heap ++ os).size; simp; omega
  · rw [← h.block k hk]; show (w.heap ++ os)[k]? = _; rw [Array.getElem?_append_left (by omega)]
theorem mixed : Tryd.prog.follows .mixedOrders = true := by kernel_rfl
end Go.Proofs.YtegelodkopommaaDoor
