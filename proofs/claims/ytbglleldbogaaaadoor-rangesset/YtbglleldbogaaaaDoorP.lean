/- What the law RangesTell asks, step by step: the same fault, the same ranges. -/
import Derived.Test.YtbglleldbogaaaaDoorV
import Derived.Test.YtbglleldbogaaaaDoorK
namespace Go.Proofs.YtbglleldbogaaaaDoor
open Go.RowKit Go.Lib Go.Sort Go.Shelf
set_option linter.unusedVariables false
set_option linter.unusedSimpArgs false

theorem row_len {w : World} {a : Option Addr} {l c : Nat} {zs : List R} (h : Row w (.slice a l c) zs) : zs.length = l := by
  obtain ⟨ao, c', e, _⟩ := h
  injection e with _ e _
  exact e.symm
theorem row_bound {w : World} {v : Value} {zs : List R} (h : Row w v zs) : zs.length ≤ 9223372036854775807 := by
  obtain ⟨_, _, _, hl, _⟩ := h
  exact hl
theorem row_cells {w : World} {a : Option Addr} {l c k : Nat} {zs : List R} (h : Row w (.slice a l c) zs) (hk : k < zs.length) : ∃ b off, a = some ⟨b, off, none⟩ ∧ b < w.heap.size ∧ Cells w b off zs := by
  obtain ⟨ao, c', e, _, _, hz⟩ := h
  injection e with e _ _
  subst e
  rcases hz with hz | hz
  · rw [hz] at hk; simp at hk
  · exact hz
theorem same_0 (w : World) : Calls Tryd.prog 6 #[.nilIface, .int .i64 0] w fun e w' => e = .returned (.bool true) ∧ Below w.heap.size w w' := same_nil 0 w
theorem same_k (k : Int) (w : World) (hH : Handle w) : Calls Tryd.prog 6 #[.iface 44 (.int .i64 k), .int .i64 k] w fun e w' => e = .returned (.bool true) ∧ Below w.heap.size w w' := by
  have h := same_err k k w hH
  simpa using h
theorem samer_eq (va vb : Value) (zs : List R) (w : World) (ha : Row w va zs) (hb : Row w vb zs) :
    Calls Tryd.prog 12 #[va, vb] w fun e w' => e = .returned (.bool true) ∧ Below w.heap.size w w' := by
  have h := same_calls va vb zs zs w ha hb
  simpa using h
theorem chk_len {zs : List R} (h : chk zs ≠ 0) : 0 < zs.length := by
  rcases Nat.eq_zero_or_pos zs.length with h0 | h0
  · rw [List.eq_nil_of_length_eq_zero h0] at h; exact absurd rfl h
  · exact h0
theorem mem_take_next {ms : List R} {k : Nat} (h : k < ms.length) (n : Int) : Mem (ms.take (k + 1)) n ↔ Mem (ms.take k) n ∨ ((at' ms k).1 ≤ n ∧ n ≤ (at' ms k).2) := by
  rw [List.take_succ_eq_append_getElem h, mem_append]
  have e : ms[k] = at' ms k := by simp [at', h]
  rw [e, mem_one]
end Go.Proofs.YtbglleldbogaaaaDoor
