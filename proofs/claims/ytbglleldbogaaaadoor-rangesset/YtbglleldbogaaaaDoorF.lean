/- An argument that is a slice of ranges, opened; the library's errors.errorType, as the program's text lays it. -/
import Derived.Test.YtbglleldbogaaaaDoorP
import Derived.Test.YtbglleldbogaaaaDoorCards
import Derived.Test.YtbglleldbogaaaaDoorTie
import Derived.ProofKit
import Derived.LaidMore
import Derived.OpenShut
import Derived.Stop.Joined
import Derived.LaidHandle
import Derived.Deep.SlicePairs
namespace Go.Proofs.YtbglleldbogaaaaDoor
open Go.ChangeShapes Go.WideShapes Go.ChangeAt Go.RowKit
set_option linter.unusedVariables false
set_option linter.unusedSimpArgs false

theorem own : ownKnob Tryd.prog.godebug = none := by kernel_rfl
theorem laidOut : laidOutB Tryd.prog = true := by kernel_rfl
def laid1 : List (String × DataW Unit) := [("errors.errorType", Rows.laid_errors_errorType)]
theorem gHandle : Tryd.prog.globalNamed "errors.errorType" = some 0 := by kernel_rfl
theorem rtRow : (Tryd.prog.cutTypes.find? (·.1 == "internal/reflectlite.rtype")).map (·.2) = some 76 := by kernel_rfl
theorem errRow : ((List.range 139).filter fun t => Tryd.prog.rowNamed t [101, 114, 114, 111, 114]) = [26] := by kernel_rfl
theorem typesSize : Tryd.prog.types.size = 139 := by kernel_rfl

theorem of_laid {W : World} (h : laidMetH Tryd.prog laid1 W) : Handle W := by
  have h' : laidMet Tryd.prog [] W ∧ handlesMet Tryd.prog [("errors.errorType", Rows.laid_errors_errorType)] W := h
  obtain ⟨_, hh⟩ := h'
  obtain ⟨name, u, ty, e1, e2, e3, e4, e5⟩ := hh _ (List.mem_singleton.2 rfl)
  have en : name = [101, 114, 114, 111, 114] := (Option.some.inj e1).symm
  subst en
  obtain rfl := Option.some.inj (rtRow.symm.trans e2)
  have hm : ty ∈ (List.range 139).filter fun t => Tryd.prog.rowNamed t [101, 114, 114, 111, 114] := List.mem_filter.2 ⟨List.mem_range.2 (by rw [← typesSize]; exact e3), e4⟩
  rw [errRow] at hm
  obtain rfl := List.mem_singleton.1 hm
  have hth : typeHandle Tryd.prog 26 = .pointer (some ⟨1, 26, none⟩) := by kernel_rfl
  rw [hth] at e5
  have hc : W.cell? ⟨0, 0, none⟩ = some (.iface 76 (.agg #[.pointer (some ⟨1, 26, none⟩)])) := by simpa using World.var?_cell gHandle e5 0
  refine ⟨hc, ?_⟩
  by_cases hp : 0 < W.heap.size
  · exact hp
  · exfalso
    simp [World.cell?, Array.getElem?_eq_none (show W.heap.size ≤ 0 by omega)] at hc

theorem door_met (os : Os) (args : Array Value) : laidMetH Tryd.prog laid1 ((World.doorLaid Tryd.prog 16 os).forCall (fun _ _ => 0) ⟨#[], args, []⟩).memory :=
  laidMetH_of_parts3 (fuel := 8) (laidMet_of_run' 8 (by kernel_rfl) (by kernel_rfl)) (by kernel_rfl) (by kernel_rfl)

theorem addr_plain {W : World} {x : Addr} {v : Value} (h : W.cell? (x.add 0) = some v) : ∃ b off, x = ⟨b, off, none⟩ ∧ b < W.heap.size := by
  obtain ⟨b, off, s⟩ := x
  cases s with
  | none =>
    refine ⟨b, off, rfl, ?_⟩
    rw [Addr.add_lit] at h
    by_cases hb : b < W.heap.size
    · exact hb
    · simp [World.cell?, Array.getElem?_eq_none (show W.heap.size ≤ b by omega)] at h
  | some s =>
    simp [World.cell?, Addr.add] at h
    split at h <;> simp_all

theorem open_row' {H : Type} {enc : TypeId × Value → H} {W : World} {a : Option Addr} {len cap : Nat} {d : DataW H} {ps : List MemPlace} (h : DataW.Trod enc Tryd.prog W 0 (fun _ => true) true 22 (.slice a len cap) d ps) : ∃ zs, Row W (.slice a len cap) zs := by
  obtain ⟨fuel, hf⟩ := h
  rcases Go.Deep.open_slice_pairs Tryd.underlying22 Tryd.underlying31 (by kernel_rfl) rfl rfl (by kernel_rfl) (by kernel_rfl) hf with ⟨hcs, _⟩ | ⟨y, l, c, m, n, V0, V1, D0, D1, P0, P1, hcs, _, hl, hm, hmm, _, hc⟩
  · simp [Value.cells] at hcs
    obtain ⟨rfl, rfl, rfl⟩ := hcs
    exact ⟨[], Row.nil _⟩
  · simp [Value.cells] at hcs
    obtain ⟨rfl, rfl, rfl⟩ := hcs
    have hlm : len ≤ m := by rw [hmm]; simpa using hl
    have hlen : len ≤ 9223372036854775807 := Nat.le_trans hl hm
    by_cases h0 : len = 0
    · subst h0
      exact ⟨[], some y, cap, rfl, by simp, (fun e => by cases e), .inl rfl⟩
    · obtain ⟨b, off, rfl, hb⟩ := addr_plain (hc 0 (by omega)).1
      obtain ⟨f, hf⟩ : ∃ f : Nat → R, ∀ i, i < len → V0 i = .int .i64 (f i).1 ∧ V1 i = .int .i64 (f i).2 := by
        refine Go.Deep.choose_lt (p := fun (i : Nat) (r : R) => V0 i = .int .i64 r.1 ∧ V1 i = .int .i64 r.2) fun i hi => ?_
        obtain ⟨_, _, t0, t1⟩ := hc i (by omega)
        obtain ⟨z0, e0, _, _⟩ := DataW.trod_int Tryd.underlying3 t0
        obtain ⟨z1, e1, _, _⟩ := DataW.trod_int Tryd.underlying3 t1
        exact ⟨(z0, z1), by simpa using e0, by simpa using e1⟩
      refine ⟨(List.range len).map f, some ⟨b, off, none⟩, cap, by simp, by simpa using hlen, (fun e => by cases e), .inr ⟨b, off, rfl, hb, fun j hj => ?_⟩⟩
      have hj' : j < len := by simpa using hj
      obtain ⟨k0, k1, _, _⟩ := hc j (by omega)
      rw [Addr.add_lit] at k0 k1
      rw [(hf j hj').1] at k0
      rw [(hf j hj').2, ← Nat.add_assoc] at k1
      have e : at' ((List.range len).map f) j = f j := by simp [at', hj']
      rw [e]
      exact ⟨k0, k1⟩
end Go.Proofs.YtbglleldbogaaaaDoor
