/- The table of forms and the library's errors.errorType, as the program's text lays them; an argument that is a slice of ranges, opened. -/
import Derived.Test.YtdemmpakiopgjaaDoorX
import Derived.Test.YtdemmpakiopgjaaDoorK
import Derived.Test.YtdemmpakiopgjaaDoorCards
import Derived.Test.YtdemmpakiopgjaaDoorTie
import Derived.ProofKit
import Derived.LaidMore
import Derived.OpenShut
import Derived.Stop.Joined
import Derived.LaidHandle
import Derived.SizedLaws
import Derived.Deep.SlicePairs
namespace Go.Proofs.YtdemmpakiopgjaaDoor
open Go.ChangeShapes Go.WideShapes Go.ChangeAt Go.RowKit
set_option linter.unusedVariables false
set_option linter.unusedSimpArgs false

theorem own : ownKnob Tryd.prog.godebug = none := by kernel_rfl
theorem gForms : Tryd.prog.globalNamed "wanderwire/varint.forms" = some 0 := by kernel_rfl
theorem tForms : (Tryd.prog.globals[0]?).map (·.type) = some 57 := by kernel_rfl
theorem cells3 : Tryd.prog.cellsOf 3 = 1 := by kernel_rfl
theorem cells43 : Tryd.prog.cellsOf 56 = 2 := by kernel_rfl
theorem cells44 : Tryd.prog.cellsOf 57 = 6 := by kernel_rfl

def laid1 : List (String × DataW Unit) := [("wanderwire/varint.forms", Rows.laid_wanderwire_varint_forms)]

/-- One form, read: its two cells. -/
theorem form_cells {H : Type} {enc : TypeId × Value → H} {w : World} {base : Nat} {spare : Nat → Bool} {held : Bool} {fuel : Nat} {c0 c1 : Value} {a b : Int} {ps : List MemPlace}
    (h : DataW.trod enc Tryd.prog w base spare held fuel 56 [c0, c1] = some (.agg [.lit (.int .i64 a), .lit (.int .i64 b)], ps)) : c0 = .int .i64 a ∧ c1 = .int .i64 b := by
  obtain ⟨y0, y1, m, e, _, h0, h1⟩ := trod_struct2 Tryd.underlying56 h
  obtain ⟨k0, e0, x0, _⟩ := DataW.trod_int Tryd.underlying3 h0
  obtain ⟨k1, e1, x1, _⟩ := DataW.trod_int Tryd.underlying3 h1
  simp only [cells3] at e0 e1
  simp at e0 e1
  subst e0 e1
  rw [x0, x1] at e
  simp at e
  exact ⟨by rw [e.1.1], by rw [e.1.2]⟩

set_option maxRecDepth 100000 in
theorem forms_of {ps : List MemPlace} {W : World} (h : DataW.LaidVars Tryd.prog W laid1 ps) : V.Forms W := by
  obtain ⟨g0, t0, cs0, f0, p0, q0, hg0, ht0, hv0, hd0, _, _⟩ := h
  obtain rfl := Option.some.inj (gForms.symm.trans hg0)
  obtain rfl := Option.some.inj (tForms.symm.trans ht0)
  obtain ⟨xs, m1, rfl, hx1, hlen, hn3, hel⟩ := DataW.trod_array Tryd.underlying57 hd0
  have cell := World.var?_cell hg0 hv0
  obtain ⟨l1⟩ := cs0
  rw [cells44] at hlen
  simp only [Prod.mk.injEq] at hx1
  match l1, hlen with
  | [d0, d1, d2, d3, d4, d5], _ =>
    match xs, hn3 with
    | [x0, x1, x2], _ =>
      have h0 := hel 0 (by decide)
      have h1 := hel 1 (by decide)
      have h2 := hel 2 (by decide)
      simp only [cells43] at h0 h1 h2
      have hx := hx1.1
      simp only [List.map_cons, List.map_nil, Rows.laid_wanderwire_varint_forms, DataW.agg.injEq, List.cons.injEq] at hx
      obtain ⟨r0, q0⟩ := x0
      obtain ⟨r1, q1⟩ := x1
      obtain ⟨r2, q2⟩ := x2
      obtain ⟨e0, e1, e2, _⟩ := hx
      dsimp only at e0 e1 e2
      subst e0 e1 e2
      obtain ⟨rfl, rfl⟩ := form_cells h0
      obtain ⟨rfl, rfl⟩ := form_cells h1
      obtain ⟨rfl, rfl⟩ := form_cells h2
      refine ⟨cell 0, cell 1, cell 2, cell 3, cell 4, cell 5, ?_⟩
      have c := cell 0
      by_cases hp : 0 < W.heap.size
      · exact hp
      · exfalso
        simp [World.cell?, Array.getElem?_eq_none (show W.heap.size ≤ 0 by omega)] at c

theorem of_laid {W : World} (h : laidMetH Tryd.prog laid1 W) : V.Forms W := by
  rw [MakeChecks.laidMetH_plain _ _ _ (by kernel_rfl)] at h
  obtain ⟨ps, h, _, _⟩ := h
  exact forms_of h

theorem door_met (os : Os) (args : Array Value) : laidMetH Tryd.prog laid1 ((World.doorLaid Tryd.prog 24 os).forCall (fun _ _ => 0) ⟨#[], args, []⟩).memory :=
  laidMetH_of_parts3 (fuel := 8) (laidMet_of_run' 8 (by kernel_rfl) (by kernel_rfl)) (by kernel_rfl) (by kernel_rfl)

theorem laidOut : laidOutB Tryd.prog = true := by kernel_rfl
def laid2 : List (String × DataW Unit) := [("errors.errorType", Rows.laid_errors_errorType), ("wanderwire/varint.forms", Rows.laid_wanderwire_varint_forms)]
theorem gHandle : Tryd.prog.globalNamed "errors.errorType" = some 1 := by kernel_rfl
theorem rtRow : (Tryd.prog.cutTypes.find? (·.1 == "internal/reflectlite.rtype")).map (·.2) = some 85 := by kernel_rfl
theorem errRow : ((List.range 128).filter fun t => Tryd.prog.rowNamed t [101, 114, 114, 111, 114]) = [26] := by kernel_rfl
theorem typesSize : Tryd.prog.types.size = 128 := by kernel_rfl

theorem of_laid2 {W : World} (h : laidMetH Tryd.prog laid2 W) : V.Forms W ∧ Handle W := by
  have h' : laidMet Tryd.prog laid1 W ∧ handlesMet Tryd.prog [("errors.errorType", Rows.laid_errors_errorType)] W := h
  obtain ⟨⟨ps, hv, _, _⟩, hh⟩ := h'
  refine ⟨forms_of hv, ?_⟩
  obtain ⟨name, u, ty, e1, e2, e3, e4, e5⟩ := hh _ (List.mem_singleton.2 rfl)
  have en : name = [101, 114, 114, 111, 114] := (Option.some.inj e1).symm
  subst en
  obtain rfl := Option.some.inj (rtRow.symm.trans e2)
  have hm : ty ∈ (List.range 128).filter fun t => Tryd.prog.rowNamed t [101, 114, 114, 111, 114] := List.mem_filter.2 ⟨List.mem_range.2 (by rw [← typesSize]; exact e3), e4⟩
  rw [errRow] at hm
  obtain rfl := List.mem_singleton.1 hm
  have hth : typeHandle Tryd.prog 26 = .pointer (some ⟨2, 26, none⟩) := by kernel_rfl
  rw [hth] at e5
  have hc : W.cell? ⟨1, 0, none⟩ = some (.iface 85 (.agg #[.pointer (some ⟨2, 26, none⟩)])) := by simpa using World.var?_cell gHandle e5 0
  refine ⟨hc, ?_⟩
  by_cases hp : 1 < W.heap.size
  · exact hp
  · exfalso
    simp [World.cell?, Array.getElem?_eq_none (show W.heap.size ≤ 1 by omega)] at hc

theorem door_met2 (os : Os) (args : Array Value) : laidMetH Tryd.prog laid2 ((World.doorLaid Tryd.prog 24 os).forCall (fun _ _ => 0) ⟨#[], args, []⟩).memory :=
  laidMetH_of_parts3 (fuel := 8) (laidMet_of_run' 8 (by kernel_rfl) (by kernel_rfl)) (by kernel_rfl) (by kernel_rfl)

theorem addr_plain {W : World} {x : Addr} {v : Value} (h : W.cell? (x.add 0) = some v) : ∃ b off, x = ⟨b, off, none⟩ ∧ b < W.heap.size := by
  obtain ⟨b, off, s⟩ := x
  cases s with
  | none =>
    refine ⟨b, off, rfl, ?_⟩
    rw [Addr.add_lit] at h
    by_cases hb : b < W.heap.size
    · exact hb
    · simp [World.cell?, Array.getElem?_eq_none (show W.heap.size ≤ b by omega)] at h
  | some s =>
    simp [World.cell?, Addr.add] at h
    split at h <;> simp_all

theorem open_row' {H : Type} {enc : TypeId × Value → H} {W : World} {a : Option Addr} {len cap : Nat} {d : DataW H} {ps : List MemPlace} (h : DataW.Trod enc Tryd.prog W 0 (fun _ => true) true 22 (.slice a len cap) d ps) : ∃ zs, Row W (.slice a len cap) zs ∧ len ≤ cap := by
  obtain ⟨fuel, hf⟩ := h
  rcases Go.Deep.open_slice_pairs Tryd.underlying22 Tryd.underlying37 (by kernel_rfl) rfl rfl (by kernel_rfl) (by kernel_rfl) hf with ⟨hcs, _⟩ | ⟨y, l, c, m, n, V0, V1, D0, D1, P0, P1, hcs, _, hl, hm, hmm, _, hc⟩
  · simp [Value.cells] at hcs
    obtain ⟨rfl, rfl, rfl⟩ := hcs
    exact ⟨[], Row.nil _, Nat.le_refl _⟩
  · simp [Value.cells] at hcs
    obtain ⟨rfl, rfl, rfl⟩ := hcs
    have hlm : len ≤ m := by rw [hmm]; simpa using hl
    have hlen : len ≤ 9223372036854775807 := Nat.le_trans hl hm
    by_cases h0 : len = 0
    · subst h0
      exact ⟨[], ⟨some y, cap, rfl, by simp, (fun e => by cases e), .inl rfl⟩, hl⟩
    · obtain ⟨b, off, rfl, hb⟩ := addr_plain (hc 0 (by omega)).1
      obtain ⟨f, hf⟩ : ∃ f : Nat → R, ∀ i, i < len → V0 i = .int .i64 (f i).1 ∧ V1 i = .int .i64 (f i).2 := by
        refine Go.Deep.choose_lt (p := fun (i : Nat) (r : R) => V0 i = .int .i64 r.1 ∧ V1 i = .int .i64 r.2) fun i hi => ?_
        obtain ⟨_, _, t0, t1⟩ := hc i (by omega)
        obtain ⟨z0, e0, _, _⟩ := DataW.trod_int Tryd.underlying3 t0
        obtain ⟨z1, e1, _, _⟩ := DataW.trod_int Tryd.underlying3 t1
        exact ⟨(z0, z1), by simpa using e0, by simpa using e1⟩
      refine ⟨(List.range len).map f, ⟨some ⟨b, off, none⟩, cap, by simp, by simpa using hlen, (fun e => by cases e), .inr ⟨b, off, rfl, hb, fun j hj => ?_⟩⟩, hl⟩
      have hj' : j < len := by simpa using hj
      obtain ⟨k0, k1, _, _⟩ := hc j (by omega)
      rw [Addr.add_lit] at k0 k1
      rw [(hf j hj').1] at k0
      rw [(hf j hj').2, ← Nat.add_assoc] at k1
      have e : at' ((List.range len).map f) j = f j := by simp [at', hj']
      rw [e]
      exact ⟨k0, k1⟩
end Go.Proofs.YtdemmpakiopgjaaDoor
