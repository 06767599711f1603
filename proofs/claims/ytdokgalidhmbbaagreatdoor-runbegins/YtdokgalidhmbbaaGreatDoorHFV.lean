/- What the laws of package run need. -/
import Derived.Test.YtdokgalidhmbbaaGreatDoorHF
import Derived.Test.YtdokgalidhmbbaaGreatDoorHKK
import Derived.Test.YtdokgalidhmbbaaGreatDoorCards
import Derived.Test.YtdokgalidhmbbaaGreatDoorTie
import Derived.ProofKit
import Derived.LaidMore
import Derived.OpenShut
import Derived.Stop.Joined
import Derived.LaidHandle
import Derived.SizedLaws
set_option linter.unusedVariables false
set_option linter.unusedSimpArgs false
set_option maxRecDepth 100000
set_option maxHeartbeats 8000000
namespace Go.Proofs.YtdokgalidhmbbaaGreatDoor
open Go.ChangeShapes Go.WideShapes Go.ChangeAt Go.RowKit


theorem own : ownKnob Tryz.prog.godebug = none := by kernel_rfl
theorem gForms : Tryz.prog.globalNamed "wanderwire/varint.forms" = some 3 := by kernel_rfl
theorem tForms : (Tryz.prog.globals[3]?).map (·.type) = some 196 := by kernel_rfl
theorem gCounts : Tryz.prog.globalNamed "wanderwire/frame.counts" = some 9 := by kernel_rfl
theorem tCounts : (Tryz.prog.globals[9]?).map (·.type) = some 305 := by kernel_rfl
theorem cellsI : Tryz.prog.cellsOf 3 = 1 := by kernel_rfl
theorem cellsF : Tryz.prog.cellsOf 195 = 2 := by kernel_rfl
theorem cellsFS : Tryz.prog.cellsOf 196 = 6 := by kernel_rfl
theorem cellsN : Tryz.prog.cellsOf 305 = 9 := by kernel_rfl

def laid1 : List (String × DataW Unit) := [("wanderwire/varint.forms", Rows.laid_wanderwire_varint_forms), ("wanderwire/frame.counts", Rows.laid_wanderwire_frame_counts)]
theorem form_cells {H : Type} {enc : TypeId × Value → H} {w : World} {base : Nat} {spare : Nat → Bool} {held : Bool} {fuel : Nat} {c0 c1 : Value} {a b : Int} {ps : List MemPlace}
    (h : DataW.trod enc Tryz.prog w base spare held fuel 195 [c0, c1] = some (.agg [.lit (.int .i64 a), .lit (.int .i64 b)], ps)) : c0 = .int .i64 a ∧ c1 = .int .i64 b := by
  obtain ⟨y0, y1, m, e, _, h0, h1⟩ := trod_struct2 Tryz.underlying195 h
  obtain ⟨k0, e0, x0, _⟩ := DataW.trod_int Tryz.underlying3 h0
  obtain ⟨k1, e1, x1, _⟩ := DataW.trod_int Tryz.underlying3 h1
  simp only [cellsI] at e0 e1
  simp at e0 e1
  subst e0 e1
  rw [x0, x1] at e
  simp at e
  exact ⟨by rw [e.1.1], by rw [e.1.2]⟩
theorem int_cell {H : Type} {enc : TypeId × Value → H} {w : World} {base : Nat} {spare : Nat → Bool} {held : Bool} {fuel : Nat} {c : Value} {a : Int} {ps : List MemPlace}
    (h : DataW.trod enc Tryz.prog w base spare held fuel 3 [c] = some (.lit (.int .i64 a), ps)) : c = .int .i64 a := by
  obtain ⟨k0, e0, x0, _⟩ := DataW.trod_int Tryz.underlying3 h
  simp at e0 x0
  rw [e0, x0.1]

set_option maxRecDepth 100000 in
theorem vars_of {ps : List MemPlace} {W : World} (h : DataW.LaidVars Tryz.prog W laid1 ps) : V.Forms W ∧ Cnts W := by
  obtain ⟨g0, t0, cs0, f0, p0, q0, hg0, ht0, hv0, hd0, hrest, _⟩ := h
  obtain ⟨g1, t1, cs1, f1, p1, q1, hg1, ht1, hv1, hd1, _, _⟩ := hrest
  constructor
  · obtain rfl := Option.some.inj (gForms.symm.trans hg0)
    obtain rfl := Option.some.inj (tForms.symm.trans ht0)
    obtain ⟨xs, m1, rfl, hx1, hlen, hn3, hel⟩ := DataW.trod_array Tryz.underlying196 hd0
    have cell := World.var?_cell hg0 hv0
    obtain ⟨l1⟩ := cs0
    rw [cellsFS] at hlen
    simp only [Prod.mk.injEq] at hx1
    match l1, hlen with
    | [d0, d1, d2, d3, d4, d5], _ =>
      match xs, hn3 with
      | [x0, x1, x2], _ =>
        have h0 := hel 0 (by decide)
        have h1 := hel 1 (by decide)
        have h2 := hel 2 (by decide)
        simp only [cellsF] at h0 h1 h2
        have hx := hx1.1
        simp only [List.map_cons, List.map_nil, Rows.laid_wanderwire_varint_forms, DataW.agg.injEq, List.cons.injEq] at hx
        obtain ⟨r0, q0⟩ := x0
        obtain ⟨r1, q1⟩ := x1
        obtain ⟨r2, q2⟩ := x2
        obtain ⟨e0, e1, e2, _⟩ := hx
        dsimp only at e0 e1 e2
        subst e0 e1 e2
        obtain ⟨rfl, rfl⟩ := form_cells h0
        obtain ⟨rfl, rfl⟩ := form_cells h1
        obtain ⟨rfl, rfl⟩ := form_cells h2
        refine ⟨cell 0, cell 1, cell 2, cell 3, cell 4, cell 5, ?_⟩
        have c := cell 0
        by_cases hp : 3 < W.heap.size
        · exact hp
        · exfalso
          simp [World.cell?, Array.getElem?_eq_none (show W.heap.size ≤ 3 by omega)] at c
  · obtain rfl := Option.some.inj (gCounts.symm.trans hg1)
    obtain rfl := Option.some.inj (tCounts.symm.trans ht1)
    obtain ⟨xs, m1, rfl, hx1, hlen, hn3, hel⟩ := DataW.trod_array Tryz.underlying305 hd1
    have cell := World.var?_cell hg1 hv1
    obtain ⟨l1⟩ := cs1
    rw [cellsN] at hlen
    simp only [Prod.mk.injEq] at hx1
    match l1, hlen with
    | [d0, d1, d2, d3, d4, d5, d6, d7, d8], _ =>
      match xs, hn3 with
      | [x0, x1, x2, x3, x4, x5, x6, x7, x8], _ =>
        have h0 := hel 0 (by decide)
        have h1 := hel 1 (by decide)
        have h2 := hel 2 (by decide)
        have h3 := hel 3 (by decide)
        have h4 := hel 4 (by decide)
        have h5 := hel 5 (by decide)
        have h6 := hel 6 (by decide)
        have h7 := hel 7 (by decide)
        have h8 := hel 8 (by decide)
        simp only [cellsI] at h0 h1 h2 h3 h4 h5 h6 h7 h8
        have hx := hx1.1
        simp only [List.map_cons, List.map_nil, Rows.laid_wanderwire_frame_counts, DataW.agg.injEq, List.cons.injEq] at hx
        obtain ⟨r0, q0⟩ := x0
        obtain ⟨r1, q1⟩ := x1
        obtain ⟨r2, q2⟩ := x2
        obtain ⟨r3, q3⟩ := x3
        obtain ⟨r4, q4⟩ := x4
        obtain ⟨r5, q5⟩ := x5
        obtain ⟨r6, q6⟩ := x6
        obtain ⟨r7, q7⟩ := x7
        obtain ⟨r8, q8⟩ := x8
        obtain ⟨e0, e1, e2, e3, e4, e5, e6, e7, e8, _⟩ := hx
        dsimp only at e0 e1 e2 e3 e4 e5 e6 e7 e8
        subst e0 e1 e2 e3 e4 e5 e6 e7 e8
        obtain rfl := int_cell h0
        obtain rfl := int_cell h1
        obtain rfl := int_cell h2
        obtain rfl := int_cell h3
        obtain rfl := int_cell h4
        obtain rfl := int_cell h5
        obtain rfl := int_cell h6
        obtain rfl := int_cell h7
        obtain rfl := int_cell h8
        refine ⟨cell 0, cell 1, cell 2, cell 3, cell 4, cell 5, cell 6, cell 7, cell 8, ?_⟩
        have c := cell 0
        by_cases hp : 9 < W.heap.size
        · exact hp
        · exfalso
          simp [World.cell?, Array.getElem?_eq_none (show W.heap.size ≤ 9 by omega)] at c

theorem gHandle : Tryz.prog.globalNamed "errors.errorType" = some 0 := by kernel_rfl
theorem rtRow : (Tryz.prog.cutTypes.find? (·.1 == "internal/reflectlite.rtype")).map (·.2) = some 170 := by kernel_rfl
theorem errRow : ((List.range 366).filter fun t => Tryz.prog.rowNamed t [101, 114, 114, 111, 114]) = [33] := by kernel_rfl
theorem typesSize : Tryz.prog.types.size = 366 := by kernel_rfl

end Go.Proofs.YtdokgalidhmbbaaGreatDoor
