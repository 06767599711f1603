/- Where the program's table of forms reads as it is listed, its six cells hold these numbers; the door's own heap meets that. -/
import Derived.Test.YtnkedcpocomeaaaDoorRows
import Derived.Test.YtnkedcpocomeaaaDoorA
import Derived.ProofKit
import Derived.LaidMore
import Derived.OpenShut
import Derived.Stop.Joined
namespace Go.Proofs.YtnkedcpocomeaaaDoor
open Go.ChangeShapes Go.WideShapes Go.ChangeAt Go.RowKit

theorem own : ownKnob Tryd.prog.godebug = none := by kernel_rfl
theorem gForms : Tryd.prog.globalNamed "wanderwire/varint.forms" = some 0 := by kernel_rfl
theorem tForms : (Tryd.prog.globals[0]?).map (·.type) = some 44 := by kernel_rfl
theorem cells3 : Tryd.prog.cellsOf 3 = 1 := by kernel_rfl
theorem cells43 : Tryd.prog.cellsOf 43 = 2 := by kernel_rfl
theorem cells44 : Tryd.prog.cellsOf 44 = 6 := by kernel_rfl

def laid1 : List (String × DataW Unit) := [("wanderwire/varint.forms", Rows.laid_wanderwire_varint_forms)]

/-- One form, read: its two cells. -/
theorem form_cells {H : Type} {enc : TypeId × Value → H} {w : World} {base : Nat} {spare : Nat → Bool} {held : Bool} {fuel : Nat} {c0 c1 : Value} {a b : Int} {ps : List MemPlace}
    (h : DataW.trod enc Tryd.prog w base spare held fuel 43 [c0, c1] = some (.agg [.lit (.int .i64 a), .lit (.int .i64 b)], ps)) : c0 = .int .i64 a ∧ c1 = .int .i64 b := by
  obtain ⟨y0, y1, m, e, _, h0, h1⟩ := trod_struct2 Tryd.underlying43 h
  obtain ⟨k0, e0, x0, _⟩ := DataW.trod_int Tryd.underlying3 h0
  obtain ⟨k1, e1, x1, _⟩ := DataW.trod_int Tryd.underlying3 h1
  simp only [cells3] at e0 e1
  simp at e0 e1
  subst e0 e1
  rw [x0, x1] at e
  simp at e
  exact ⟨by rw [e.1.1], by rw [e.1.2]⟩

theorem forms_of {ps : List MemPlace} {W : World} (h : DataW.LaidVars Tryd.prog W laid1 ps) : Forms W := by
  obtain ⟨g0, t0, cs0, f0, p0, q0, hg0, ht0, hv0, hd0, _, _⟩ := h
  obtain rfl := Option.some.inj (gForms.symm.trans hg0)
  obtain rfl := Option.some.inj (tForms.symm.trans ht0)
  obtain ⟨xs, m1, rfl, hx1, hlen, hn3, hel⟩ := DataW.trod_array Tryd.underlying44 hd0
  have cell := World.var?_cell hg0 hv0
  obtain ⟨l1⟩ := cs0
  rw [cells44] at hlen
  simp only [Prod.mk.injEq] at hx1
  match l1, hlen with
  | [d0, d1, d2, d3, d4, d5], _ =>
    match xs, hn3 with
    | [x0, x1, x2], _ =>
      have h0 := hel 0 (by decide)
      have h1 := hel 1 (by decide)
      have h2 := hel 2 (by decide)
      simp only [cells43] at h0 h1 h2
      have hx := hx1.1
      simp only [List.map_cons, List.map_nil, Rows.laid_wanderwire_varint_forms, DataW.agg.injEq, List.cons.injEq] at hx
      obtain ⟨r0, q0⟩ := x0
      obtain ⟨r1, q1⟩ := x1
      obtain ⟨r2, q2⟩ := x2
      obtain ⟨e0, e1, e2, _⟩ := hx
      dsimp only at e0 e1 e2
      subst e0 e1 e2
      obtain ⟨rfl, rfl⟩ := form_cells h0
      obtain ⟨rfl, rfl⟩ := form_cells h1
      obtain ⟨rfl, rfl⟩ := form_cells h2
      refine ⟨cell 0, cell 1, cell 2, cell 3, cell 4, cell 5, ?_⟩
      have c := cell 0
      by_cases hp : 0 < W.heap.size
      · exact hp
      · exfalso
        simp [World.cell?, Array.getElem?_eq_none (show W.heap.size ≤ 0 by omega)] at c

theorem of_laid {W : World} (h : laidMetH Tryd.prog laid1 W) : Forms W := by
  rw [MakeChecks.laidMetH_plain _ _ _ (by kernel_rfl)] at h
  obtain ⟨ps, h, _, _⟩ := h
  exact forms_of h

theorem door_met (os : Os) (args : Array Value) : laidMetH Tryd.prog laid1 ((World.doorLaid Tryd.prog 24 os).forCall (fun _ _ => 0) ⟨#[], args, []⟩).memory :=
  laidMetH_of_parts3 (fuel := 8) (laidMet_of_run' 8 (by kernel_rfl) (by kernel_rfl)) (by kernel_rfl) (by kernel_rfl)

end Go.Proofs.YtnkedcpocomeaaaDoor
