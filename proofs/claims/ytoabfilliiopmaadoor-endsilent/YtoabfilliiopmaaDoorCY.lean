/- The credit of an End, where it lies in the End's own block: what Take and Limit answer and leave. -/
import Derived.Test.YtoabfilliiopmaaDoorCX
namespace Go.Proofs.YtoabfilliiopmaaDoor.Cy
open Go.RowKit Go.Lib Go.Sort
set_option linter.unusedVariables false
set_option linter.unusedSimpArgs false


open Cx (St Inv numB takeF takeS upS)
/-- Four integers from the place 246 of the block sb on. -/
structure Obj (w : World) (sb : Nat) (s : St) : Prop where
  inv : Inv s
  c0 : w.cell? ⟨sb, 246, none⟩ = some (.int .i64 s.win)
  c1 : w.cell? ⟨sb, 247, none⟩ = some (.int .i64 s.lim)
  c2 : w.cell? ⟨sb, 248, none⟩ = some (.int .i64 s.came)
  c3 : w.cell? ⟨sb, 249, none⟩ = some (.int .i64 s.read)
  f2 : w.frozen? ⟨sb, 248, none⟩ = false
/-- The credit is now s; all else of the block, and all other blocks, are as they were. -/
structure Turned (w w' : World) (sb : Nat) (s : St) : Prop where
  obj : Obj w' sb s
  off : Off (fun k => k = sb) w w'
  rest : ∀ i, i < 246 ∨ 250 ≤ i → w'.cell? ⟨sb, i, none⟩ = w.cell? ⟨sb, i, none⟩
  fz : ∀ i, w'.frozen? ⟨sb, i, none⟩ = w.frozen? ⟨sb, i, none⟩
theorem Turned.same {w : World} {sb : Nat} {s : St} (h : Obj w sb s) : Turned w w sb s := ⟨h, Off.refl _ _, fun _ _ => rfl, fun _ => rfl⟩
theorem Turned.took {w : World} {sb : Nat} {s : St} (h : Obj w sb s) {u v : Int} (hu : u ≤ s.lim) (hv : v = if s.came < u then u else s.came) : Turned w (w.setCell ⟨sb, 248, none⟩ (.int .i64 v)) sb (upS s u) := by
  refine ⟨⟨h.inv.up hu, Cx.cell_next h.c0 (by simp), Cx.cell_next h.c1 (by simp), by rw [hv]; exact World.cell?_setCell_same _ _ _ h.c2, Cx.cell_next h.c3 (by simp), by simpa using h.f2⟩, (Off.refl _ _).setCell (K := fun k => k = sb) (a := ⟨sb, 248, none⟩) rfl _, fun i hi => ?_, fun i => by simp⟩
  exact World.cell?_setCell_other _ _ _ _ (fun e => by injection e; omega)

set_option maxRecDepth 100000 in
set_option maxHeartbeats 4000000 in
theorem limit_calls {w : World} {sb : Nat} {s : St} (h : Obj w sb s) : Calls Tryd.prog 27 #[.pointer (some ⟨sb, 246, none⟩)] w fun e w' => e = .returned (.int .i64 s.lim) ∧ w' = w := by
  have c1 := h.c1
  generalize s.lim = z at c1 ⊢
  go_enter Tryd.func27, Tryd.ntmps27
  go_wp2_with fail
  go_ret
  exact ⟨rfl, rfl⟩

end Go.Proofs.YtoabfilliiopmaaDoor.Cy
