/- The credit of an End, where it lies in the End's own block: what Take and Limit answer and leave. -/
import Derived.Test.YtegelodkopommaaGreatDoorCX
namespace Go.Proofs.YtegelodkopommaaGreatDoor.Cy
open Go.RowKit Go.Lib Go.Sort
set_option linter.unusedVariables false
set_option linter.unusedSimpArgs false


open Cx (St Inv numB takeF takeS upS)
/-- Four integers from the place 246 of the block sb on. -/
structure Obj (w : World) (sb : Nat) (s : St) : Prop where
  inv : Inv s
  c0 : w.cell? ⟨sb, 246, none⟩ = some (.int .i64 s.win)
  c1 : w.cell? ⟨sb, 247, none⟩ = some (.int .i64 s.lim)
  c2 : w.cell? ⟨sb, 248, none⟩ = some (.int .i64 s.came)
  c3 : w.cell? ⟨sb, 249, none⟩ = some (.int .i64 s.read)
  f2 : w.frozen? ⟨sb, 248, none⟩ = false
/-- The credit is now s; all else of the block, and all other blocks, are as they were. -/
structure Turned (w w' : World) (sb : Nat) (s : St) : Prop where
  obj : Obj w' sb s
  off : Off (fun k => k = sb) w w'
  rest : ∀ i, i < 246 ∨ 250 ≤ i → w'.cell? ⟨sb, i, none⟩ = w.cell? ⟨sb, i, none⟩
  fz : ∀ i, w'.frozen? ⟨sb, i, none⟩ = w.frozen? ⟨sb, i, none⟩
theorem Turned.same {w : World} {sb : Nat} {s : St} (h : Obj w sb s) : Turned w w sb s := ⟨h, Off.refl _ _, fun _ _ => rfl, fun _ => rfl⟩
theorem Turned.took {w : World} {sb : Nat} {s : St} (h : Obj w sb s) {u v : Int} (hu : u ≤ s.lim) (hv : v = if s.came < u then u else s.came) : Turned w (w.setCell ⟨sb, 248, none⟩ (.int .i64 v)) sb (upS s u) := by
  refine ⟨⟨h.inv.up hu, Cx.cell_next h.c0 (by simp), Cx.cell_next h.c1 (by simp), by rw [hv]; exact World.cell?_setCell_same _ _ _ h.c2, Cx.cell_next h.c3 (by simp), by simpa using h.f2⟩, (Off.refl _ _).setCell (K := fun k => k = sb) (a := ⟨sb, 248, none⟩) rfl _, fun i hi => ?_, fun i => by simp⟩
  exact World.cell?_setCell_other _ _ _ _ (fun e => by injection e; omega)

set_option maxRecDepth 100000 in
set_option maxHeartbeats 4000000 in
theorem limit_calls {w : World} {sb : Nat} {s : St} (h : Obj w sb s) : Calls Tryz.prog 57 #[.pointer (some ⟨sb, 246, none⟩)] w fun e w' => e = .returned (.int .i64 s.lim) ∧ w' = w := by
  have c1 := h.c1
  generalize s.lim = z at c1 ⊢
  go_enter Tryz.func57, Tryz.ntmps57
  go_wp2_with fail
  go_ret
  exact ⟨rfl, rfl⟩

set_option maxRecDepth 100000 in
set_option maxHeartbeats 4000000 in
theorem take_range {w : World} {sb : Nat} {win lim came read : Int} (h : Obj w sb ⟨win, lim, came, read⟩) (u : Int) (hb : numB u = false) : Calls Tryz.prog 80 #[.pointer (some ⟨sb, 246, none⟩), .int .i64 u] w fun e w' => e = .returned (.iface 55 (.int .i64 1)) ∧ Turned w w' sb ⟨win, lim, came, read⟩ := by
  have c1 := h.c1
  have c2 := h.c2
  have f2 := h.f2
  have l2 := h.inv.l2
  simp only at c1 c2 l2
  go_enter Tryz.func80, Tryz.ntmps80
  go_wp2_with (go_at_call 61; refine (Cx.isPlace_calls u _).mono ?_; rintro e w1 ⟨rfl, rfl⟩; rw [hb])
  go_ret
  exact ⟨rfl, Turned.same h⟩

set_option maxRecDepth 100000 in
set_option maxHeartbeats 4000000 in
theorem take_flow {w : World} {sb : Nat} {win lim came read : Int} (h : Obj w sb ⟨win, lim, came, read⟩) (u : Int) (hb : numB u = true) (h2 : lim < u) : Calls Tryz.prog 80 #[.pointer (some ⟨sb, 246, none⟩), .int .i64 u] w fun e w' => e = .returned (.iface 55 (.int .i64 8)) ∧ Turned w w' sb ⟨win, lim, came, read⟩ := by
  have c1 := h.c1
  have c2 := h.c2
  have f2 := h.f2
  have l2 := h.inv.l2
  simp only at c1 c2 l2
  go_enter Tryz.func80, Tryz.ntmps80
  go_wp2_with (go_at_call 61; refine (Cx.isPlace_calls u _).mono ?_; rintro e w1 ⟨rfl, rfl⟩; rw [hb])
  go_ret
  exact ⟨rfl, Turned.same h⟩

set_option maxRecDepth 100000 in
set_option maxHeartbeats 4000000 in
theorem take_yes1 {w : World} {sb : Nat} {win lim came read : Int} (h : Obj w sb ⟨win, lim, came, read⟩) (u : Int) (hb : numB u = true) (h2 : u ≤ lim) (h3 : came < u) : Calls Tryz.prog 80 #[.pointer (some ⟨sb, 246, none⟩), .int .i64 u] w fun e w' => e = .returned .nilIface ∧ Turned w w' sb (upS ⟨win, lim, came, read⟩ u) := by
  have c1 := h.c1
  have c2 := h.c2
  have f2 := h.f2
  have l2 := h.inv.l2
  simp only at c1 c2 l2
  go_enter Tryz.func80, Tryz.ntmps80
  go_wp2_with (go_at_call 61; refine (Cx.isPlace_calls u _).mono ?_; rintro e w1 ⟨rfl, rfl⟩; rw [hb])
  go_ret
  exact ⟨rfl, Turned.took h h2 (if_pos h3).symm⟩

set_option maxRecDepth 100000 in
set_option maxHeartbeats 4000000 in
theorem take_yes2 {w : World} {sb : Nat} {win lim came read : Int} (h : Obj w sb ⟨win, lim, came, read⟩) (u : Int) (hb : numB u = true) (h2 : u ≤ lim) (h3 : u ≤ came) : Calls Tryz.prog 80 #[.pointer (some ⟨sb, 246, none⟩), .int .i64 u] w fun e w' => e = .returned .nilIface ∧ Turned w w' sb (upS ⟨win, lim, came, read⟩ u) := by
  have c1 := h.c1
  have c2 := h.c2
  have f2 := h.f2
  have l2 := h.inv.l2
  simp only at c1 c2 l2
  go_enter Tryz.func80, Tryz.ntmps80
  go_wp2_with (go_at_call 61; refine (Cx.isPlace_calls u _).mono ?_; rintro e w1 ⟨rfl, rfl⟩; rw [hb])
  go_ret
  exact ⟨rfl, Turned.took h h2 (if_neg (by simp only; omega)).symm⟩

theorem take_calls {w : World} {sb : Nat} {s : St} (h : Obj w sb s) (u : Int) : Calls Tryz.prog 80 #[.pointer (some ⟨sb, 246, none⟩), .int .i64 u] w fun e w' => e = .returned (errV (takeF s u)) ∧ Turned w w' sb (takeS s u) := by
  obtain ⟨win, lim, came, read⟩ := s
  rcases Cx.takeF_cases ⟨win, lim, came, read⟩ u with ⟨e, hb⟩ | ⟨e, hb, h2⟩ | ⟨e, hb, h2⟩
  · rw [Cx.takeS_no (by rw [e]; decide), e, errV_f (by decide)]; exact take_range h u hb
  · rw [Cx.takeS_no (by rw [e]; decide), e, errV_f (by decide)]; exact take_flow h u hb h2
  · rw [Cx.takeS_yes e, e, errV_0]
    by_cases h3 : came < u
    · exact take_yes1 h u hb h2 h3
    · exact take_yes2 h u hb h2 (by omega)
end Go.Proofs.YtegelodkopommaaGreatDoor.Cy
