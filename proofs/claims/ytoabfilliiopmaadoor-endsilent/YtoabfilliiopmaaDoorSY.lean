/- The stream of an End, where it lies in the End's own block: what Put and Ready answer and leave. -/
import Derived.Test.YtoabfilliiopmaaDoorSX
namespace Go.Proofs.YtoabfilliiopmaaDoor.Sy
open Go.RowKit Go.Lib Go.Sort
set_option linter.unusedVariables false
set_option linter.unusedSimpArgs false


open Sx (St Inv bat bat_range bat_get placeB cl clB clB_yes clB_no clB_out upS upS_zero upS_byt upS_cm upS_tk putF putS putF_range putF_full putF_clash putF_yes putS_yes putS_no rdy run_stop run_all wrap_small index_at cell_next cell_away box_cells)
/-- A stream from the place 125 of the block sb on. -/
structure Obj (w : World) (sb : Nat) (s : St) : Prop where
  inv : Inv s
  cb : ∀ i, i < 60 → w.cell? ⟨sb, 125 + i, none⟩ = some (.int .u8 (s.byt i))
  cc : ∀ i, i < 60 → w.cell? ⟨sb, 185 + i, none⟩ = some (.bool (s.cm i))
  ct : w.cell? ⟨sb, 245, none⟩ = some (.int .i64 s.tk)
  fz1 : ∀ i, i < 60 → w.frozen? ⟨sb, 125 + i, none⟩ = false
  fz2 : ∀ i, i < 60 → w.frozen? ⟨sb, 185 + i, none⟩ = false
/-- But for the stream's own places, and new blocks, the world is as it was. -/
structure OffS (sb : Nat) (w w' : World) : Prop where
  off : Off (fun k => k = sb) w w'
  rest : ∀ i, i < 125 ∨ 245 ≤ i → w'.cell? ⟨sb, i, none⟩ = w.cell? ⟨sb, i, none⟩
  fz : ∀ i, w'.frozen? ⟨sb, i, none⟩ = w.frozen? ⟨sb, i, none⟩
theorem OffS.refl (sb : Nat) (w : World) : OffS sb w w := ⟨Off.refl _ _, fun _ _ => rfl, fun _ => rfl⟩
theorem OffS.trans {sb : Nat} {a b c : World} (h : OffS sb a b) (k : OffS sb b c) : OffS sb a c := ⟨h.off.trans k.off, fun i hi => (k.rest i hi).trans (h.rest i hi), fun i => (k.fz i).trans (h.fz i)⟩
theorem OffS.of_below {sb : Nat} {w w' : World} (hl : sb < w.heap.size) (h : Below w.heap.size w w') : OffS sb w w' :=
  ⟨Off.of_below h, fun i _ => h.cell (p := ⟨sb, i, none⟩) hl, fun i => World.frozen?_of_block (h.block sb hl)⟩
theorem OffS.up' {sb : Nat} {w w' : World} (h : OffS sb w w') {i j : Nat} (i0 : 125 ≤ i) (i1 : i < 245) (j0 : 125 ≤ j) (j1 : j < 245) (u v : Value) : OffS sb w ((w'.setCell ⟨sb, i, none⟩ u).drew.setCell ⟨sb, j, none⟩ v).drew := by
  refine h.trans ⟨(((Off.refl (fun k => k = sb) w').setCell (a := ⟨sb, i, none⟩) rfl u).setCell (a := ⟨sb, j, none⟩) rfl v).trans (Off.of_below ⟨rfl, rfl, rfl, Nat.le_refl _, fun _ _ => rfl⟩), fun k hk => ?_, fun k => ?_⟩
  · show ((w'.setCell ⟨sb, i, none⟩ u).setCell ⟨sb, j, none⟩ v).cell? _ = _
    rw [World.cell?_setCell_other _ _ _ _ (fun e => by injection e; omega), World.cell?_setCell_other _ _ _ _ (fun e => by injection e; omega)]
  · show ((w'.setCell ⟨sb, i, none⟩ u).setCell ⟨sb, j, none⟩ v).frozen? _ = _
    simp
section
variable {w w' : World} {sb : Nat} {s : St}
theorem Obj.offS (h : Obj w sb s) (hl : sb < w.heap.size) (hb : Below w.heap.size w w') : Obj w' sb s := by
  have f : ∀ i, w'.frozen? ⟨sb, i, none⟩ = w.frozen? ⟨sb, i, none⟩ := fun i => World.frozen?_of_block (hb.block sb hl)
  exact ⟨h.inv, fun i hi => (hb.cell (p := ⟨sb, 125 + i, none⟩) hl).trans (h.cb i hi), fun i hi => (hb.cell (p := ⟨sb, 185 + i, none⟩) hl).trans (h.cc i hi), (hb.cell (p := ⟨sb, 245, none⟩) hl).trans h.ct, fun i hi => (f _).trans (h.fz1 i hi), fun i hi => (f _).trans (h.fz2 i hi)⟩
theorem Obj.below (h : Obj w sb s) (hl : sb < w.heap.size) (hb : Below w.heap.size w w') : Obj w' sb s := h.offS hl hb
/-- One byte of a piece, stored with its mark. -/
theorem Obj.up {a n : Nat} {d : ByteArray} (h : Obj w sb (upS s a d n)) (hn : a + n < 60) :
    Obj ((w.setCell ⟨sb, 125 + (a + n), none⟩ (.int .u8 (bat d n))).setCell ⟨sb, 185 + (a + n), none⟩ (.bool true)) sb (upS s a d (n + 1)) := by
  refine ⟨?_, fun i hi => ?_, fun i hi => ?_, ?_, fun i hi => by simpa using h.fz1 i hi, fun i hi => by simpa using h.fz2 i hi⟩
  · refine ⟨h.inv.t, fun i => ?_⟩
    rw [upS_byt]
    by_cases e : i = a + n
    · simp only [e, if_true]; exact bat_range _ _
    · simp only [e, if_false]; exact h.inv.b i
  · rw [upS_byt]
    refine cell_next ?_ (by show 125 + i ≠ 185 + (a + n); omega)
    by_cases e : i = a + n
    · subst e
      simp only [if_true]
      exact World.cell?_setCell_same _ _ _ (h.cb _ hi)
    · simp only [e, if_false]
      exact cell_next (h.cb i hi) (by show 125 + i ≠ 125 + (a + n); omega)
  · rw [upS_cm]
    by_cases e : i = a + n
    · subst e
      simp only [if_true]
      exact World.cell?_setCell_same _ _ _ (cell_next (h.cc _ hi) (by show 185 + (a + n) ≠ 125 + (a + n); omega))
    · simp only [e, if_false]
      exact cell_next (cell_next (h.cc i hi) (by show 185 + i ≠ 125 + (a + n); omega)) (by show 185 + i ≠ 185 + (a + n); omega)
  · exact cell_next (cell_next h.ct (by show 245 ≠ 125 + (a + n); omega)) (by show 245 ≠ 185 + (a + n); omega)
theorem Obj.up' {a n : Nat} {d : ByteArray} (h : Obj w sb (upS s a d n)) (hn : a + n < 60) :
    Obj ((w.setCell ⟨sb, 125 + (a + n), none⟩ (.int .u8 (bat d n))).drew.setCell ⟨sb, 185 + (a + n), none⟩ (.bool true)).drew sb (upS s a d (n + 1)) := by
  obtain ⟨a1, a2, a3, a4, a5, a6⟩ := h.up hn
  exact ⟨a1, a2, a3, a4, a5, a6⟩
end
/-- The stream is now s; all else is as it was. -/
def Turned (w w' : World) (sb : Nat) (s : St) : Prop := Obj w' sb s ∧ OffS sb w w'
theorem Turned.below {w w' : World} {sb : Nat} {s : St} (h : Obj w sb s) (hl : sb < w.heap.size) (hb : Below w.heap.size w w') : Turned w w' sb s := ⟨h.below hl hb, OffS.of_below hl hb⟩
set_option maxRecDepth 100000 in
set_option maxHeartbeats 4000000 in
theorem ready_quiet {w : World} {sb : Nat} {s : St} (h : Obj w sb s) : Calls Tryd.prog 18 #[.pointer (some ⟨sb, 125, none⟩)] w fun e w' => e = .returned (.int .i64 (rdy s : Int)) ∧ ∃ m, w' = w.drewN m := by
  have ht := h.inv.t
  have c0 := h.ct
  have HS : Hid (∀ n, n < 60 - s.tk → (∀ i, i < n → s.cm (s.tk + i) = true) → s.cm (s.tk + n) = false → (rdy s : Int) = n) := by
    show ∀ n, _ → _ → _ → _
    intro n h1 h2 h3
    rw [rdy, run_stop _ _ _ n h2 h1 h3]
  have HA : Hid ((∀ i, i < 60 - s.tk → s.cm (s.tk + i) = true) → (rdy s : Int) = 60 - (s.tk : Int)) := by
    show _ → _
    intro h1
    rw [rdy, run_all _ _ _ h1]
    omega
  obtain ⟨r, hr⟩ : ∃ r : Int, (rdy s : Int) = r := ⟨_, rfl⟩
  rw [hr]
  rw [hr] at HS HA
  clear hr
  have HC : Hid (∀ i, i < 60 → w.cell? ⟨sb, 185 + i, none⟩ = some (.bool (s.cm i))) := h.cc
  have hr0 := wrap_small (60 - (s.tk : Int)) (by omega) (by omega)
  clear h
  generalize hT : s.tk = T at *
  have HM : Hid (∀ i, s.cm i = s.cm i) := fun _ => rfl
  generalize s.cm = cm at HS HA HC
  clear HM hT
  go_enter Tryd.func18, Tryd.ntmps18
  go_wp2_with fail
  go_loopg [11] (60 - T) (fun gk s11 wr => ∃ k m : Nat, gk + k = 60 - T ∧ s11 = .int .i64 k ∧ Hid (∀ i, i < k → cm (T + i) = true) ∧ Hid (wr = w.drewN m))
  case atStart => exact ⟨0, 0, rfl, rfl, (show ∀ i, i < 0 → cm (T + i) = true from fun i hi => by omega), rfl⟩
  case round =>
    obtain ⟨k, m, hk, rfl, hE, HW⟩ := hrel
    have HK : Hid (gk + k = 60 - T) := hk
    clear hk
    have d0 : wr.cell? ⟨sb, 245, none⟩ = some (.int .i64 (T : Int)) := by rw [HW.out]; exact c0
    have HW2 : Hid (∀ q, ∃ m, wr.drewN q = w.drewN m) := by show ∀ q, _; intro q; rw [HW.out, World.drewN_drewN]; exact ⟨_, rfl⟩
    by_cases g : (k : Int) < 60 - (T : Int)
    · have x1 : wr.cell? ⟨sb, 185 + (T + k), none⟩ = some (.bool (cm (T + k))) := by rw [HW.out]; exact HC.out (T + k) (by omega)
      have u1 := wrap_small ((T : Int) + (k : Int)) (by omega) (by omega)
      cases hc : cm (T + k) with
      | true =>
        rw [hc] at x1
        have HE : Hid (∀ i, i < k + 1 → cm (T + i) = true) := by
          show ∀ i, _ → _
          intro i hi
          by_cases e : i = k
          · rw [e]; exact hc
          · exact hE.out i (by omega)
        clear hc hE
        go_wp2_with fail
        go_quiet (fail)
        go_wp2_with fail
        go_roundg (60 - T - (k + 1))
        case measure => have := HK.out; omega
        case rel =>
          obtain ⟨m2, e2⟩ := HW2.out _
          exact ⟨k + 1, m2, by have := HK.out; omega, by go_num, HE, e2⟩
      | false =>
        rw [hc] at x1
        have HR : Hid (r = (k : Int)) := HS.out k (by omega) hE.out hc
        clear hc hE
        go_wp2_with fail
        go_quiet (fail)
        go_wp2_with fail
        go_ret
        exact ⟨by rw [HR.out]; rfl, HW2.out _⟩
    · have HR : Hid (r = 60 - (T : Int)) := HA.out fun i hi => hE.out i (by have := HK.out; omega)
      go_wp2_with fail
      go_ret
      exact ⟨by rw [HR.out]; rfl, HW2.out 0⟩
end Go.Proofs.YtoabfilliiopmaaDoor.Sy
