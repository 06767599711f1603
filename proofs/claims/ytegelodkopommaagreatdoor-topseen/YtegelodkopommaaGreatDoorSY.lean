/- The stream of an End, where it lies in the End's own block: what Put and Ready answer and leave. -/
import Derived.Test.YtegelodkopommaaGreatDoorSX
namespace Go.Proofs.YtegelodkopommaaGreatDoor.Sy
open Go.RowKit Go.Lib Go.Sort
set_option linter.unusedVariables false
set_option linter.unusedSimpArgs false


open Sx (St Inv bat bat_range bat_get placeB cl clB clB_yes clB_no clB_out upS upS_zero upS_byt upS_cm upS_tk putF putS putF_range putF_full putF_clash putF_yes putS_yes putS_no rdy run_stop run_all wrap_small index_at cell_next cell_away box_cells)
/-- A stream from the place 125 of the block sb on. -/
structure Obj (w : World) (sb : Nat) (s : St) : Prop where
  inv : Inv s
  cb : ∀ i, i < 60 → w.cell? ⟨sb, 125 + i, none⟩ = some (.int .u8 (s.byt i))
  cc : ∀ i, i < 60 → w.cell? ⟨sb, 185 + i, none⟩ = some (.bool (s.cm i))
  ct : w.cell? ⟨sb, 245, none⟩ = some (.int .i64 s.tk)
  fz1 : ∀ i, i < 60 → w.frozen? ⟨sb, 125 + i, none⟩ = false
  fz2 : ∀ i, i < 60 → w.frozen? ⟨sb, 185 + i, none⟩ = false
/-- But for the stream's own places, and new blocks, the world is as it was. -/
structure OffS (sb : Nat) (w w' : World) : Prop where
  off : Off (fun k => k = sb) w w'
  rest : ∀ i, i < 125 ∨ 245 ≤ i → w'.cell? ⟨sb, i, none⟩ = w.cell? ⟨sb, i, none⟩
  fz : ∀ i, w'.frozen? ⟨sb, i, none⟩ = w.frozen? ⟨sb, i, none⟩
theorem OffS.refl (sb : Nat) (w : World) : OffS sb w w := ⟨Off.refl _ _, fun _ _ => rfl, fun _ => rfl⟩
theorem OffS.trans {sb : Nat} {a b c : World} (h : OffS sb a b) (k : OffS sb b c) : OffS sb a c := ⟨h.off.trans k.off, fun i hi => (k.rest i hi).trans (h.rest i hi), fun i => (k.fz i).trans (h.fz i)⟩
theorem OffS.of_below {sb : Nat} {w w' : World} (hl : sb < w.heap.size) (h : Below w.heap.size w w') : OffS sb w w' :=
  ⟨Off.of_below h, fun i _ => h.cell (p := ⟨sb, i, none⟩) hl, fun i => World.frozen?_of_block (h.block sb hl)⟩
theorem OffS.up' {sb : Nat} {w w' : World} (h : OffS sb w w') {i j : Nat} (i0 : 125 ≤ i) (i1 : i < 245) (j0 : 125 ≤ j) (j1 : j < 245) (u v : Value) : OffS sb w ((w'.setCell ⟨sb, i, none⟩ u).drew.setCell ⟨sb, j, none⟩ v).drew := by
  refine h.trans ⟨(((Off.refl (fun k => k = sb) w').setCell (a := ⟨sb, i, none⟩) rfl u).setCell (a := ⟨sb, j, none⟩) rfl v).trans (Off.of_below ⟨rfl, rfl, rfl, Nat.le_refl _, fun _ _ => rfl⟩), fun k hk => ?_, fun k => ?_⟩
  · show ((w'.setCell ⟨sb, i, none⟩ u).setCell ⟨sb, j, none⟩ v).cell? _ = _
    rw [World.cell?_setCell_other _ _ _ _ (fun e => by injection e; omega), World.cell?_setCell_other _ _ _ _ (fun e => by injection e; omega)]
  · show ((w'.setCell ⟨sb, i, none⟩ u).setCell ⟨sb, j, none⟩ v).frozen? _ = _
    simp
section
variable {w w' : World} {sb : Nat} {s : St}
theorem Obj.offS (h : Obj w sb s) (hl : sb < w.heap.size) (hb : Below w.heap.size w w') : Obj w' sb s := by
  have f : ∀ i, w'.frozen? ⟨sb, i, none⟩ = w.frozen? ⟨sb, i, none⟩ := fun i => World.frozen?_of_block (hb.block sb hl)
  exact ⟨h.inv, fun i hi => (hb.cell (p := ⟨sb, 125 + i, none⟩) hl).trans (h.cb i hi), fun i hi => (hb.cell (p := ⟨sb, 185 + i, none⟩) hl).trans (h.cc i hi), (hb.cell (p := ⟨sb, 245, none⟩) hl).trans h.ct, fun i hi => (f _).trans (h.fz1 i hi), fun i hi => (f _).trans (h.fz2 i hi)⟩
theorem Obj.below (h : Obj w sb s) (hl : sb < w.heap.size) (hb : Below w.heap.size w w') : Obj w' sb s := h.offS hl hb
/-- One byte of a piece, stored with its mark. -/
theorem Obj.up {a n : Nat} {d : ByteArray} (h : Obj w sb (upS s a d n)) (hn : a + n < 60) :
    Obj ((w.setCell ⟨sb, 125 + (a + n), none⟩ (.int .u8 (bat d n))).setCell ⟨sb, 185 + (a + n), none⟩ (.bool true)) sb (upS s a d (n + 1)) := by
  refine ⟨?_, fun i hi => ?_, fun i hi => ?_, ?_, fun i hi => by simpa using h.fz1 i hi, fun i hi => by simpa using h.fz2 i hi⟩
  · refine ⟨h.inv.t, fun i => ?_⟩
    rw [upS_byt]
    by_cases e : i = a + n
    · simp only [e, if_true]; exact bat_range _ _
    · simp only [e, if_false]; exact h.inv.b i
  · rw [upS_byt]
    refine cell_next ?_ (by show 125 + i ≠ 185 + (a + n); omega)
    by_cases e : i = a + n
    · subst e
      simp only [if_true]
      exact World.cell?_setCell_same _ _ _ (h.cb _ hi)
    · simp only [e, if_false]
      exact cell_next (h.cb i hi) (by show 125 + i ≠ 125 + (a + n); omega)
  · rw [upS_cm]
    by_cases e : i = a + n
    · subst e
      simp only [if_true]
      exact World.cell?_setCell_same _ _ _ (cell_next (h.cc _ hi) (by show 185 + (a + n) ≠ 125 + (a + n); omega))
    · simp only [e, if_false]
      exact cell_next (cell_next (h.cc i hi) (by show 185 + i ≠ 125 + (a + n); omega)) (by show 185 + i ≠ 185 + (a + n); omega)
  · exact cell_next (cell_next h.ct (by show 245 ≠ 125 + (a + n); omega)) (by show 245 ≠ 185 + (a + n); omega)
theorem Obj.up' {a n : Nat} {d : ByteArray} (h : Obj w sb (upS s a d n)) (hn : a + n < 60) :
    Obj ((w.setCell ⟨sb, 125 + (a + n), none⟩ (.int .u8 (bat d n))).drew.setCell ⟨sb, 185 + (a + n), none⟩ (.bool true)).drew sb (upS s a d (n + 1)) := by
  obtain ⟨a1, a2, a3, a4, a5, a6⟩ := h.up hn
  exact ⟨a1, a2, a3, a4, a5, a6⟩
end
/-- The stream is now s; all else is as it was. -/
def Turned (w w' : World) (sb : Nat) (s : St) : Prop := Obj w' sb s ∧ OffS sb w w'
theorem Turned.below {w w' : World} {sb : Nat} {s : St} (h : Obj w sb s) (hl : sb < w.heap.size) (hb : Below w.heap.size w w') : Turned w w' sb s := ⟨h.below hl hb, OffS.of_below hl hb⟩
set_option maxRecDepth 100000 in
set_option maxHeartbeats 4000000 in
theorem clashes_calls {w : World} {sb : Nat} {s : St} (h : Obj w sb s) (hlt : sb < w.heap.size) (a : Nat) (d : ByteArray) (hd : a + d.size ≤ 60) : Calls Tryz.prog 99 #[.pointer (some ⟨sb, 125, none⟩), .agg #[.int .i64 a, .string d]] w fun e w' => e = .returned (.bool (clB s a d)) ∧ Below w.heap.size w w' := by
  have hb0 : Below w.heap.size w (w.alloc (.cells #[.int .i64 a, .string d] 112)) := (Below.refl _ _).alloc (Nat.le_refl _) _
  have HO : Hid (Obj (w.alloc (.cells #[.int .i64 a, .string d] 112)) sb s) := h.below hlt hb0
  have HB : Hid (Below w.heap.size w (w.alloc (.cells #[.int .i64 a, .string d] 112))) := hb0
  have HQ : Hid (w.heap.size < (w.alloc (.cells #[.int .i64 a, .string d] 112)).heap.size) := by show _ < _; simp
  obtain ⟨q0, q1⟩ := box_cells w a d
  have HL : Hid (sb < (w.alloc (.cells #[.int .i64 a, .string d] 112)).heap.size) := Nat.lt_of_lt_of_le hlt hb0.size
  clear h hb0 hlt
  go_enter Tryz.func99, Tryz.ntmps99
  go_wp2_with fail
  generalize w.alloc (.cells #[.int .i64 a, .string d] 112) = W at HO HB HQ HL q0 q1 ⊢
  go_loopg [9] d.size (fun gk s9 wr => ∃ k : Nat, gk + k = d.size ∧ s9 = .int .i64 k ∧ Hid (∀ i, i < k → cl s a d i = false) ∧ Below W.heap.size W wr)
  case atStart => exact ⟨0, rfl, rfl, (show ∀ i, i < 0 → cl s a d i = false from fun i hi => by omega), Below.refl _ _⟩
  case round =>
    obtain ⟨k, hk, rfl, hE, hW⟩ := hrel
    have HK : Hid (gk + k = d.size) := hk
    clear hk
    have p0 := (hW.cell (p := ⟨w.heap.size, 0, none⟩) HQ.out).trans q0
    have p1 := (hW.cell (p := ⟨w.heap.size, 1, none⟩) HQ.out).trans q1
    by_cases g : (k : Int) < (d.size : Int)
    · have x0 := (HO.out.below HL.out hW).cb (a + k) (by omega)
      have x1 := (HO.out.below HL.out hW).cc (a + k) (by omega)
      have hix := fun w => index_at (d := d) (k := k) (by omega) w
      have u1 := wrap_small ((a : Int) + (k : Int)) (by omega) (by omega)
      have HN : Hid (cl s a d k = false → ∀ i, i < k + 1 → cl s a d i = false) := by
        show _ → _
        intro hc i hi
        by_cases e : i = k
        · rw [e]; exact hc
        · exact hE.out i (by omega)
      have HY : Hid (cl s a d k = true → clB s a d = true) := fun hc => clB_yes (by omega) hc
      have HC : Hid (cl s a d k = (s.cm (a + k) && (s.byt (a + k) != bat d k))) := rfl
      clear hE
      generalize s.cm (a + k) = c at x1 HC
      generalize s.byt (a + k) = y at x0 HC
      generalize bat d k = z at hix HC
      cases c with
      | false =>
        have hc : cl s a d k = false := by rw [HC.out]; rfl
        have HM : Hid (∀ i, i < k + 1 → cl s a d i = false) := HN.out hc
        clear HN HY HC hc
        go_wp2_with fail
        go_quiet (fail)
        go_wp2_with fail
        go_roundg (d.size - (k + 1))
        case measure => have := HK.out; omega
        case rel => exact ⟨k + 1, by have := HK.out; omega, by go_num, HM, below_drewN hW _⟩
      | true =>
        by_cases e : y = z
        · subst e
          have hc : cl s a d k = false := by rw [HC.out]; simp
          have HM : Hid (∀ i, i < k + 1 → cl s a d i = false) := HN.out hc
          clear HN HY HC hc
          go_wp2_with fail
          go_quiet (fail)
          go_wp2_with fail
          go_roundg (d.size - (k + 1))
          case measure => have := HK.out; omega
          case rel => exact ⟨k + 1, by have := HK.out; omega, by go_num, HM, below_drewN hW _⟩
        · have hc : cl s a d k = true := by rw [HC.out]; simp [e]
          have HM : Hid (clB s a d = true) := HY.out hc
          clear HN HY HC hc
          go_wp2_with fail
          go_quiet (fail)
          go_wp2_with fail
          go_ret
          exact ⟨by rw [HM.out]; rfl, HB.out.trans ((below_drewN hW _).mono (Nat.le_of_lt HQ.out))⟩
    · have HM : Hid (clB s a d = false) := clB_no fun i hi => hE.out i (by omega)
      go_wp2_with fail
      go_ret
      exact ⟨by rw [HM.out]; rfl, HB.out.trans (hW.mono (Nat.le_of_lt HQ.out))⟩
set_option maxRecDepth 100000 in
set_option maxHeartbeats 4000000 in
theorem put_range {w : World} {sb : Nat} {s : St} (h : Obj w sb s) (hlt : sb < w.heap.size) (p : Int) (d : ByteArray) (hp : placeB p = false) : Calls Tryz.prog 81 #[.pointer (some ⟨sb, 125, none⟩), .agg #[.int .i64 p, .string d]] w fun e w' => e = .returned (.iface 55 (.int .i64 1)) ∧ Turned w w' sb s := by
  have hb0 : Below w.heap.size w (w.alloc (.cells #[.int .i64 p, .string d] 112)) := (Below.refl _ _).alloc (Nat.le_refl _) _
  obtain ⟨q0, q1⟩ := box_cells w p d
  go_enter Tryz.func81, Tryz.ntmps81
  go_wp2_with (go_at_call 98; refine (Sx.isPlace_calls p _).mono ?_; rintro e w1 ⟨rfl, rfl⟩; rw [hp])
  go_ret
  exact ⟨rfl, Turned.below h hlt hb0⟩

set_option maxRecDepth 100000 in
set_option maxHeartbeats 4000000 in
theorem put_full {w : World} {sb : Nat} {s : St} (h : Obj w sb s) (hlt : sb < w.heap.size) (p : Int) (d : ByteArray) (hp : placeB p = true) (h2 : 60 < p + (d.size : Int)) (hd : d.size ≤ 140737488351232) : Calls Tryz.prog 81 #[.pointer (some ⟨sb, 125, none⟩), .agg #[.int .i64 p, .string d]] w fun e w' => e = .returned (.iface 55 (.int .i64 4)) ∧ Turned w w' sb s := by
  have hb0 : Below w.heap.size w (w.alloc (.cells #[.int .i64 p, .string d] 112)) := (Below.refl _ _).alloc (Nat.le_refl _) _
  obtain ⟨q0, q1⟩ := box_cells w p d
  obtain ⟨p0, p1⟩ : 0 ≤ p ∧ p ≤ 60 := of_decide_eq_true hp
  have h3 : 60 - p < (d.size : Int) := by omega
  go_enter Tryz.func81, Tryz.ntmps81
  go_wp2_with (go_at_call 98; refine (Sx.isPlace_calls p _).mono ?_; rintro e w1 ⟨rfl, rfl⟩; rw [hp])
  go_ret
  exact ⟨rfl, Turned.below h hlt hb0⟩

set_option maxRecDepth 100000 in
set_option maxHeartbeats 4000000 in
theorem put_clash {w : World} {sb : Nat} {s : St} (h : Obj w sb s) (hlt : sb < w.heap.size) (a : Nat) (d : ByteArray) (hd : a + d.size ≤ 60) (hc : clB s a d = true) : Calls Tryz.prog 81 #[.pointer (some ⟨sb, 125, none⟩), .agg #[.int .i64 (a : Int), .string d]] w fun e w' => e = .returned (.iface 55 (.int .i64 7)) ∧ Turned w w' sb s := by
  have hb0 : Below w.heap.size w (w.alloc (.cells #[.int .i64 (a : Int), .string d] 112)) := (Below.refl _ _).alloc (Nat.le_refl _) _
  obtain ⟨q0, q1⟩ := box_cells w (a : Int) d
  have p0 : (a : Int) ≤ 60 := by omega
  have hp : placeB (a : Int) = true := decide_eq_true ⟨by omega, by omega⟩
  have h3 : (d.size : Int) ≤ 60 - (a : Int) := by omega
  go_enter Tryz.func81, Tryz.ntmps81
  go_wp2_with (go_at_call 98; refine (Sx.isPlace_calls (a : Int) _).mono ?_; rintro e w1 ⟨rfl, rfl⟩; rw [hp])
  refine (clashes_calls (h.below hlt hb0) (Nat.lt_of_lt_of_le hlt hb0.size) a d hd).mono ?_
  rintro e w2 ⟨rfl, hb2⟩
  have HB2 : Hid (Below w.heap.size w w2) := hb0.trans (hb2.mono hb0.size)
  have r0 := (hb2.cell (p := ⟨w.heap.size, 0, none⟩) (by simp)).trans q0
  have r1 := (hb2.cell (p := ⟨w.heap.size, 1, none⟩) (by simp)).trans q1
  rw [hc]
  clear hb0 hb2 q0 q1
  go_wp2_with fail
  go_ret
  exact ⟨rfl, Turned.below h hlt HB2.out⟩

set_option maxRecDepth 100000 in
set_option maxHeartbeats 4000000 in
theorem put_yes {w : World} {sb : Nat} {s : St} (h : Obj w sb s) (hlt : sb < w.heap.size) (a : Nat) (d : ByteArray) (hd : a + d.size ≤ 60) (hc : clB s a d = false) : Calls Tryz.prog 81 #[.pointer (some ⟨sb, 125, none⟩), .agg #[.int .i64 (a : Int), .string d]] w fun e w' => e = .returned .nilIface ∧ Turned w w' sb (upS s a d d.size) := by
  have hb0 : Below w.heap.size w (w.alloc (.cells #[.int .i64 (a : Int), .string d] 112)) := (Below.refl _ _).alloc (Nat.le_refl _) _
  obtain ⟨q0, q1⟩ := box_cells w (a : Int) d
  have p0 : (a : Int) ≤ 60 := by omega
  have hp : placeB (a : Int) = true := decide_eq_true ⟨by omega, by omega⟩
  have h3 : (d.size : Int) ≤ 60 - (a : Int) := by omega
  go_enter Tryz.func81, Tryz.ntmps81
  go_wp2_with (go_at_call 98; refine (Sx.isPlace_calls (a : Int) _).mono ?_; rintro e w1 ⟨rfl, rfl⟩; rw [hp])
  refine (clashes_calls (h.below hlt hb0) (Nat.lt_of_lt_of_le hlt hb0.size) a d hd).mono ?_
  rintro e w2 ⟨rfl, hb2⟩
  have HB2 : Hid (Below w.heap.size w w2) := hb0.trans (hb2.mono hb0.size)
  have r0 := (hb2.cell (p := ⟨w.heap.size, 0, none⟩) (by simp)).trans q0
  have r1 := (hb2.cell (p := ⟨w.heap.size, 1, none⟩) (by simp)).trans q1
  rw [hc]
  clear hb0 hb2 q0 q1
  have HO : Hid (Obj w2 sb (upS s a d 0)) := by show Obj _ _ _; rw [upS_zero]; exact h.below hlt HB2.out
  have HX : Hid (w.heap.size ≠ sb ∧ w.heap.size < w2.heap.size) := ⟨by omega, World.block_lt_of_cell? w2 _ r0⟩
  clear h hc
  go_wp2_with fail
  go_loopg [26] d.size (fun gk s26 wr => ∃ k : Nat, gk + k = d.size ∧ s26 = .int .i64 k ∧ Obj wr sb (upS s a d k) ∧ OffS sb w2 wr)
  case atStart => exact ⟨0, rfl, rfl, HO.out, OffS.refl _ _⟩
  case round =>
    obtain ⟨k, hk, rfl, hO, hW⟩ := hrel
    have HK : Hid (gk + k = d.size) := hk
    clear hk
    have p0 := hW.off.cell (p := ⟨w.heap.size, 0, none⟩) r0 HX.out.1
    have p1 := hW.off.cell (p := ⟨w.heap.size, 1, none⟩) r1 HX.out.1
    by_cases g : (k : Int) < (d.size : Int)
    · have x0 := hO.cb (a + k) (by omega)
      have x1 := hO.cc (a + k) (by omega)
      have f0 := hO.fz1 (a + k) (by omega)
      have f1 := hO.fz2 (a + k) (by omega)
      have hix := fun w => index_at (d := d) (k := k) (by omega) w
      have u1 := wrap_small ((a : Int) + (k : Int)) (by omega) (by omega)
      have hO2 := hO.up' (show a + k < 60 by omega)
      have hW2 := hW.up' (i := 125 + (a + k)) (j := 185 + (a + k)) (by omega) (by omega) (by omega) (by omega) (.int .u8 (bat d k)) (.bool true)
      have p2 := cell_away (v := .int .i64 a) (j := 125 + (a + k)) (u := .int .u8 (bat d k)) p0 HX.out.1
      have x2 := cell_next (b := ⟨sb, 125 + (a + k), none⟩) (u := .int .u8 (bat d k)) x1 (by show 185 + (a + k) ≠ 125 + (a + k); omega)
      have f2 : (wr.setCell ⟨sb, 125 + (a + k), none⟩ (.int .u8 (bat d k))).frozen? ⟨sb, 185 + (a + k), none⟩ = false := by simpa using f1
      have HO2 : Hid (Obj ((wr.setCell ⟨sb, 125 + (a + k), none⟩ (.int .u8 (bat d k))).drew.setCell ⟨sb, 185 + (a + k), none⟩ (.bool true)).drew sb (upS s a d (k + 1))) := hO2
      have HW2 : Hid (OffS sb w2 ((wr.setCell ⟨sb, 125 + (a + k), none⟩ (.int .u8 (bat d k))).drew.setCell ⟨sb, 185 + (a + k), none⟩ (.bool true)).drew) := hW2
      clear hO2 hW2
      go_wp2_with fail
      go_region
      clear p0 p1 x0 x1 f0 f1 hO hW hix
      generalize wr.setCell ⟨sb, 125 + (a + k), none⟩ (.int .u8 (bat d k)) = W1 at p2 x2 f2 HO2 HW2 ⊢
      go_wp2_with fail
      go_region
      go_wp2_with fail
      go_roundg (d.size - (k + 1))
      case measure => have := HK.out; omega
      case rel => exact ⟨k + 1, by have := HK.out; omega, by go_num, HO2.out, HW2.out⟩
    · have e : k = d.size := by have := HK.out; omega
      subst e
      go_wp2_with fail
      go_ret
      exact ⟨rfl, hO, (OffS.of_below hlt HB2.out).trans hW⟩

theorem put_calls {w : World} {sb : Nat} {s : St} (h : Obj w sb s) (hlt : sb < w.heap.size) (p : Int) (d : ByteArray) (hd : d.size ≤ 140737488351232) : Calls Tryz.prog 81 #[.pointer (some ⟨sb, 125, none⟩), .agg #[.int .i64 p, .string d]] w fun e w' => e = .returned (errV (putF s p d)) ∧ Turned w w' sb (putS s p d) := by
  cases hp : placeB p with
  | false => rw [putS_no (by rw [putF_range hp]; decide), putF_range hp, errV_f (by decide)]; exact put_range h hlt p d hp
  | true =>
    by_cases h2 : 60 < p + (d.size : Int)
    · rw [putS_no (by rw [putF_full hp h2]; decide), putF_full hp h2, errV_f (by decide)]; exact put_full h hlt p d hp h2 hd
    · obtain ⟨p0, p1⟩ : 0 ≤ p ∧ p ≤ 60 := of_decide_eq_true hp
      obtain ⟨a, rfl⟩ : ∃ a : Nat, p = (a : Int) := ⟨p.toNat, by omega⟩
      cases hc : clB s a d with
      | true =>
        have e := putF_clash (s := s) (d := d) hp (by omega) (by simpa using hc)
        rw [putS_no (by rw [e]; decide), e, errV_f (by decide)]; exact put_clash h hlt a d (by omega) hc
      | false =>
        have e := putF_yes (s := s) (d := d) hp (by omega) (by simpa using hc)
        rw [putS_yes e, e, errV_0]; exact put_yes h hlt a d (by omega) hc
set_option maxRecDepth 100000 in
set_option maxHeartbeats 4000000 in
theorem ready_quiet {w : World} {sb : Nat} {s : St} (h : Obj w sb s) : Calls Tryz.prog 58 #[.pointer (some ⟨sb, 125, none⟩)] w fun e w' => e = .returned (.int .i64 (rdy s : Int)) ∧ ∃ m, w' = w.drewN m := by
  have ht := h.inv.t
  have c0 := h.ct
  have HS : Hid (∀ n, n < 60 - s.tk → (∀ i, i < n → s.cm (s.tk + i) = true) → s.cm (s.tk + n) = false → (rdy s : Int) = n) := by
    show ∀ n, _ → _ → _ → _
    intro n h1 h2 h3
    rw [rdy, run_stop _ _ _ n h2 h1 h3]
  have HA : Hid ((∀ i, i < 60 - s.tk → s.cm (s.tk + i) = true) → (rdy s : Int) = 60 - (s.tk : Int)) := by
    show _ → _
    intro h1
    rw [rdy, run_all _ _ _ h1]
    omega
  obtain ⟨r, hr⟩ : ∃ r : Int, (rdy s : Int) = r := ⟨_, rfl⟩
  rw [hr]
  rw [hr] at HS HA
  clear hr
  have HC : Hid (∀ i, i < 60 → w.cell? ⟨sb, 185 + i, none⟩ = some (.bool (s.cm i))) := h.cc
  have hr0 := wrap_small (60 - (s.tk : Int)) (by omega) (by omega)
  clear h
  generalize hT : s.tk = T at *
  have HM : Hid (∀ i, s.cm i = s.cm i) := fun _ => rfl
  generalize s.cm = cm at HS HA HC
  clear HM hT
  go_enter Tryz.func58, Tryz.ntmps58
  go_wp2_with fail
  go_loopg [11] (60 - T) (fun gk s11 wr => ∃ k m : Nat, gk + k = 60 - T ∧ s11 = .int .i64 k ∧ Hid (∀ i, i < k → cm (T + i) = true) ∧ Hid (wr = w.drewN m))
  case atStart => exact ⟨0, 0, rfl, rfl, (show ∀ i, i < 0 → cm (T + i) = true from fun i hi => by omega), rfl⟩
  case round =>
    obtain ⟨k, m, hk, rfl, hE, HW⟩ := hrel
    have HK : Hid (gk + k = 60 - T) := hk
    clear hk
    have d0 : wr.cell? ⟨sb, 245, none⟩ = some (.int .i64 (T : Int)) := by rw [HW.out]; exact c0
    have HW2 : Hid (∀ q, ∃ m, wr.drewN q = w.drewN m) := by show ∀ q, _; intro q; rw [HW.out, World.drewN_drewN]; exact ⟨_, rfl⟩
    by_cases g : (k : Int) < 60 - (T : Int)
    · have x1 : wr.cell? ⟨sb, 185 + (T + k), none⟩ = some (.bool (cm (T + k))) := by rw [HW.out]; exact HC.out (T + k) (by omega)
      have u1 := wrap_small ((T : Int) + (k : Int)) (by omega) (by omega)
      cases hc : cm (T + k) with
      | true =>
        rw [hc] at x1
        have HE : Hid (∀ i, i < k + 1 → cm (T + i) = true) := by
          show ∀ i, _ → _
          intro i hi
          by_cases e : i = k
          · rw [e]; exact hc
          · exact hE.out i (by omega)
        clear hc hE
        go_wp2_with fail
        go_quiet (fail)
        go_wp2_with fail
        go_roundg (60 - T - (k + 1))
        case measure => have := HK.out; omega
        case rel =>
          obtain ⟨m2, e2⟩ := HW2.out _
          exact ⟨k + 1, m2, by have := HK.out; omega, by go_num, HE, e2⟩
      | false =>
        rw [hc] at x1
        have HR : Hid (r = (k : Int)) := HS.out k (by omega) hE.out hc
        clear hc hE
        go_wp2_with fail
        go_quiet (fail)
        go_wp2_with fail
        go_ret
        exact ⟨by rw [HR.out]; rfl, HW2.out _⟩
    · have HR : Hid (r = 60 - (T : Int)) := HA.out fun i hi => hE.out i (by have := HK.out; omega)
      go_wp2_with fail
      go_ret
      exact ⟨by rw [HR.out]; rfl, HW2.out 0⟩
end Go.Proofs.YtegelodkopommaaGreatDoor.Sy
