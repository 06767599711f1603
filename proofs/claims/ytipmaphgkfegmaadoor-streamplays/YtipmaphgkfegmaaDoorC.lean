/- What Put answers, and what it leaves. -/
import Derived.Test.YtipmaphgkfegmaaDoorB
namespace Go.Proofs.YtipmaphgkfegmaaDoor
open Go.RowKit Go.Lib Go.Sort
set_option linter.unusedVariables false
set_option linter.unusedSimpArgs false

theorem cell_away {w : World} {b sb j i : Nat} {u v : Value} (h : w.cell? ⟨b, i, none⟩ = some v) (e : b ≠ sb) : (w.setCell ⟨sb, j, none⟩ u).cell? ⟨b, i, none⟩ = some v := by
  rw [World.cell?_setCell_other _ _ _ _ (by intro e'; injection e' with e' _ _; exact e (by first | exact e' | exact e'.symm))]; exact h
theorem Obj.up' {w : World} {B sb : Nat} {s : St} {a n : Nat} {d : ByteArray} (h : Obj w B sb (upS s a d n)) (hn : a + n < 60) :
    Obj ((w.setCell ⟨sb, a + n, none⟩ (.int .u8 (bat d n))).drew.setCell ⟨sb, 60 + (a + n), none⟩ (.bool true)).drew B sb (upS s a d (n + 1)) :=
  (h.up hn).below ⟨rfl, rfl, rfl, Nat.le_refl _, fun _ _ => rfl⟩
theorem Off.up' {w w' : World} {sb : Nat} (h : Off (fun j => j = sb) w w') (i j : Nat) (u v : Value) : Off (fun j => j = sb) w ((w'.setCell ⟨sb, i, none⟩ u).drew.setCell ⟨sb, j, none⟩ v).drew :=
  ((h.setCell (a := ⟨sb, i, none⟩) rfl u).setCell (a := ⟨sb, j, none⟩) rfl v).trans (Off.of_below ⟨rfl, rfl, rfl, Nat.le_refl _, fun _ _ => rfl⟩)

set_option maxRecDepth 100000 in
set_option maxHeartbeats 2000000 in
theorem put_range {w : World} {B sb : Nat} {s : St} (h : Obj w B sb s) (p : Int) (d : ByteArray) (hp : placeB p = false) : Calls Tryd.prog 6 #[.pointer (some ⟨sb, 0, none⟩), .agg #[.int .i64 p, .string d]] w fun e w' => e = .returned (.iface 51 (.int .i64 1)) ∧ Turned w w' B sb s := by
  have hb0 : Below w.heap.size w (w.alloc (.cells #[.int .i64 p, .string d] 29)) := (Below.refl _ _).alloc (Nat.le_refl _) _
  obtain ⟨q0, q1⟩ := box_cells w p d
  go_enter Tryd.func6, Tryd.ntmps6
  go_wp2_with (go_at_call 17; refine (isPlace_calls p _).mono ?_; rintro e w1 ⟨rfl, rfl⟩; rw [hp])
  go_ret
  exact ⟨rfl, Turned.below h hb0⟩

set_option maxRecDepth 100000 in
set_option maxHeartbeats 2000000 in
theorem put_full {w : World} {B sb : Nat} {s : St} (h : Obj w B sb s) (p : Int) (d : ByteArray) (hp : placeB p = true) (h2 : 60 < p + (d.size : Int)) (hd : d.size ≤ 140737488351232) : Calls Tryd.prog 6 #[.pointer (some ⟨sb, 0, none⟩), .agg #[.int .i64 p, .string d]] w fun e w' => e = .returned (.iface 51 (.int .i64 4)) ∧ Turned w w' B sb s := by
  have hb0 : Below w.heap.size w (w.alloc (.cells #[.int .i64 p, .string d] 29)) := (Below.refl _ _).alloc (Nat.le_refl _) _
  obtain ⟨q0, q1⟩ := box_cells w p d
  obtain ⟨p0, p1⟩ : 0 ≤ p ∧ p ≤ 60 := of_decide_eq_true hp
  have h3 : 60 - p < (d.size : Int) := by omega
  go_enter Tryd.func6, Tryd.ntmps6
  go_wp2_with (go_at_call 17; refine (isPlace_calls p _).mono ?_; rintro e w1 ⟨rfl, rfl⟩; rw [hp])
  go_ret
  exact ⟨rfl, Turned.below h hb0⟩

set_option maxRecDepth 100000 in
set_option maxHeartbeats 2000000 in
theorem put_clash {w : World} {B sb : Nat} {s : St} (h : Obj w B sb s) (a : Nat) (d : ByteArray) (hd : a + d.size ≤ 60) (hc : clB s a d = true) : Calls Tryd.prog 6 #[.pointer (some ⟨sb, 0, none⟩), .agg #[.int .i64 (a : Int), .string d]] w fun e w' => e = .returned (.iface 51 (.int .i64 7)) ∧ Turned w w' B sb s := by
  have hb0 : Below w.heap.size w (w.alloc (.cells #[.int .i64 (a : Int), .string d] 29)) := (Below.refl _ _).alloc (Nat.le_refl _) _
  obtain ⟨q0, q1⟩ := box_cells w (a : Int) d
  have p0 : (a : Int) ≤ 60 := by omega
  have hp : placeB (a : Int) = true := decide_eq_true ⟨by omega, by omega⟩
  have h3 : (d.size : Int) ≤ 60 - (a : Int) := by omega
  go_enter Tryd.func6, Tryd.ntmps6
  go_wp2_with (go_at_call 17; refine (isPlace_calls (a : Int) _).mono ?_; rintro e w1 ⟨rfl, rfl⟩; rw [hp])
  refine (clashes_calls (h.below hb0) a d hd).mono ?_
  rintro e w2 ⟨rfl, hb2⟩
  have HB2 : Hid (Below w.heap.size w w2) := hb0.trans (hb2.mono hb0.size)
  have r0 := (hb2.cell (p := ⟨w.heap.size, 0, none⟩) (by simp)).trans q0
  have r1 := (hb2.cell (p := ⟨w.heap.size, 1, none⟩) (by simp)).trans q1
  rw [hc]
  clear hb0 hb2 q0 q1
  go_wp2_with fail
  go_ret
  exact ⟨rfl, Turned.below h HB2.out⟩

set_option maxRecDepth 100000 in
set_option maxHeartbeats 2000000 in
theorem put_yes {w : World} {B sb : Nat} {s : St} (h : Obj w B sb s) (a : Nat) (d : ByteArray) (hd : a + d.size ≤ 60) (hc : clB s a d = false) : Calls Tryd.prog 6 #[.pointer (some ⟨sb, 0, none⟩), .agg #[.int .i64 (a : Int), .string d]] w fun e w' => e = .returned .nilIface ∧ Turned w w' B sb (upS s a d d.size) := by
  have hb0 : Below w.heap.size w (w.alloc (.cells #[.int .i64 (a : Int), .string d] 29)) := (Below.refl _ _).alloc (Nat.le_refl _) _
  obtain ⟨q0, q1⟩ := box_cells w (a : Int) d
  have p0 : (a : Int) ≤ 60 := by omega
  have hp : placeB (a : Int) = true := decide_eq_true ⟨by omega, by omega⟩
  have h3 : (d.size : Int) ≤ 60 - (a : Int) := by omega
  go_enter Tryd.func6, Tryd.ntmps6
  go_wp2_with (go_at_call 17; refine (isPlace_calls (a : Int) _).mono ?_; rintro e w1 ⟨rfl, rfl⟩; rw [hp])
  refine (clashes_calls (h.below hb0) a d hd).mono ?_
  rintro e w2 ⟨rfl, hb2⟩
  have HB2 : Hid (Below w.heap.size w w2) := hb0.trans (hb2.mono hb0.size)
  have r0 := (hb2.cell (p := ⟨w.heap.size, 0, none⟩) (by simp)).trans q0
  have r1 := (hb2.cell (p := ⟨w.heap.size, 1, none⟩) (by simp)).trans q1
  rw [hc]
  clear hb0 hb2 q0 q1
  have HO : Hid (Obj w2 B sb (upS s a d 0)) := by show Obj _ _ _ _; rw [upS_zero]; exact h.below HB2.out
  have HX : Hid (w.heap.size ≠ sb ∧ w.heap.size < w2.heap.size) := ⟨by have := h.lt; omega, World.block_lt_of_cell? w2 _ r0⟩
  clear h hc
  go_wp2_with fail
  go_loopg [26] d.size (fun gk s26 wr => ∃ k : Nat, gk + k = d.size ∧ s26 = .int .i64 k ∧ Obj wr B sb (upS s a d k) ∧ Off (fun j => j = sb) w2 wr)
  case atStart => exact ⟨0, rfl, rfl, HO.out, Off.refl _ _⟩
  case round =>
    obtain ⟨k, hk, rfl, hO, hW⟩ := hrel
    have HK : Hid (gk + k = d.size) := hk
    clear hk
    have p0 := hW.cell (p := ⟨w.heap.size, 0, none⟩) r0 HX.out.1
    have p1 := hW.cell (p := ⟨w.heap.size, 1, none⟩) r1 HX.out.1
    by_cases g : (k : Int) < (d.size : Int)
    · have x0 := hO.cb (a + k) (by omega)
      have x1 := hO.cc (a + k) (by omega)
      have f0 := hO.fz (a + k) (by omega)
      have f1 := hO.fz (60 + (a + k)) (by omega)
      have hix := fun w => index_at (d := d) (k := k) (by omega) w
      have u1 := wrap_small ((a : Int) + (k : Int)) (by omega) (by omega)
      have hO2 := hO.up' (show a + k < 60 by omega)
      have hW2 := hW.up' (a + k) (60 + (a + k)) (.int .u8 (bat d k)) (.bool true)
      have p2 := cell_away (v := .int .i64 a) (j := a + k) (u := .int .u8 (bat d k)) p0 HX.out.1
      have x2 := cell_next (b := ⟨sb, a + k, none⟩) (u := .int .u8 (bat d k)) x1 (by show 60 + (a + k) ≠ a + k; omega)
      have f2 : (wr.setCell ⟨sb, a + k, none⟩ (.int .u8 (bat d k))).frozen? ⟨sb, 60 + (a + k), none⟩ = false := by simpa using f1
      have HO2 : Hid (Obj ((wr.setCell ⟨sb, a + k, none⟩ (.int .u8 (bat d k))).drew.setCell ⟨sb, 60 + (a + k), none⟩ (.bool true)).drew B sb (upS s a d (k + 1))) := hO2
      have HW2 : Hid (Off (fun j => j = sb) w2 ((wr.setCell ⟨sb, a + k, none⟩ (.int .u8 (bat d k))).drew.setCell ⟨sb, 60 + (a + k), none⟩ (.bool true)).drew) := hW2
      clear hO2 hW2
      go_wp2_with fail
      go_region
      clear p0 p1 x0 x1 f0 f1 hO hW hix
      generalize wr.setCell ⟨sb, a + k, none⟩ (.int .u8 (bat d k)) = W1 at p2 x2 f2 HO2 HW2 ⊢
      go_wp2_with fail
      go_region
      go_wp2_with fail
      go_roundg (d.size - (k + 1))
      case measure => have := HK.out; omega
      case rel => exact ⟨k + 1, by have := HK.out; omega, by go_num, HO2.out, HW2.out⟩
    · have e : k = d.size := by have := HK.out; omega
      subst e
      go_wp2_with fail
      go_ret
      exact ⟨rfl, hO, (Off.of_below HB2.out).trans hW⟩

theorem put_calls {w : World} {B sb : Nat} {s : St} (h : Obj w B sb s) (p : Int) (d : ByteArray) (hd : d.size ≤ 140737488351232) : Calls Tryd.prog 6 #[.pointer (some ⟨sb, 0, none⟩), .agg #[.int .i64 p, .string d]] w fun e w' => e = .returned (errV (putF s p d)) ∧ Turned w w' B sb (putS s p d) := by
  cases hp : placeB p with
  | false => rw [putS_no (by rw [putF_range hp]; decide), putF_range hp, errV_f (by decide)]; exact put_range h p d hp
  | true =>
    by_cases h2 : 60 < p + (d.size : Int)
    · rw [putS_no (by rw [putF_full hp h2]; decide), putF_full hp h2, errV_f (by decide)]; exact put_full h p d hp h2 hd
    · obtain ⟨p0, p1⟩ : 0 ≤ p ∧ p ≤ 60 := of_decide_eq_true hp
      obtain ⟨a, rfl⟩ : ∃ a : Nat, p = (a : Int) := ⟨p.toNat, by omega⟩
      cases hc : clB s a d with
      | true =>
        have e := putF_clash (s := s) (d := d) hp (by omega) (by simpa using hc)
        rw [putS_no (by rw [e]; decide), e, errV_f (by decide)]; exact put_clash h a d (by omega) hc
      | false =>
        have e := putF_yes (s := s) (d := d) hp (by omega) (by simpa using hc)
        rw [putS_yes e, e, errV_0]; exact put_yes h a d (by omega) hc
end Go.Proofs.YtipmaphgkfegmaaDoor
