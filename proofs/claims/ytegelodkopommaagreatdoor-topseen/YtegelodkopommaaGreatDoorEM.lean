/- What takePiece and takeFrame answer, and what they leave. -/
import Derived.Test.YtegelodkopommaaGreatDoorEB
import Derived.Test.YtegelodkopommaaGreatDoorEL
import Derived.Test.YtegelodkopommaaGreatDoorGF
import Derived.Deep.RegionHeld3
import Derived.Great.Walk
import Derived.Deep.RegionLaw
namespace Go.Proofs.YtegelodkopommaaGreatDoor
open Go.RowKit Go.Lib Go.Sort
set_option linter.unusedVariables false
set_option linter.unusedSimpArgs false


/-- The End is now e; its loads and what came lie where they did. -/
def TurnI (w w' : World) (B eb : Nat) (vl vc : Value) (e : En) : Prop := EO w' B eb vl vc e ∧ Off (fun k => k = eb) w w'
theorem TurnI.trans {w w1 w2 : World} {B eb : Nat} {vl vc : Value} {e1 e2 : En} (h1 : TurnI w w1 B eb vl vc e1) (h2 : TurnI w1 w2 B eb vl vc e2) : TurnI w w2 B eb vl vc e2 := ⟨h2.1, h1.2.trans h2.2⟩
theorem TurnI.below {w w' : World} {B eb : Nat} {vl vc : Value} {e : En} (h : EO w B eb vl vc e) (hb : Below w.heap.size w w') : TurnI w w' B eb vl vc e := ⟨h.below hb, Off.of_below hb⟩
theorem ecell_c {e : En} {c : Cx.St} {vl vc : Value} {i : Nat} (h : i < 246 ∨ 250 ≤ i) : ecell { e with c := c } vl vc i = ecell e vl vc i := by
  unfold ecell
  rcases h with h | h
  · by_cases b1 : i < 60
    · simp only [b1, if_true]
    · by_cases b2 : i = 60
      · subst b2; rfl
      · by_cases b3 : i < 121
        · simp only [b1, b2, b3, if_true, if_false]
        · by_cases b4 : i < 125
          · have : i = 121 ∨ i = 122 ∨ i = 123 ∨ i = 124 := by omega
            rcases this with rfl | rfl | rfl | rfl <;> rfl
          · have a4 : ¬ i = 121 := by omega
            have a5 : ¬ i = 122 := by omega
            have a6 : ¬ i = 123 := by omega
            have a7 : ¬ i = 124 := by omega
            simp only [b1, b2, b3, a4, a5, a6, a7, h, if_true, if_false]
  · have a1 : ¬ i < 60 := by omega
    have a2 : ¬ i = 60 := by omega
    have a3 : ¬ i < 121 := by omega
    have a4 : ¬ i = 121 := by omega
    have a5 : ¬ i = 122 := by omega
    have a6 : ¬ i = 123 := by omega
    have a7 : ¬ i = 124 := by omega
    have a8 : ¬ i < 246 := by omega
    have a9 : ¬ i < 250 := by omega
    simp only [a1, a2, a3, a4, a5, a6, a7, a8, a9, if_false]
theorem ecell_s {e : En} {s : Sx.St} {vl vc : Value} {i : Nat} (h : i < 125 ∨ 246 ≤ i) : ecell { e with s := s } vl vc i = ecell e vl vc i := by
  unfold ecell
  rcases h with h | h
  · by_cases b1 : i < 60
    · simp only [b1, if_true]
    · by_cases b2 : i = 60
      · subst b2; rfl
      · by_cases b3 : i < 121
        · simp only [b1, b2, b3, if_true, if_false]
        · have : i = 121 ∨ i = 122 ∨ i = 123 ∨ i = 124 := by omega
          rcases this with rfl | rfl | rfl | rfl <;> rfl
  · have a1 : ¬ i < 60 := by omega
    have a2 : ¬ i = 60 := by omega
    have a3 : ¬ i < 121 := by omega
    have a4 : ¬ i = 121 := by omega
    have a5 : ¬ i = 122 := by omega
    have a6 : ¬ i = 123 := by omega
    have a7 : ¬ i = 124 := by omega
    have a8 : ¬ i < 246 := by omega
    simp only [a1, a2, a3, a4, a5, a6, a7, a8, if_false]
theorem EO.turnC {w w' : World} {B eb : Nat} {vl vc : Value} {e : En} {c : Cx.St} (h : EO w B eb vl vc e) (t : Cy.Turned w w' eb c) : TurnI w w' B eb vl vc { e with c := c } := by
  refine ⟨⟨⟨h.inv.d60, h.inv.t1, h.inv.l0, h.inv.l1, h.inv.m1, h.inv.k0, h.inv.k1, h.inv.ls, h.inv.s, t.obj.inv, h.inv.cm, h.inv.ll⟩, fun i hi => ?_, fun i => (t.fz i).trans (h.fz i), h.hs, t.off.row h.ld (fun k hk e' => by subst e'; exact h.ap.1 hk), t.off.row h.cm (fun k hk e' => by subst e'; exact h.ap.2 hk), h.ap⟩, t.off⟩
  by_cases a1 : i < 246 ∨ 250 ≤ i
  · rw [t.rest i a1, h.cl i hi]
    exact congrArg some (ecell_c a1).symm
  · obtain ⟨j, rfl⟩ : ∃ j, i = 246 + j := ⟨i - 246, by omega⟩
    rw [ecell_room (by omega)]
    have hj : j < 4 := by omega
    match j, hj with
    | 0, _ => exact t.obj.c0
    | 1, _ => exact t.obj.c1
    | 2, _ => exact t.obj.c2
    | 3, _ => exact t.obj.c3
theorem EO.turnS {w w' : World} {B eb : Nat} {vl vc : Value} {e : En} {s : Sx.St} (h : EO w B eb vl vc e) (t : Sy.Turned w w' eb s) : TurnI w w' B eb vl vc { e with s := s } := by
  obtain ⟨o, f⟩ := t
  refine ⟨⟨⟨h.inv.d60, h.inv.t1, h.inv.l0, h.inv.l1, h.inv.m1, h.inv.k0, h.inv.k1, h.inv.ls, o.inv, h.inv.c, h.inv.cm, h.inv.ll⟩, fun i hi => ?_, fun i => (f.fz i).trans (h.fz i), h.hs, f.off.row h.ld (fun k hk e' => by subst e'; exact h.ap.1 hk), f.off.row h.cm (fun k hk e' => by subst e'; exact h.ap.2 hk), h.ap⟩, f.off⟩
  by_cases a1 : i < 125 ∨ 246 ≤ i
  · rw [f.rest i (by omega), h.cl i hi]
    exact congrArg some (ecell_s a1).symm
  · obtain ⟨j, rfl⟩ : ∃ j, i = 125 + j := ⟨i - 125, by omega⟩
    rw [ecell_in (by omega)]
    by_cases b1 : j < 60
    · rw [scell_b b1]; exact o.cb j b1
    · by_cases b2 : j < 120
      · have h3 := o.cc (j - 60) (by omega)
        have h4 := scell_c (s := s) (i := j - 60) (by omega)
        rw [show 185 + (j - 60) = 125 + j by omega] at h3
        rw [show 60 + (j - 60) = j by omega] at h4
        rw [h3, h4]
      · obtain rfl : j = 120 := by omega
        exact o.ct
def pieceF (e : En) (p : Int) (d : ByteArray) : Int := if Cx.takeF e.c (p + d.size) ≠ 0 then Cx.takeF e.c (p + d.size) else Sx.putF e.s p d
def pieceS (e : En) (p : Int) (d : ByteArray) : En := if Cx.takeF e.c (p + d.size) ≠ 0 then e else { e with c := Cx.takeS e.c (p + d.size), s := Sx.putS e.s p d }
theorem stp_piece (e : En) (p : Int) (d : ByteArray) : stpE e (3, [p], d) = (pieceF e p d, pieceS e p d) := by
  unfold stpE
  rw [if_neg (show ¬ (3 : Int) = 2 by decide), if_neg (show ¬ (3 : Int) = 4 by decide), if_pos rfl]
  show (if Cx.takeF e.c (p + d.size) ≠ 0 then (Cx.takeF e.c (p + d.size), e) else (Sx.putF e.s p d, { e with c := Cx.takeS e.c (p + d.size), s := Sx.putS e.s p d })) = _
  unfold pieceF pieceS
  split <;> rfl
set_option maxRecDepth 100000 in
set_option maxHeartbeats 4000000 in
theorem takePiece_calls {w : World} {B eb : Nat} {vl vc : Value} {e : En} (h : EO w B eb vl vc e) (p : Int) (d : ByteArray) (hp0 : 0 ≤ p) (hp1 : p ≤ 1073741823) (hd : d.size ≤ 20) : Calls Tryz.prog 54 #[.pointer (some ⟨eb, 0, none⟩), .agg #[.int .i64 p, .string d]] w fun ex w' => ex = .returned (errV (pieceF e p d)) ∧ TurnI w w' B eb vl vc (pieceS e p d) := by
  have HO : Hid (EO w B eb vl vc e) := h
  have hb0 : Below w.heap.size w (w.alloc (.cells #[.int .i64 p, .string d] 112)) := (Below.refl _ _).alloc (Nat.le_refl _) _
  obtain ⟨q0, q1⟩ := Sx.box_cells w p d
  have hpb : w.heap.size < (w.alloc (.cells #[.int .i64 p, .string d] 112)).heap.size := by simp
  have hne : w.heap.size ≠ eb := by have := h.lt; omega
  have u1 := Sx.wrap_small (p + (d.size : Int)) (by omega) (by omega)
  obtain ⟨u, hu⟩ : ∃ u, p + (d.size : Int) = u := ⟨_, rfl⟩
  have HU : Hid (p + (d.size : Int) = u) := hu
  clear h
  go_enter Tryz.func54, Tryz.ntmps54
  go_wp2_with fail
  have HB0 : Hid (Below w.heap.size w (w.alloc (.cells #[.int .i64 p, .string d] 112))) := hb0
  generalize w.alloc (.cells #[.int .i64 p, .string d] 112) = W at *
  have k0 : W.drew.cell? ⟨w.heap.size, 0, none⟩ = some (.int .i64 p) := q0
  have k1 : W.drew.cell? ⟨w.heap.size, 1, none⟩ = some (.string d) := q1
  have HOW : Hid (EO W.drew B eb vl vc e) := HO.out.below (HB0.out.drew)
  have HCT := Cy.take_calls HOW.out.cy u
  rw [hu] at u1
  obtain ⟨f, hf⟩ : ∃ f, Cx.takeF e.c u = f := ⟨_, rfl⟩
  have HFF : Hid (Cx.takeF e.c u = f) := hf
  rw [hf] at HCT
  clear hf q0 q1 hb0
  have hrw : IntKind.i64.wrap (p + (d.size : Int)) = u := by rw [hu]; exact u1
  clear hu
  go_region_held3 (fun w' => w'.cell? ⟨w.heap.size, 0, none⟩ = some (.int .i64 p) ∧ w'.cell? ⟨w.heap.size, 1, none⟩ = some (.string d)) (go_keep) (first | (go_at_call 80; refine HCT.mono ?_; rintro ex w2 ⟨rfl, ht2⟩; have z0 := ht2.off.cell k0 hne; have z1 := ht2.off.cell k1 hne))
  have HT2 : Hid (TurnI w w2 B eb vl vc { e with c := Cx.takeS e.c u }) := ⟨(HOW.out.turnC ht2).1, (Off.of_below (HB0.out.drew)).trans ht2.off⟩
  by_cases h0 : f = 0
  · subst h0
    rw [errV_0]
    have HOW2 : Hid (EO w2.drew B eb vl vc { e with c := Cx.takeS e.c u }) := HT2.out.1.below ((Below.refl _ _).drew)
    have HPT := Sy.put_calls HOW2.out.sy HOW2.out.lt p d (by omega)
    have y0 : w2.drew.cell? ⟨w.heap.size, 0, none⟩ = some (.int .i64 p) := z0
    have y1 : w2.drew.cell? ⟨w.heap.size, 1, none⟩ = some (.string d) := z1
    have HPF : Hid (pieceF e p d = Sx.putF e.s p d ∧ pieceS e p d = { e with c := Cx.takeS e.c u, s := Sx.putS e.s p d }) := by
      unfold pieceF pieceS
      rw [HU.out, HFF.out]
      exact ⟨rfl, rfl⟩
    clear HCT
    generalize hpf : Sx.putF e.s p d = pf at HPT HPF
    clear hpf
    go_wp2_with fail
    go_region_held3 (fun w' => w'.cell? ⟨w.heap.size, 0, none⟩ = some (.int .i64 p) ∧ w'.cell? ⟨w.heap.size, 1, none⟩ = some (.string d)) (go_keep) (first | (go_at_call 81; refine HPT.mono ?_; rintro ex w3 ⟨rfl, ht3⟩; have x0 := ht3.2.off.cell y0 hne; have x1 := ht3.2.off.cell y1 hne))
    all_goals go_wp2_with fail
    all_goals go_ret
    all_goals refine ⟨by rw [HPF.out.1]; rfl, ?_⟩
    all_goals rw [HPF.out.2]
    all_goals exact ⟨(HOW2.out.turnS ht3).1, (HT2.out.2.trans (Off.of_below ((Below.refl _ _).drew))).trans ht3.2.off⟩
  · have HPF : Hid (pieceF e p d = f ∧ pieceS e p d = e) := by
      unfold pieceF pieceS
      rw [HU.out, HFF.out, if_pos h0, if_pos h0]
      exact ⟨rfl, rfl⟩
    have hts : Cx.takeS e.c u = e.c := Cx.takeS_no (by rw [HFF.out]; exact h0)
    rw [errV_f h0]
    go_wp2_with fail
    go_ret
    refine ⟨by rw [HPF.out.1, errV_f h0]; rfl, ?_⟩
    rw [HPF.out.2]
    have := HT2.out
    rw [hts] at this
    exact this
end Go.Proofs.YtegelodkopommaaGreatDoor
