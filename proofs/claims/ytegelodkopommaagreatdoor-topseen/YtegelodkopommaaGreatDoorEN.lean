/- What takeFrame answers, and what it leaves. -/
import Derived.Test.YtegelodkopommaaGreatDoorEM
import Derived.Test.YtegelodkopommaaGreatDoorGF
import Derived.Deep.RegionHeld3
import Derived.Great.Walk
import Derived.Deep.RegionLaw
namespace Go.Proofs.YtegelodkopommaaGreatDoor
open Go.RowKit Go.Lib Go.Sort
set_option linter.unusedVariables false
set_option linter.unusedSimpArgs false


theorem ecell_l {e : En} {l : Int} {vl vc : Value} {i : Nat} (h : i ≠ 121) : ecell { e with l := l } vl vc i = ecell e vl vc i := by
  unfold ecell
  simp only [h, if_false]
theorem EO.setL {w : World} {B eb : Nat} {vl vc : Value} {e : En} {l z : Int} (h : EO w B eb vl vc e) (hi : EInv { e with l := l }) (hz : z = l) : TurnI w (w.setCell ⟨eb, 121, none⟩ (.int .i64 z)) B eb vl vc { e with l := l } := by
  subst hz
  have o : Off (fun k => k = eb) w (w.setCell ⟨eb, 121, none⟩ (.int .i64 z)) := (Off.refl _ _).setCell (K := fun k => k = eb) (a := ⟨eb, 121, none⟩) rfl _
  refine ⟨⟨hi, fun i hi => ?_, fun i => by simpa using h.fz i, h.hs, o.row h.ld (fun k hk e' => by subst e'; exact h.ap.1 hk), o.row h.cm (fun k hk e' => by subst e'; exact h.ap.2 hk), h.ap⟩, o⟩
  by_cases e1 : i = 121
  · subst e1
    exact World.cell?_setCell_same _ _ _ (h.cl 121 (by omega))
  · rw [World.cell?_setCell_other _ _ _ _ (fun e' => by injection e' with _ e' _; exact e1 e'.symm), h.cl i hi]
    exact congrArg some (ecell_l e1).symm
set_option maxRecDepth 100000 in
set_option maxHeartbeats 4000000 in
theorem tf_other {w : World} {B eb : Nat} {vl vc u : Value} {e : En} {ns : List Int} {d : ByteArray} (h : EO w B eb vl vc e) (hR : IRow w u ns) (hue : u.ownBlock ≠ some eb) {k : Int} (k2 : ¬ k = 2) (k4 : ¬ k = 4) (k3 : ¬ k = 3) : Calls Tryz.prog 33 #[.pointer (some ⟨eb, 0, none⟩), .agg #[.int .i64 k, u, .string d]] w fun ex w' => ex = .returned (.iface 55 (.int .i64 3)) ∧ TurnI w w' B eb vl vc e := by
  have HO : Hid (EO w B eb vl vc e) := h
  obtain ⟨ao, c, rfl, hl, hc, hz⟩ := hR
  have hb0 : Below w.heap.size w (w.alloc (.cells #[.int .i64 k, .slice ao ns.length c, .string d] 32)) := (Below.refl _ _).alloc (Nat.le_refl _) _
  have q0 : (w.alloc (.cells #[.int .i64 k, .slice ao ns.length c, .string d] 32)).cell? ⟨w.heap.size, 0, none⟩ = some (.int .i64 k) := by simp
  have q1 : (w.alloc (.cells #[.int .i64 k, .slice ao ns.length c, .string d] 32)).cell? ⟨w.heap.size, 1, none⟩ = some (.slice ao ns.length c) := by simp
  have q2 : (w.alloc (.cells #[.int .i64 k, .slice ao ns.length c, .string d] 32)).cell? ⟨w.heap.size, 2, none⟩ = some (.string d) := by simp
  have hpb : w.heap.size < (w.alloc (.cells #[.int .i64 k, .slice ao ns.length c, .string d] 32)).heap.size := by simp
  have hne : w.heap.size ≠ eb := by have := h.lt; omega
  have HB0 : Hid (Below w.heap.size w (w.alloc (.cells #[.int .i64 k, .slice ao ns.length c, .string d] 32))) := hb0
  clear h hb0
  go_enter Tryz.func33, Tryz.ntmps33
  go_wp2_with fail
  go_ret
  exact ⟨rfl, TurnI.below HO.out HB0.out⟩
set_option maxRecDepth 100000 in
set_option maxHeartbeats 4000000 in
theorem tf_piece {w : World} {B eb : Nat} {vl vc u : Value} {e : En} {ns : List Int} {d : ByteArray} (h : EO w B eb vl vc e) (hR : IRow w u ns) (hue : u.ownBlock ≠ some eb) {z : Int} (hns : ns = [z]) (hz0 : 0 ≤ z) (hz1 : z ≤ 1073741823) (hd : d.size ≤ 20) : Calls Tryz.prog 33 #[.pointer (some ⟨eb, 0, none⟩), .agg #[.int .i64 3, u, .string d]] w fun ex w' => ex = .returned (errV (pieceF e z d)) ∧ TurnI w w' B eb vl vc (pieceS e z d) := by
  subst hns
  have HO : Hid (EO w B eb vl vc e) := h
  obtain ⟨ao, c, rfl, hl, hc, hz⟩ := hR
  have hb0 : Below w.heap.size w (w.alloc (.cells #[.int .i64 3, .slice ao [z].length c, .string d] 32)) := (Below.refl _ _).alloc (Nat.le_refl _) _
  have q0 : (w.alloc (.cells #[.int .i64 3, .slice ao [z].length c, .string d] 32)).cell? ⟨w.heap.size, 0, none⟩ = some (.int .i64 3) := by simp
  have q1 : (w.alloc (.cells #[.int .i64 3, .slice ao [z].length c, .string d] 32)).cell? ⟨w.heap.size, 1, none⟩ = some (.slice ao [z].length c) := by simp
  have q2 : (w.alloc (.cells #[.int .i64 3, .slice ao [z].length c, .string d] 32)).cell? ⟨w.heap.size, 2, none⟩ = some (.string d) := by simp
  have hpb : w.heap.size < (w.alloc (.cells #[.int .i64 3, .slice ao [z].length c, .string d] 32)).heap.size := by simp
  have hne : w.heap.size ≠ eb := by have := h.lt; omega
  have HB0 : Hid (Below w.heap.size w (w.alloc (.cells #[.int .i64 3, .slice ao [z].length c, .string d] 32))) := hb0
  obtain ⟨b, off, rfl, hb, hC⟩ : ∃ b off, ao = some ⟨b, off, none⟩ ∧ b < w.heap.size ∧ ICells w b off [z] := by
    rcases hz with e1 | e1
    · cases e1
    · exact e1
  have n0 : w.cell? ⟨b, off, none⟩ = some (.int .i64 z) := by simpa using hC 0 (by simp)
  obtain ⟨pf, hpf⟩ : ∃ pf, pieceF e z d = pf := ⟨_, rfl⟩
  rw [hpf]
  clear h hb0
  go_enter Tryz.func33, Tryz.ntmps33
  go_wp2_with fail
  have p0 := (HB0.out.cell (p := ⟨b, off, none⟩) hb).trans n0
  have hlen : [z].length = 1 := rfl
  generalize w.alloc (.cells #[.int .i64 3, .slice (some ⟨b, off, none⟩) [z].length c, .string d] 32) = W at *
  rw [hlen] at *
  have k0 : W.drew.cell? ⟨w.heap.size, 0, none⟩ = some (.int .i64 3) := q0
  have k1 : W.drew.cell? ⟨w.heap.size, 1, none⟩ = some (.slice (some ⟨b, off, none⟩) 1 c) := q1
  have k2 : W.drew.cell? ⟨w.heap.size, 2, none⟩ = some (.string d) := q2
  have k3 : W.drew.cell? ⟨b, off, none⟩ = some (.int .i64 z) := p0
  have HOW : Hid (EO W.drew B eb vl vc e) := HO.out.below (HB0.out.drew)
  have HTP := takePiece_calls HOW.out z d hz0 hz1 hd
  have HFW : Hid (Off (fun k => k = eb) w W.drew) := Off.of_below (HB0.out.drew)
  have hbe : b ≠ eb := fun e' => hue (by rw [← e']; rfl)
  rw [hpf] at HTP
  clear hpf
  go_region_held3 (fun w' => w'.cell? ⟨w.heap.size, 1, none⟩ = some (.slice (some ⟨b, off, none⟩) 1 c) ∧ w'.cell? ⟨w.heap.size, 2, none⟩ = some (.string d) ∧ w'.cell? ⟨b, off, none⟩ = some (.int .i64 z)) (go_keep) (first | (go_at_call 54; refine HTP.mono ?_; rintro ex w2 ⟨rfl, ht2⟩; have z1 := ht2.2.cell k1 hne; have z2 := ht2.2.cell k2 hne; have z3 := ht2.2.cell k3 hbe))
  all_goals go_wp2_with fail
  all_goals go_ret
  all_goals exact ⟨rfl, ht2.1, HFW.out.trans ht2.2⟩
set_option maxRecDepth 100000 in
set_option maxHeartbeats 4000000 in
theorem tf_credit {w : World} {B eb : Nat} {vl vc u : Value} {e : En} {ns : List Int} {d : ByteArray} (h : EO w B eb vl vc e) (hR : IRow w u ns) (hue : u.ownBlock ≠ some eb) {z : Int} (hns : ns = [z]) (hi : EInv { e with l := max e.l z }) : Calls Tryz.prog 33 #[.pointer (some ⟨eb, 0, none⟩), .agg #[.int .i64 4, u, .string d]] w fun ex w' => ex = .returned .nilIface ∧ TurnI w w' B eb vl vc { e with l := max e.l z } := by
  subst hns
  have HO : Hid (EO w B eb vl vc e) := h
  obtain ⟨ao, c, rfl, hl, hc, hz⟩ := hR
  have hb0 : Below w.heap.size w (w.alloc (.cells #[.int .i64 4, .slice ao [z].length c, .string d] 32)) := (Below.refl _ _).alloc (Nat.le_refl _) _
  have q0 : (w.alloc (.cells #[.int .i64 4, .slice ao [z].length c, .string d] 32)).cell? ⟨w.heap.size, 0, none⟩ = some (.int .i64 4) := by simp
  have q1 : (w.alloc (.cells #[.int .i64 4, .slice ao [z].length c, .string d] 32)).cell? ⟨w.heap.size, 1, none⟩ = some (.slice ao [z].length c) := by simp
  have q2 : (w.alloc (.cells #[.int .i64 4, .slice ao [z].length c, .string d] 32)).cell? ⟨w.heap.size, 2, none⟩ = some (.string d) := by simp
  have hpb : w.heap.size < (w.alloc (.cells #[.int .i64 4, .slice ao [z].length c, .string d] 32)).heap.size := by simp
  have hne : w.heap.size ≠ eb := by have := h.lt; omega
  have HB0 : Hid (Below w.heap.size w (w.alloc (.cells #[.int .i64 4, .slice ao [z].length c, .string d] 32))) := hb0
  obtain ⟨b, off, rfl, hb, hC⟩ : ∃ b off, ao = some ⟨b, off, none⟩ ∧ b < w.heap.size ∧ ICells w b off [z] := by
    rcases hz with e1 | e1
    · cases e1
    · exact e1
  have n0 : w.cell? ⟨b, off, none⟩ = some (.int .i64 z) := by simpa using hC 0 (by simp)
  clear h hb0
  go_enter Tryz.func33, Tryz.ntmps33
  go_wp2_with fail
  have p0 := (HB0.out.cell (p := ⟨b, off, none⟩) hb).trans n0
  have hlen : [z].length = 1 := rfl
  generalize w.alloc (.cells #[.int .i64 4, .slice (some ⟨b, off, none⟩) [z].length c, .string d] 32) = W at *
  rw [hlen] at *
  have HOW : Hid (EO W B eb vl vc e) := HO.out.below HB0.out
  have c121 := HOW.out.cl 121 (by omega)
  have f121 := HOW.out.fz 121
  rw [ecell_let] at c121
  have HI : Hid (EInv { e with l := max e.l z }) := hi
  clear hi
  have HT : Hid (∀ v, v = max e.l z → TurnI w (W.setCell ⟨eb, 121, none⟩ (.int .i64 v)).drew B eb vl vc { e with l := max e.l z }) := by
    show ∀ v, _ → _
    intro v hv
    have h1 := HOW.out.setL HI.out hv
    have h2 := TurnI.below h1.1 ((Below.refl _ (W.setCell ⟨eb, 121, none⟩ (.int .i64 v))).drew)
    exact ⟨h2.1, ((Off.of_below HB0.out).trans h1.2).trans h2.2⟩
  go_region
  all_goals go_wp2_with fail
  all_goals go_ret
  all_goals exact ⟨rfl, HT.out _ rfl⟩
/-- takeAck, of an Ack whose numbers lie apart from the End. -/
def AckC (ns : List Int) : Prop := ∀ (w : World) (B eb : Nat) (vl vc u : Value) (e : En), EO w B eb vl vc e → IRow w u ns → u.ownBlock ≠ some eb → Calls Tryz.prog 53 #[.pointer (some ⟨eb, 0, none⟩), u] w fun ex w' => ex = .returned (errV (stpE e (2, ns, nilB)).1) ∧ TurnI w w' B eb vl vc (stpE e (2, ns, nilB)).2
set_option maxRecDepth 100000 in
set_option maxHeartbeats 4000000 in
theorem tf_ack {w : World} {B eb : Nat} {vl vc u : Value} {e : En} {ns : List Int} {d : ByteArray} (h : EO w B eb vl vc e) (hR : IRow w u ns) (hue : u.ownBlock ≠ some eb) (hA : AckC ns) : Calls Tryz.prog 33 #[.pointer (some ⟨eb, 0, none⟩), .agg #[.int .i64 2, u, .string d]] w fun ex w' => ex = .returned (errV (stpE e (2, ns, nilB)).1) ∧ TurnI w w' B eb vl vc (stpE e (2, ns, nilB)).2 := by
  have HO : Hid (EO w B eb vl vc e) := h
  obtain ⟨ao, c, rfl, hl, hc, hz⟩ := hR
  have hb0 : Below w.heap.size w (w.alloc (.cells #[.int .i64 2, .slice ao ns.length c, .string d] 32)) := (Below.refl _ _).alloc (Nat.le_refl _) _
  have q0 : (w.alloc (.cells #[.int .i64 2, .slice ao ns.length c, .string d] 32)).cell? ⟨w.heap.size, 0, none⟩ = some (.int .i64 2) := by simp
  have q1 : (w.alloc (.cells #[.int .i64 2, .slice ao ns.length c, .string d] 32)).cell? ⟨w.heap.size, 1, none⟩ = some (.slice ao ns.length c) := by simp
  have q2 : (w.alloc (.cells #[.int .i64 2, .slice ao ns.length c, .string d] 32)).cell? ⟨w.heap.size, 2, none⟩ = some (.string d) := by simp
  have hpb : w.heap.size < (w.alloc (.cells #[.int .i64 2, .slice ao ns.length c, .string d] 32)).heap.size := by simp
  have hne : w.heap.size ≠ eb := by have := h.lt; omega
  have HB0 : Hid (Below w.heap.size w (w.alloc (.cells #[.int .i64 2, .slice ao ns.length c, .string d] 32))) := hb0
  obtain ⟨pf, hpf⟩ : ∃ pf, (stpE e (2, ns, nilB)).1 = pf := ⟨_, rfl⟩
  rw [hpf]
  clear h hb0
  go_enter Tryz.func33, Tryz.ntmps33
  go_wp2_with fail
  have HA := hA _ B eb vl vc (.slice ao ns.length c) e (HO.out.below HB0.out) (IRow.below ⟨ao, c, rfl, hl, hc, hz⟩ HB0.out) hue
  rw [hpf] at HA
  clear hpf
  refine HA.mono ?_
  rintro ex w2 ⟨rfl, ht2⟩
  go_wp2_with fail
  go_ret
  exact ⟨rfl, ht2.1, (Off.of_below HB0.out).trans ht2.2⟩
/-- takeFrame, of a frame that is right, whose numbers lie apart from the End. -/
theorem takeFrame_calls {w : World} {B eb : Nat} {vl vc u : Value} {e : En} (h : EO w B eb vl vc e) (f : F) (hf : fF f = 0) (hR : IRow w u f.2.1) (hue : u.ownBlock ≠ some eb) (hA : f.1 = 2 → AckC f.2.1) : Calls Tryz.prog 33 #[.pointer (some ⟨eb, 0, none⟩), .agg #[.int .i64 f.1, u, .string f.2.2]] w fun ex w' => ex = .returned (errV (stpE e f).1) ∧ TurnI w w' B eb vl vc (stpE e f).2 := by
  have hi := h.inv.stp hf
  obtain ⟨k, ns, d⟩ := f
  obtain ⟨h1, h2, h3, h4, h5, h6⟩ := frF_ok hf
  simp only at hR hA h1 h2 h3 h4 h5 h6 ⊢
  by_cases k2 : k = 2
  · subst k2
    have hd : d = nilB := by
      have := h3 (by decide)
      apply ByteArray.ext
      exact Array.eq_empty_of_size_eq_zero this
    subst hd
    exact tf_ack h hR hue (hA rfl)
  · have hl : ns.length = cntK k := by
      unfold cntB at h2
      rw [if_neg k2] at h2
      exact of_decide_eq_true h2
    by_cases k4 : k = 4
    · subst k4
      obtain ⟨z, rfl⟩ : ∃ z, ns = [z] := List.length_eq_one_iff.1 hl
      have e1 : stpE e (4, [z], d) = (0, { e with l := max e.l z }) := rfl
      rw [e1] at hi ⊢
      exact tf_credit h hR hue rfl hi
    · by_cases k3 : k = 3
      · subst k3
        obtain ⟨z, rfl⟩ : ∃ z, ns = [z] := List.length_eq_one_iff.1 hl
        have hz := h4 z (by simp)
        rw [stp_piece]
        exact tf_piece h hR hue rfl (by omega) (by omega) h5
      · have e1 : stpE e (k, ns, d) = (3, e) := by
          unfold stpE
          rw [if_neg k2, if_neg k4, if_neg k3]
        rw [e1]
        exact tf_other h hR hue k2 k4 k3
end Go.Proofs.YtegelodkopommaaGreatDoor
