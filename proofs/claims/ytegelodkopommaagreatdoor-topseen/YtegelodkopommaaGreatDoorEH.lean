/- What Make answers, and what it leaves. -/
import Derived.Test.YtegelodkopommaaGreatDoorEE
import Derived.Test.YtegelodkopommaaGreatDoorEG
import Derived.Test.YtegelodkopommaaGreatDoorGQ
import Derived.Deep.RegionHeld3
namespace Go.Proofs.YtegelodkopommaaGreatDoor
open Go.RowKit Go.Lib Go.Sort
set_option linter.unusedVariables false
set_option linter.unusedSimpArgs false


/-- keep, of the packet that is being made. -/
def KeepOK (e : En) : Prop := ∀ (w : World) (B eb : Nat) (vl vc : Value), EO w B eb vl vc e → Calls Tryz.prog 36 #[.pointer (some ⟨eb, 0, none⟩), .agg (brow (hadF (pk e).1 (pk e).2)).toArray] w fun ex w' => ex = .returned (.tuple #[]) ∧ ∃ vl', KeepPost w w' B eb vl vc e vl' (keepL e.ls e.m (pk e).1 (pk e).2)
theorem keepOK_nil {e : En} (h0 : e.ls = []) : KeepOK e := fun w B eb vl vc h => by
  rw [h0]
  have := keep_nil h (a := (pk e).1) (b := (pk e).2) rfl (by rw [h0]; simp) h0
  rw [h0] at this
  exact this
theorem ecell_m {e : En} {ls : List Ld} {vl vc : Value} {i : Nat} (h : i ≠ 122) : ecell { e with ls := ls, m := e.m + 1 } vl vc i = ecell e vl vc i := by
  unfold ecell
  simp only [h, if_false]
theorem Turn.made {w w' : World} {B eb : Nat} {vl vc vl' : Value} {e : En} (h : EO w B eb vl vc e) (h0 : makeF e = 0) (hk : KeepPost w w' B eb vl vc e vl' (keepL e.ls e.m (pk e).1 (pk e).2)) {z : Int} (hz : z = ((e.m + 1 : Nat) : Int)) :
    Turn w (w'.setCell ⟨eb, 122, none⟩ (.int .i64 z)) B eb vl vc (makeS e) := by
  subst hz
  have hi := h.inv.make
  have hs : makeS e = { e with ls := keepL e.ls e.m (pk e).1 (pk e).2, m := e.m + 1 } := by unfold makeS; rw [if_pos h0]
  rw [hs] at hi ⊢
  refine ⟨vl', vc, ⟨hi, fun i hi => ?_, fun i => by simpa using hk.fz i, h.hs, ?_, ?_, hk.ap, h.ap.2⟩, hk.off.setCell (a := ⟨eb, 122, none⟩) (.inl rfl) _, fun k hk' => ?_⟩
  · by_cases e1 : i = 122
    · subst e1
      rw [ecell_made]
      exact World.cell?_setCell_same _ _ _ (hk.cl 122 (by omega))
    · rw [ecell_m e1, World.cell?_setCell_other _ _ _ _ (fun e' => by injection e' with _ e' _; exact e1 e'.symm)]
      exact hk.cl i hi
  · exact ((Off.refl (fun k => k = eb) w').setCell (a := ⟨eb, 122, none⟩) rfl _).row hk.ld (fun k hk' e' => by subst e'; exact hk.ap hk')
  · exact ((Off.refl (fun k => k = eb) w').setCell (a := ⟨eb, 122, none⟩) rfl _).row hk.cm (fun k hk' e' => by subst e'; exact h.ap.2 hk')
  · rcases hk' with rfl | hk' | hk'
    · exact .inl (.inl rfl)
    · rcases hk.own k hk' with h | h
      · exact .inl (.inr (.inl h))
      · exact .inr h
    · exact .inl (.inr (.inr hk'))
set_option maxRecDepth 100000 in
set_option maxHeartbeats 4000000 in
theorem make_calls {w : World} {B eb : Nat} {vl vc : Value} {e : En} (h : EO w B eb vl vc e) (hK : KeepOK e) (hF : V.Forms w) (hC : Cnts w) :
    Calls Tryz.prog 17 #[.pointer (some ⟨eb, 0, none⟩)] w fun ex w' => ex = .returned (.string (makeB e)) ∧ Turn w w' B eb vl vc (makeS e) := by
  have HO : Hid (EO w B eb vl vc e) := h
  have HV : Hid (V.Forms w ∧ Cnts w) := ⟨hF, hC⟩
  have HKO : Hid (KeepOK e) := hK
  have HPI := pieces_calls h
  have hpb : ∀ p ∈ pieces e, p.1 + p.2.size ≤ 60 := fun p hp => by
    have := pcs_each e.d (en e) (en_le e) 3 e.t p hp
    have := h.inv.en60
    omega
  have HPB : Hid (∀ p ∈ pieces e, p.1 + p.2.size ≤ 60) := hpb
  have c122 := h.cl 122 (by omega)
  have c123 := h.cl 123 (by omega)
  rw [ecell_made] at c122
  rw [ecell_known] at c123
  have heb := h.lt
  have hfl : (frs e).length ≤ 1000000 := by
    have := pcs_length e.d (en e) 3 e.t
    unfold frs pieces
    split <;> simp <;> omega
  have HP : Hid (∀ b1 w2 v2 us, FOwn w2 b1 v2 us (frs e) → Below w.heap.size w w2 → Calls Tryz.prog 7 #[.int .i64 e.m, .int .i64 e.k, v2] w2 fun ex w' => ex = .returned (.tuple #[.string (makeB e), errV (makeF e)]) ∧ Below w2.heap.size w2 w') := by
    show ∀ b1 w2 v2 us, _ → _ → _
    intro b1 w2 v2 us h1 h2
    by_cases h0 : makeF e = 0
    · rw [h0, errV_0]
      have e1 : makeB e = pkS e.m e.k (frs e) := by unfold makeB; rw [if_pos h0]
      rw [e1]
      exact pkt_print_ok e.m e.k v2 (frs e) w2 (HV.out.1.below h2) (HV.out.2.below h2) (h1.row hfl) h0
    · have e1 : makeB e = nilB := by unfold makeB; rw [if_neg h0]
      rw [e1]
      exact pkt_print_no e.m e.k v2 (frs e) w2 (HV.out.1.below h2) (HV.out.2.below h2) (h1.row hfl) h0
  have HM : Hid (makeF e = 0 → (e.m : Int) ≤ 1073741823) := fun h0 => by have := makeF_m h0; omega
  clear hfl
  obtain ⟨ff, hff⟩ : ∃ ff, makeF e = ff := ⟨_, rfl⟩
  obtain ⟨bb, hbb⟩ : ∃ bb, makeB e = bb := ⟨_, rfl⟩
  have HFF : Hid (makeF e = ff) := hff
  rw [hff] at HP
  rw [hbb] at HP ⊢
  rw [hff] at HM
  have HBB : Hid (ff ≠ 0 → bb = { data := #[] }) := fun h0 => by rw [← hbb]; unfold makeB; rw [if_neg (by rw [hff]; exact h0)]; rfl
  clear hff hbb
  generalize hm : (e.m : Int) = m at *
  have HMM : Hid ((e.m : Int) = m) := hm
  generalize e.k = kk at *
  clear hm
  clear h hK hF hC hpb
  go_enter Tryz.func17, Tryz.ntmps17
  go_wp2_with fail
  refine HPI.mono ?_
  rintro ex w1 ⟨v1, rfl, hv1, hb1⟩
  clear HPI
  have k122 : w1.drew.cell? ⟨eb, 122, none⟩ = some (.int .i64 m) := (hb1.cell (p := ⟨eb, 122, none⟩) heb).trans c122
  have k123 : w1.drew.cell? ⟨eb, 123, none⟩ = some (.int .i64 kk) := (hb1.cell (p := ⟨eb, 123, none⟩) heb).trans c123
  have hb1d : Below w.heap.size w w1.drew := hb1.drew
  have heb1 : eb < w1.drew.heap.size := Nat.lt_of_lt_of_le heb hb1.size
  have HFR := frames_calls (HO.out.below hb1d) (show w1.drew.ownsRow w.heap.size 112 2 v1 (pieces e).length (pcell (pieces e)) from hv1)
  have HV1 : Hid (w1.ownsRow w.heap.size 112 2 v1 (pieces e).length (pcell (pieces e))) := hv1
  have HB1D : Hid (Below w.heap.size w w1.drew) := hb1d
  go_wp2_with fail
  go_region_held3 (fun w' => w'.cell? ⟨eb, 122, none⟩ = some (.int .i64 m) ∧ w'.cell? ⟨eb, 123, none⟩ = some (.int .i64 kk)) (go_keep) (first | (go_at_call 35; refine HFR.mono ?_; rintro ex w2 ⟨v2, us, rfl, ho2, hb2⟩; obtain ⟨a2, c2, hv2⟩ := own_sh ho2.own; subst hv2; have q0 := (hb2.cell (p := ⟨eb, 122, none⟩) heb1).trans k122; have q1 := (hb2.cell (p := ⟨eb, 123, none⟩) heb1).trans k123; have hB2 := HB1D.out.trans (hb2.mono HB1D.out.size); have heb2 := Nat.lt_of_lt_of_le heb1 hb2.size) | (go_at_call 7; refine (HP.out _ _ _ _ ho2 hB2).mono ?_; rintro ex w3 ⟨rfl, hb3⟩; have r0 := (hb3.cell (p := ⟨eb, 122, none⟩) heb2).trans q0; have r1 := (hb3.cell (p := ⟨eb, 123, none⟩) heb2).trans q1; have hB3 := hB2.trans (hb3.mono hB2.size)))
  have HB3 : Hid (Below w.heap.size w w3) := hB3
  have hw13 : Below w1.heap.size w1 w3 := (show Below w1.heap.size w1 w2 from ⟨hb2.os, hb2.tape, hb2.output, hb2.size, hb2.block⟩).trans (hb3.mono hb2.size)
  have HW13 : Hid (Below w1.heap.size w1 w3) := hw13
  clear hb2 hb3 hB2 hB3 ho2 hw13 q0 q1 r1 k122 k123 HFR HP c122 c123 hb1 hb1d heb2 heb1
  by_cases h0 : ff = 0
  · subst h0
    rw [errV_0]
    have HPL := placesOf_calls (own_below HV1.out HW13.out) (pcs_length _ _ _ _) HPB.out
    have HPK : Hid (brow (hadB (pieces e)) = brow (hadF (pk e).1 (pk e).2)) := brow_ext fun i _ => hadB_pieces HO.out.inv i
    rw [HPK.out] at HPL
    generalize hA : (brow (hadF (pk e).1 (pk e).2)).toArray = arr at HPL
    have hm2 := HM.out rfl
    have hm0 : 0 ≤ m := by have := HMM.out; omega
    have u1 := Sx.wrap_small (m + 1) (by omega) (by omega)
    go_wp2_with (first | (go_at_call 37; refine HPL.mono ?_; rintro ex w4 ⟨rfl, hb4⟩; have hB4 := HB3.out.trans (hb4.mono HB3.out.size); have HKE := HKO.out w4 B eb vl vc (HO.out.below hB4); rw [hA] at HKE) | (go_at_call 36; refine HKE.mono ?_; rintro ex w5 ⟨rfl, vl', kp⟩; have d122 := kp.cl 122 (by omega); rw [ecell_made, HMM.out] at d122; have f122 := kp.fz 122))
    go_ret
    refine ⟨rfl, ?_⟩
    have h1 : Turn w4 _ B eb vl vc (makeS e) := Turn.made (HO.out.below hB4) HFF.out kp (z := m + 1) (by rw [← HMM.out]; omega)
    exact Turn.trans (HO.out.below hB4) (Off.of_below hB4) (fun k hk => .inl hk) h1
  · have hbb := HBB.out h0
    subst hbb
    have hs : makeS e = e := by unfold makeS; rw [if_neg (by rw [HFF.out]; exact h0)]
    rw [errV_f h0]
    go_wp2_with fail
    go_ret
    exact ⟨rfl, Turn.below HO.out HB3.out⟩
end Go.Proofs.YtegelodkopommaaGreatDoor
