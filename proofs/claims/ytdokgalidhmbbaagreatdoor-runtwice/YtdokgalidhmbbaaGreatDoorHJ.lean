/- What the laws of package run need. -/
import Derived.Test.YtdokgalidhmbbaaGreatDoorHU
import Derived.Test.YtdokgalidhmbbaaGreatDoorHW
set_option linter.unusedVariables false
set_option linter.unusedSimpArgs false
set_option maxRecDepth 100000
set_option maxHeartbeats 8000000
namespace Go.Proofs.YtdokgalidhmbbaaGreatDoor.Ez
open Go.RowKit Go.Lib Go.Sort


open Sx (bat)
variable {pz : Nat} {Qz : Nat → Option Value}
set_option maxRecDepth 100000 in
set_option maxHeartbeats 4000000 in
theorem next_none {w : World} {B eb : Nat} {vl vc : Value} {e : En} (h : EP pz Qz w B eb vl vc e) (h0 : e.cm = []) : Calls Tryz.prog 132 #[.pointer (some ⟨eb, pz, none⟩)] w fun ex w' => ex = .returned (.int .i64 (nextN e)) ∧ w' = w := by
  have c250 := h.cl 250 (by omega)
  rw [ecell_came] at c250
  obtain ⟨ao, c, hvc⟩ := own_sh h.cm
  rw [hvc, h0] at c250
  simp only [List.length_nil] at c250
  have hn : nextN e = 0 := by unfold nextN; rw [h0]
  rw [hn]
  go_enter Tryz.func132, Tryz.ntmps132
  go_wp2_with fail
  go_ret
  exact ⟨rfl, rfl⟩
set_option maxRecDepth 100000 in
set_option maxHeartbeats 4000000 in
theorem next_some {w : World} {B eb : Nat} {vl vc : Value} {e : En} (h : EP pz Qz w B eb vl vc e) (r : R) (rs : List R) (h0 : e.cm = r :: rs) : Calls Tryz.prog 132 #[.pointer (some ⟨eb, pz, none⟩)] w fun ex w' => ex = .returned (.int .i64 (nextN e)) ∧ w' = w := by
  have c250 := h.cl 250 (by omega)
  rw [ecell_came] at c250
  have hcm := h.cm
  have hg := (chk_ok e.cm).1 h.inv.cm
  rw [h0] at hcm hg
  obtain ⟨g, cap, rfl, _, _⟩ := hcm.form (by simp)
  have y1 := hcm.cellAt 1 (by simp; omega)
  have y2 : (flat (r :: rs))[1]? = some (.int .i64 r.2) := by simp [flat, encR]
  rw [y2] at y1
  have hn : nextN e = r.2 + 1 := by unfold nextN; rw [h0]
  have hb := (hg.2.1 r List.mem_cons_self).2
  have hle := norm_le hg.2.2 r List.mem_cons_self
  have hlo := (hg.2.1 r List.mem_cons_self).1
  rw [hn]
  have hl : 0 < (r :: rs).length := by simp
  clear hcm hg h y2 hn h0
  generalize (r :: rs).length = n at *
  obtain ⟨lo, hi⟩ := r
  simp only at *
  have g1 : ¬ (n : Int) = 0 := by omega
  have g2 : (0 : Int) < (n : Int) := by omega
  go_enter Tryz.func132, Tryz.ntmps132
  go_wp2_with fail
  go_ret
  exact ⟨rfl, rfl⟩
theorem next_calls {w : World} {B eb : Nat} {vl vc : Value} {e : En} (h : EP pz Qz w B eb vl vc e) : Calls Tryz.prog 132 #[.pointer (some ⟨eb, pz, none⟩)] w fun ex w' => ex = .returned (.int .i64 (nextN e)) ∧ w' = w := by
  cases h0 : e.cm with
  | nil => exact next_none h h0
  | cons r rs => exact next_some h r rs h0

theorem EP.copy {w W : World} {B eb ab : Nat} {vl vc : Value} {e : En} (h : EP pz Qz w B eb vl vc e) (hW : Off (fun k => k = ab) w W) (hr : W.rangeAt ab 0 (row 251 (ecell e vl vc))) (hf : ∀ i, W.frozen? ⟨ab, i, none⟩ = false) (ha : w.heap.size ≤ ab) : EO W B ab vl vc e := by
  have hn : ∀ k, OwnE eb vl vc k → k ≠ ab := fun k hk e' => by have := (h.own_lt hk).2; omega
  exact ⟨h.inv, fun i hi => by have := cell_row hr hi; rwa [Nat.zero_add] at this, hf, Nat.le_trans h.le ha, hW.row h.ld (fun k hk => hn k (.inr (.inl hk))), hW.row h.cm (fun k hk => hn k (.inr (.inr hk))), fun e' => hn ab (.inr (.inl e')) rfl, fun e' => hn ab (.inr (.inr e')) rfl⟩
theorem EP.range_all {w : World} {B eb : Nat} {vl vc : Value} {e : En} (h : EP pz Qz w B eb vl vc e) : w.rangeAt eb pz (row 251 (ecell e vl vc)) := row_range fun i hi => h.cl i hi
end Go.Proofs.YtdokgalidhmbbaaGreatDoor.Ez
namespace Go.Proofs.YtdokgalidhmbbaaGreatDoor.Ez
open Go.RowKit Go.Lib Go.Sort


open Sx (bat)
variable {pz : Nat} {Qz : Nat → Option Value}
/-- What lies in the copy's block is stored back. -/
theorem take_end {w w5 : World} {B eb ab : Nat} {vl vc v' : Value} {e e' : En} {cm : List R} (h : EP pz Qz w B eb vl vc e) (ha : w.heap.size ≤ ab) (ho : Off (fun k => k = ab) w w5) (h5 : EO w5 B ab vl vc e') (hi : EInv { e' with cm := cm }) (hv : w5.ownsRow w.heap.size 143 2 v' cm.length (flat cm)) (hva : v'.ownBlock ≠ some ab) :
    ∃ W6 W7, Hid (W6 = w5.setCell ⟨ab, 250, none⟩ v') ∧ Hid (W7 = W6.setCells eb pz (row 251 (ecell { e' with cm := cm } vl v'))) ∧ W6.rangeAt ab 0 (row 251 (ecell { e' with cm := cm } vl v')) ∧ W6.there eb pz 251 ∧ (∀ i, (ecell { e' with cm := cm } vl v' i).oneCell' = true) ∧ TurnP pz Qz w W7 B eb vl vc { e' with cm := cm } := by
  have hne : eb ≠ ab := by have := h.lt; omega
  have ho6 : Off (fun k => k = ab) w (w5.setCell ⟨ab, 250, none⟩ v') := ho.setCell (a := ⟨ab, 250, none⟩) rfl _
  have hE6 : EP pz Qz (w5.setCell ⟨ab, 250, none⟩ v') B eb vl vc e := h.off ho6 fun k hk e' => by have := (h.own_lt hk).2; omega
  have hv6 : (w5.setCell ⟨ab, 250, none⟩ v').ownsRow w.heap.size 143 2 v' cm.length (flat cm) := ((Off.refl (fun k => k = ab) w5).setCell (a := ⟨ab, 250, none⟩) rfl _).row hv fun k hk e' => by subst e'; exact hva hk
  have hr6 : (w5.setCell ⟨ab, 250, none⟩ v').rangeAt ab 0 (row 251 (ecell { e' with cm := cm } vl v')) := row_range fun i hi => by
    rw [Nat.zero_add]
    by_cases e1 : i = 250
    · subst e1
      exact World.cell?_setCell_same _ _ _ (h5.cl 250 (by omega))
    · rw [World.cell?_setCell_other _ _ _ _ (fun e' => by injection e' with _ e' _; exact e1 e'.symm), h5.cl i hi]
      exact congrArg some (ecell_cm (by omega)).symm
  have hth := hE6.there 0 251 (by omega)
  have hone : ∀ i, (ecell { e' with cm := cm } vl v' i).oneCell' = true := fun i => ecell_one h5.ones.1 (by
    rcases hv.2 with ⟨e1, _⟩ | ⟨g, cap, cur, e1, _⟩ <;> rw [e1] <;> rfl) i
  refine ⟨_, _, rfl, rfl, hr6, hth, hone, ?_⟩
  have o7 : Off (fun k => k = eb) (w5.setCell ⟨ab, 250, none⟩ v') ((w5.setCell ⟨ab, 250, none⟩ v').setCells eb pz (row 251 (ecell { e' with cm := cm } vl v'))) := off_sets2 eb _ _ _
  have hld6 : (w5.setCell ⟨ab, 250, none⟩ v').ownsRow B 241 62 vl e'.ls.length (lds e'.ls) := ((Off.refl (fun k => k = ab) w5).setCell (a := ⟨ab, 250, none⟩) rfl _).row h5.ld fun k hk e' => by subst e'; exact h5.ap.1 hk
  have hve : v'.ownBlock ≠ some eb := fun e' => by have := (hv.lt eb e').1; have := h.lt; omega
  refine ⟨vl, v', ⟨hi, fun i hi => ?_, fun i => by rw [World.frozen?_setCells]; exact hE6.fz i, fun i hi => by rw [World.cell?_setCells_out eb _ pz _ _ (fun _ _ => by rw [row_length]; show i < pz ∨ pz + 251 ≤ i; omega)]; exact hE6.rs i hi, h.hs, o7.row hld6 (fun k hk e' => by subst e'; exact h.ap.1 hk), own_mono (o7.row hv6 (fun k hk e' => by subst e'; exact hve hk)) h.le, h.ap.1, hve⟩, ?_, fun k hk => ?_⟩
  · exact cell_row (World.rangeAt_setCells_same (w5.setCell ⟨ab, 250, none⟩ v') eb pz (row 251 (ecell { e' with cm := cm } vl v')) (by rw [row_length]; exact hth)) hi
  · refine ⟨o7.os.trans ho6.os, o7.tape.trans ho6.tape, o7.output.trans ho6.output, Nat.le_trans ho6.size o7.size, fun k hk hn => ?_⟩
    rw [o7.block k (Nat.lt_of_lt_of_le hk ho6.size) (fun e' => hn (.inl e')), ho6.block k hk (fun e' => by omega)]
  · rcases hk with rfl | hk | hk
    · exact .inl (.inl rfl)
    · exact .inl (.inr (.inl hk))
    · exact .inr (hv.lt k hk).1
set_option maxRecDepth 100000 in
set_option maxHeartbeats 4000000 in
theorem take_a {w : World} {B eb : Nat} {vl vc : Value} {e : En} (h : EP pz Qz w B eb vl vc e) (b : ByteArray) (hl : b.size ≤ 9223372036854775807) (hF : V.Forms w) (hC : Cnts w) (h0 : opF b (nextN e) ≠ 0) : Calls Tryz.prog 102 #[.pointer (some ⟨eb, pz, none⟩), .string b] w fun ex w' => ex = .returned (errV (opF b (nextN e))) ∧ Below w.heap.size w w' := by
  have HN := next_calls h
  have HP := pkt_parse_no b (nextN e) w hF hC hl h0
  rw [errV_f h0] at HP ⊢
  clear h hF hC
  generalize opF b (nextN e) = ff at *
  generalize nextN e = nx at *
  go_enter Tryz.func102, Tryz.ntmps102
  go_wp2_with (first | (go_at_call 132; refine HN.mono ?_; rintro ex w1 ⟨rfl, hw1⟩; obtain rfl := hw1.symm) | (go_at_call 131; refine HP.mono ?_; rintro ex w2 ⟨rfl, hb2⟩))
  go_ret
  exact ⟨rfl, hb2⟩
set_option maxRecDepth 100000 in
set_option maxHeartbeats 4000000 in
theorem take_b {w : World} {B eb : Nat} {vl vc : Value} {e : En} (h : EP pz Qz w B eb vl vc e) (b : ByteArray) (hF : V.Forms w) (hC : Cnts w) (hm : U.mayB (nextN e) = true) (hl : b.size ≤ 200) (n : Int) (fs : List F) (hr : rdP b (nextN e) = some (n, fs)) (h0 : memB e.cm n = true) : Calls Tryz.prog 102 #[.pointer (some ⟨eb, pz, none⟩), .string b] w fun ex w' => ex = .returned .nilIface ∧ Below w.heap.size w w' := by
  have HN := next_calls h
  have HP := pkt_parse_yes b (nextN e) w hF hC hm hl n fs hr
  have HH := fun X (hX : Below w.heap.size w X) => hasx_ok vc e.cm n X (h.below hX).crow (rdP_may hr) h.inv.cm
  rw [h0] at HH
  have c250 := h.cl 250 (by omega)
  rw [ecell_came] at c250
  have heb := h.lt
  obtain ⟨ao, c, hvc⟩ := own_sh h.cm
  rw [hvc] at c250 HH
  clear h hF hC h0 hr
  generalize nextN e = nx at *
  generalize e.cm.length = nc at *
  go_enter Tryz.func102, Tryz.ntmps102
  go_wp2_with (first | (go_at_call 132; refine HN.mono ?_; rintro ex w1 ⟨rfl, hw1⟩; obtain rfl := hw1.symm) | (go_at_call 131; refine HP.mono ?_; rintro ex w2 ⟨v2, us, rfl, ho2, hb2⟩; obtain ⟨a2, c2, hv2⟩ := own_sh ho2.own; subst hv2; have d250 := (hb2.cell (p := ⟨eb, pz + 250, none⟩) heb).trans c250) | (go_at_call 133; refine (HH _ hb2).mono ?_; rintro ex w3 ⟨rfl, hb3⟩))
  go_ret
  exact ⟨rfl, hb2.trans (hb3.mono hb2.size)⟩
set_option maxRecDepth 100000 in
set_option maxHeartbeats 4000000 in
theorem take_full {w : World} {B eb : Nat} {vl vc : Value} {e : En} (h : EP pz Qz w B eb vl vc e) (b : ByteArray) (hF : V.Forms w) (hC : Cnts w) (hm : U.mayB (nextN e) = true) (hl : b.size ≤ 200) (n : Int) (fs : List F) (hr : rdP b (nextN e) = some (n, fs)) (h0 : memB e.cm n = false) (hA : ∀ f ∈ fs, f.1 = 2 → AckC f.2.1) (hfu : 12 < (addL e.cm n).length) :
    Calls Tryz.prog 102 #[.pointer (some ⟨eb, pz, none⟩), .string b] w fun ex w' => ex = .returned (errV (come e n fs).1) ∧ TurnP pz Qz w w' B eb vl vc (come e n fs).2 := by
  have HO : Hid (EP pz Qz w B eb vl vc e) := h
  have HMN : Hid (memB e.cm n = false) := h0
  have HAK : Hid (∀ f ∈ fs, f.1 = 2 → AckC f.2.1) := hA
  have HFU : Hid (12 < (addL e.cm n).length) := hfu
  have HMY : Hid (isN n = true) := rdP_may hr
  have HL12 : Hid (fs.length ≤ 12) := rdP_good hr
  have HN := next_calls h
  have HP := pkt_parse_yes b (nextN e) w hF hC hm hl n fs hr
  have HH := fun X (hX : Below w.heap.size w X) => hasx_ok vc e.cm n X (h.below hX).crow (rdP_may hr) h.inv.cm
  rw [h0] at HH
  have c250 := h.cl 250 (by omega)
  rw [ecell_came] at c250
  have heb := h.lt
  obtain ⟨ao, c, hvc⟩ := own_sh h.cm
  have HVC : Hid (vc = .slice ao e.cm.length c) := hvc
  rw [hvc] at c250 HH
  have hze := zero_end
  generalize hZ : (row 251 (ecell ⟨nilB, 0, 0, 0, 0, [], Sx.newS, ⟨0, 0, 0, 0⟩, []⟩ (.slice none 0 0) (.slice none 0 0))).toArray = ze at hze
  have HZ : Hid ((row 251 (ecell ⟨nilB, 0, 0, 0, 0, [], Sx.newS, ⟨0, 0, 0, 0⟩, []⟩ (.slice none 0 0) (.slice none 0 0))).toArray = ze) := hZ
  obtain ⟨cf, hcf⟩ : ∃ cf, (come e n fs).1 = cf := ⟨_, rfl⟩
  rw [hcf]
  have HCF : Hid ((come e n fs).1 = cf) := hcf
  have HLD : Hid (∀ w3, Below w.heap.size w w3 → w3.rangeAt eb pz (row 251 (ecell e vl vc)) ∧ ∃ W, Hid (W = (w3.alloc (.cells ze 104)).setCells w3.heap.size 0 (row 251 (ecell e vl vc))) ∧ (w3.alloc (.cells ze 104)).there w3.heap.size 0 251 ∧ EO W B w3.heap.size vl vc e ∧ Off (fun k => k = w3.heap.size) w3 W) := by
    show ∀ w3, _ → _
    intro w3 hb
    have h3 := HO.out.below hb
    have hth : (w3.alloc (.cells ze 104)).there w3.heap.size 0 251 := by rw [← HZ.out]; exact there_row w3 _ 251 _
    have oW : Off (fun k => k = w3.heap.size) w3 ((w3.alloc (.cells ze 104)).setCells w3.heap.size 0 (row 251 (ecell e vl vc))) := ((Off.refl (fun k => k = w3.heap.size) w3).alloc _).trans (off_sets2 _ _ _ _)
    refine ⟨h3.range_all, _, rfl, hth, ?_, oW⟩
    exact h3.copy oW (World.rangeAt_setCells_same _ _ _ _ (by rw [row_length]; exact hth)) (fun i => by rw [World.frozen?_setCells]; exact fz_new w3 _ _ i) (Nat.le_refl _)
  have HEO : Hid (∀ i, (ecell e vl vc i).oneCell' = true) := fun i => ecell_one h.ones.1 h.ones.2 i
  clear h hF hC h0 hr hA hfu hZ hvc hcf
  generalize nextN e = nx at *
  generalize hnc : e.cm.length = nc at c250 HH
  clear hnc
  go_enter Tryz.func102, Tryz.ntmps102
  go_wp2_with (first | (go_at_call 132; refine HN.mono ?_; rintro ex w1 ⟨rfl, hw1⟩; obtain rfl := hw1.symm) | (go_at_call 131; refine HP.mono ?_; rintro ex w2 ⟨v2, us, rfl, ho2, hb2⟩; obtain ⟨a2, c2, hv2⟩ := own_sh ho2.own; subst hv2; have d250 := (hb2.cell (p := ⟨eb, pz + 250, none⟩) heb).trans c250) | (go_at_call 133; refine (HH _ hb2).mono ?_; rintro ex w3 ⟨rfl, hb3⟩; have hB3 := hb2.trans (hb3.mono hb2.size); obtain ⟨hrg, W, HW, hth, hoW, hfW⟩ := HLD.out w3 hB3) | (refine row_load_op (n := 251) (f := ecell e vl vc) (ty := 104) rfl (.tmp 40) rfl eb pz rfl hrg (by kernel_rfl) (by kernel_rfl) ?_) | (refine row_store_to (n := 251) (f := ecell e vl vc) (ty := 104) rfl (.tmp 9) (.tmp 41) rfl w3.heap.size 0 rfl rfl hth (by kernel_rfl) HEO.out HW ?_))
  have HB3 : Hid (Below w.heap.size w w3) := hB3
  have HOF : Hid (FOwn w3 w.heap.size (.slice a2 fs.length c2) us fs) := ho2.below hb3
  have HAB : Hid (EO W B w3.heap.size vl vc e) := hoW
  have HFW : Hid (Off (fun k => k = w3.heap.size) w3 W) := hfW
  clear HN HP HH HLD hze hrg hth HW hoW hfW ho2 hb2 hb3 hB3 d250 c250
  obtain ⟨ab, hab⟩ : ∃ ab, w3.heap.size = ab := ⟨_, rfl⟩
  have HLA : Hid (w3.heap.size = ab) := hab
  rw [hab] at HAB HFW ⊢
  clear hab
  generalize hM : fs.length = m at HOF ⊢
  have HM : Hid (fs.length = m) := hM
  clear hM
  go_loopg [44] m (fun gk s44 wr => ∃ (k : Nat) (e' : En), gk + k = m ∧ s44 = .int .i64 k ∧ Hid (runF fs e = runF (fs.drop k) e') ∧ Hid (EO wr B ab vl vc e') ∧ Hid (Off (fun j => j = ab) w3 wr))
  case atStart => exact ⟨0, e, rfl, rfl, rfl, HAB, HFW⟩
  case round =>
    obtain ⟨k, e', hk, rfl, HR, HE, HF⟩ := hrel
    have HK : Hid (gk + k = m) := hk
    clear hk
    have HOFr : Hid (FOwn wr w.heap.size (.slice a2 m c2) us fs) := HOF.out.off HF.out (fun k hk e1 => by have := (HOF.out.own.lt k hk).2; have := HLA.out; omega) (fun j hj k hk e1 => by have := uat_own HOF.out hj hk; have := HLA.out; omega)
    have hwrn : w3.heap.size ≤ wr.heap.size := HF.out.size
    have hm12 : m ≤ 12 := by have := HL12.out; have := HM.out; omega
    by_cases g : (k : Int) < (m : Int)
    · have hkl : k < fs.length := by have := HM.out; omega
      obtain ⟨gb, capv, hv1, _, hgb⟩ := HOFr.out.own.form (by have := HM.out; omega)
      rw [HM.out] at hv1
      injection hv1 with i1 i2 i3
      subst i1 i3
      have hown := HOFr.out.own
      rw [HM.out] at hown
      have fg := fcs_get us fs k HOFr.out.len hkl
      have y0 := hown.cellAt (k * 3) (by omega)
      have y1 := hown.cellAt (k * 3 + 1) (by omega)
      have y2 := hown.cellAt (k * 3 + 2) (by omega)
      rw [fg.1] at y0
      rw [fg.2.1] at y1
      rw [fg.2.2] at y2
      have hui := HOFr.out.rows k hkl
      have hgood := HOFr.out.good k hkl
      have hmem := fat_mem hkl
      have HAF := HAK.out (fat fs k) hmem
      have hdr := fdrop hkl
      have hrn : runF fs e = runF (fat fs k :: fs.drop (k + 1)) e' := by rw [HR.out, hdr]
      have hsz := fF_small hgood
      have hub : (uat us k).ownBlock ≠ some ab := fun e1 => by have := uat_own HOF.out hkl e1; have := HLA.out; omega
      have bA : Below wr.heap.size wr (wr.alloc (.cells #[.int .i64 (fat fs k).1, uat us k, .string (fat fs k).2.2] 141)) := (Below.refl _ _).alloc (Nat.le_refl _) _
      have HTF := takeFrame_calls (HE.out.below bA) (fat fs k) hgood (irow_of_own (hui.below bA) (by omega)) hub HAF
      have HRN : Hid (runF fs e = runF (fat fs k :: fs.drop (k + 1)) e') := hrn
      obtain ⟨ua, uc, hus⟩ := own_sh hui
      have HFB : Hid (Off (fun j => j = ab) w3 (wr.alloc (.cells #[.int .i64 (fat fs k).1, uat us k, .string (fat fs k).2.2] 141))) := HF.out.trans (Off.of_below bA)
      rw [hus] at y1 HTF HFB
      clear hrn hdr hui hgood hmem HAF fg hown hsz hub bA hus hkl
      generalize fat fs k = f at *
      obtain ⟨fk, fns, fd⟩ := f
      simp only at y0 y1 y2 HTF HFB HRN
      generalize fns.length = fl at *
      by_cases hs : (stpE e' (fk, fns, fd)).1 = 0
      · have HN2 : Hid (runF fs e = runF (fs.drop (k + 1)) (stpE e' (fk, fns, fd)).2) := by show _ = _; rw [HRN.out, runF_cons hs]
        rw [hs, errV_0] at HTF
        clear hs HRN
        generalize (stpE e' (fk, fns, fd)).2 = e2 at *
        go_wp2_with (go_at_call 134; refine HTF.mono ?_; rintro ex w4 ⟨rfl, ht4⟩)
        go_roundg (m - (k + 1))
        case measure => have := HK.out; omega
        case rel => exact ⟨k + 1, e2, by have := HK.out; omega, by go_num, HN2, ht4.1, HFB.out.trans ht4.2⟩
      · have HN2 : Hid (come e n fs = ((stpE e' (fk, fns, fd)).1, e)) := by
          show _ = _
          unfold come
          rw [if_neg (by rw [HMN.out]; decide), HRN.out, runF_stop hs, if_pos hs]
        have hcf2 : cf = (stpE e' (fk, fns, fd)).1 := by rw [← HCF.out, HN2.out]
        rw [errV_f hs, ← hcf2] at HTF
        have hcf0 : cf ≠ 0 := by rw [hcf2]; exact hs
        have HC0 : Hid (cf ≠ 0) := hcf0
        clear hs HRN hcf2 hcf0
        generalize (stpE e' (fk, fns, fd)).2 = e2 at *
        go_wp2_with (go_at_call 134; refine HTF.mono ?_; rintro ex w4 ⟨rfl, ht4⟩)
        go_ret
        refine ⟨by rw [errV_f HC0.out]; rfl, ?_⟩
        rw [HN2.out]
        have o4 : Off (fun j => j = ab) w3 w4 := HFB.out.trans ht4.2
        exact TurnP.below HO.out (HB3.out.trans (o4.below (fun j hj => by rw [hj, ← HLA.out]; exact HB3.out.size) HB3.out.size))
    · have hk : k = m := by have := HK.out; omega
      have hrun : runF fs e = (0, e') := by
        rw [HR.out, List.drop_eq_nil_of_le (by have := HM.out; omega)]
        rfl
      have hE3 : EP pz Qz w3 B eb vl vc e := HO.out.below HB3.out
      have hEr : EP pz Qz wr B eb vl vc e := hE3.off HF.out fun j hj e1 => by have := (hE3.own_lt hj).2; have := HLA.out; omega
      have HEr : Hid (EP pz Qz wr B eb vl vc e) := hEr
      have r250 := hEr.cl 250 (by omega)
      rw [ecell_came, HVC.out] at r250
      have a250 := HE.out.cl 250 (by omega)
      rw [ecell_came] at a250
      have af := HE.out.fz 250
      have hAC := add_full (h := hEr.crow) hEr.inv.cm HMY.out HFU.out
      rw [HVC.out] at hAC a250
      have habr : ab < wr.heap.size := HE.out.lt
      have hebr : eb < wr.heap.size := hEr.lt
      have HCM : Hid (come e n fs = (4, e)) := by
        show _ = _
        unfold come
        rw [if_neg (by rw [HMN.out]; decide), hrun, if_neg (by simp), if_pos HFU.out]
      have hcf2 : cf = 4 := by rw [← HCF.out, HCM.out]
      subst hcf2
      clear hrun hEr hE3 hk
      rw [errV4] at hAC
      generalize hnc : e.cm.length = nc at *
      go_wp2_with (go_at_call 135; refine hAC.mono ?_; rintro ex w5 ⟨rfl, hb5⟩; have b250 := (hb5.cell (p := ⟨ab, 250, none⟩) habr).trans a250; have bf : w5.frozen? ⟨ab, 250, none⟩ = false := (World.frozen?_of_block (hb5.block ab habr)).trans af)
      go_ret
      refine ⟨rfl, ?_⟩
      rw [HCM.out]
      have o6 : Off (fun j => j = ab) w3 (w5.setCell ⟨ab, 250, none⟩ (.slice none 0 0)) := (HF.out.trans (Off.of_below hb5)).setCell (a := ⟨ab, 250, none⟩) rfl _
      exact TurnP.below HO.out (HB3.out.trans (o6.below (fun j hj => by rw [hj, ← HLA.out]; exact HB3.out.size) HB3.out.size))
set_option maxRecDepth 100000 in
set_option maxHeartbeats 4000000 in
theorem take_fits {w : World} {B eb : Nat} {vl vc : Value} {e : En} (h : EP pz Qz w B eb vl vc e) (b : ByteArray) (hF : V.Forms w) (hC : Cnts w) (hm : U.mayB (nextN e) = true) (hl : b.size ≤ 200) (n : Int) (fs : List F) (hr : rdP b (nextN e) = some (n, fs)) (h0 : memB e.cm n = false) (hA : ∀ f ∈ fs, f.1 = 2 → AckC f.2.1) (hfu : (addL e.cm n).length ≤ 12) :
    Calls Tryz.prog 102 #[.pointer (some ⟨eb, pz, none⟩), .string b] w fun ex w' => ex = .returned (errV (come e n fs).1) ∧ TurnP pz Qz w w' B eb vl vc (come e n fs).2 := by
  have HO : Hid (EP pz Qz w B eb vl vc e) := h
  have HMN : Hid (memB e.cm n = false) := h0
  have HAK : Hid (∀ f ∈ fs, f.1 = 2 → AckC f.2.1) := hA
  have HFU : Hid ((addL e.cm n).length ≤ 12) := hfu
  have HMY : Hid (isN n = true) := rdP_may hr
  have HL12 : Hid (fs.length ≤ 12) := rdP_good hr
  have HN := next_calls h
  have HP := pkt_parse_yes b (nextN e) w hF hC hm hl n fs hr
  have HH := fun X (hX : Below w.heap.size w X) => hasx_ok vc e.cm n X (h.below hX).crow (rdP_may hr) h.inv.cm
  rw [h0] at HH
  have c250 := h.cl 250 (by omega)
  rw [ecell_came] at c250
  have heb := h.lt
  obtain ⟨ao, c, hvc⟩ := own_sh h.cm
  have HVC : Hid (vc = .slice ao e.cm.length c) := hvc
  rw [hvc] at c250 HH
  have hze := zero_end
  generalize hZ : (row 251 (ecell ⟨nilB, 0, 0, 0, 0, [], Sx.newS, ⟨0, 0, 0, 0⟩, []⟩ (.slice none 0 0) (.slice none 0 0))).toArray = ze at hze
  have HZ : Hid ((row 251 (ecell ⟨nilB, 0, 0, 0, 0, [], Sx.newS, ⟨0, 0, 0, 0⟩, []⟩ (.slice none 0 0) (.slice none 0 0))).toArray = ze) := hZ
  obtain ⟨cf, hcf⟩ : ∃ cf, (come e n fs).1 = cf := ⟨_, rfl⟩
  rw [hcf]
  have HCF : Hid ((come e n fs).1 = cf) := hcf
  have HLD : Hid (∀ w3, Below w.heap.size w w3 → w3.rangeAt eb pz (row 251 (ecell e vl vc)) ∧ ∃ W, Hid (W = (w3.alloc (.cells ze 104)).setCells w3.heap.size 0 (row 251 (ecell e vl vc))) ∧ (w3.alloc (.cells ze 104)).there w3.heap.size 0 251 ∧ EO W B w3.heap.size vl vc e ∧ Off (fun k => k = w3.heap.size) w3 W) := by
    show ∀ w3, _ → _
    intro w3 hb
    have h3 := HO.out.below hb
    have hth : (w3.alloc (.cells ze 104)).there w3.heap.size 0 251 := by rw [← HZ.out]; exact there_row w3 _ 251 _
    have oW : Off (fun k => k = w3.heap.size) w3 ((w3.alloc (.cells ze 104)).setCells w3.heap.size 0 (row 251 (ecell e vl vc))) := ((Off.refl (fun k => k = w3.heap.size) w3).alloc _).trans (off_sets2 _ _ _ _)
    refine ⟨h3.range_all, _, rfl, hth, ?_, oW⟩
    exact h3.copy oW (World.rangeAt_setCells_same _ _ _ _ (by rw [row_length]; exact hth)) (fun i => by rw [World.frozen?_setCells]; exact fz_new w3 _ _ i) (Nat.le_refl _)
  have HEO : Hid (∀ i, (ecell e vl vc i).oneCell' = true) := fun i => ecell_one h.ones.1 h.ones.2 i
  clear h hF hC h0 hr hA hfu hZ hvc hcf
  generalize nextN e = nx at *
  generalize hnc : e.cm.length = nc at c250 HH
  clear hnc
  go_enter Tryz.func102, Tryz.ntmps102
  go_wp2_with (first | (go_at_call 132; refine HN.mono ?_; rintro ex w1 ⟨rfl, hw1⟩; obtain rfl := hw1.symm) | (go_at_call 131; refine HP.mono ?_; rintro ex w2 ⟨v2, us, rfl, ho2, hb2⟩; obtain ⟨a2, c2, hv2⟩ := own_sh ho2.own; subst hv2; have d250 := (hb2.cell (p := ⟨eb, pz + 250, none⟩) heb).trans c250) | (go_at_call 133; refine (HH _ hb2).mono ?_; rintro ex w3 ⟨rfl, hb3⟩; have hB3 := hb2.trans (hb3.mono hb2.size); obtain ⟨hrg, W, HW, hth, hoW, hfW⟩ := HLD.out w3 hB3) | (refine row_load_op (n := 251) (f := ecell e vl vc) (ty := 104) rfl (.tmp 40) rfl eb pz rfl hrg (by kernel_rfl) (by kernel_rfl) ?_) | (refine row_store_to (n := 251) (f := ecell e vl vc) (ty := 104) rfl (.tmp 9) (.tmp 41) rfl w3.heap.size 0 rfl rfl hth (by kernel_rfl) HEO.out HW ?_))
  have HB3 : Hid (Below w.heap.size w w3) := hB3
  have HOF : Hid (FOwn w3 w.heap.size (.slice a2 fs.length c2) us fs) := ho2.below hb3
  have HAB : Hid (EO W B w3.heap.size vl vc e) := hoW
  have HFW : Hid (Off (fun k => k = w3.heap.size) w3 W) := hfW
  clear HN HP HH HLD hze hrg hth HW hoW hfW ho2 hb2 hb3 hB3 d250 c250
  obtain ⟨ab, hab⟩ : ∃ ab, w3.heap.size = ab := ⟨_, rfl⟩
  have HLA : Hid (w3.heap.size = ab) := hab
  rw [hab] at HAB HFW ⊢
  clear hab
  generalize hM : fs.length = m at HOF ⊢
  have HM : Hid (fs.length = m) := hM
  clear hM
  go_loopg [44] m (fun gk s44 wr => ∃ (k : Nat) (e' : En), gk + k = m ∧ s44 = .int .i64 k ∧ Hid (runF fs e = runF (fs.drop k) e') ∧ Hid (EO wr B ab vl vc e') ∧ Hid (Off (fun j => j = ab) w3 wr))
  case atStart => exact ⟨0, e, rfl, rfl, rfl, HAB, HFW⟩
  case round =>
    obtain ⟨k, e', hk, rfl, HR, HE, HF⟩ := hrel
    have HK : Hid (gk + k = m) := hk
    clear hk
    have HOFr : Hid (FOwn wr w.heap.size (.slice a2 m c2) us fs) := HOF.out.off HF.out (fun k hk e1 => by have := (HOF.out.own.lt k hk).2; have := HLA.out; omega) (fun j hj k hk e1 => by have := uat_own HOF.out hj hk; have := HLA.out; omega)
    have hwrn : w3.heap.size ≤ wr.heap.size := HF.out.size
    have hm12 : m ≤ 12 := by have := HL12.out; have := HM.out; omega
    by_cases g : (k : Int) < (m : Int)
    · have hkl : k < fs.length := by have := HM.out; omega
      obtain ⟨gb, capv, hv1, _, hgb⟩ := HOFr.out.own.form (by have := HM.out; omega)
      rw [HM.out] at hv1
      injection hv1 with i1 i2 i3
      subst i1 i3
      have hown := HOFr.out.own
      rw [HM.out] at hown
      have fg := fcs_get us fs k HOFr.out.len hkl
      have y0 := hown.cellAt (k * 3) (by omega)
      have y1 := hown.cellAt (k * 3 + 1) (by omega)
      have y2 := hown.cellAt (k * 3 + 2) (by omega)
      rw [fg.1] at y0
      rw [fg.2.1] at y1
      rw [fg.2.2] at y2
      have hui := HOFr.out.rows k hkl
      have hgood := HOFr.out.good k hkl
      have hmem := fat_mem hkl
      have HAF := HAK.out (fat fs k) hmem
      have hdr := fdrop hkl
      have hrn : runF fs e = runF (fat fs k :: fs.drop (k + 1)) e' := by rw [HR.out, hdr]
      have hsz := fF_small hgood
      have hub : (uat us k).ownBlock ≠ some ab := fun e1 => by have := uat_own HOF.out hkl e1; have := HLA.out; omega
      have bA : Below wr.heap.size wr (wr.alloc (.cells #[.int .i64 (fat fs k).1, uat us k, .string (fat fs k).2.2] 141)) := (Below.refl _ _).alloc (Nat.le_refl _) _
      have HTF := takeFrame_calls (HE.out.below bA) (fat fs k) hgood (irow_of_own (hui.below bA) (by omega)) hub HAF
      have HRN : Hid (runF fs e = runF (fat fs k :: fs.drop (k + 1)) e') := hrn
      obtain ⟨ua, uc, hus⟩ := own_sh hui
      have HFB : Hid (Off (fun j => j = ab) w3 (wr.alloc (.cells #[.int .i64 (fat fs k).1, uat us k, .string (fat fs k).2.2] 141))) := HF.out.trans (Off.of_below bA)
      rw [hus] at y1 HTF HFB
      clear hrn hdr hui hgood hmem HAF fg hown hsz hub bA hus hkl
      generalize fat fs k = f at *
      obtain ⟨fk, fns, fd⟩ := f
      simp only at y0 y1 y2 HTF HFB HRN
      generalize fns.length = fl at *
      by_cases hs : (stpE e' (fk, fns, fd)).1 = 0
      · have HN2 : Hid (runF fs e = runF (fs.drop (k + 1)) (stpE e' (fk, fns, fd)).2) := by show _ = _; rw [HRN.out, runF_cons hs]
        rw [hs, errV_0] at HTF
        clear hs HRN
        generalize (stpE e' (fk, fns, fd)).2 = e2 at *
        go_wp2_with (go_at_call 134; refine HTF.mono ?_; rintro ex w4 ⟨rfl, ht4⟩)
        go_roundg (m - (k + 1))
        case measure => have := HK.out; omega
        case rel => exact ⟨k + 1, e2, by have := HK.out; omega, by go_num, HN2, ht4.1, HFB.out.trans ht4.2⟩
      · have HN2 : Hid (come e n fs = ((stpE e' (fk, fns, fd)).1, e)) := by
          show _ = _
          unfold come
          rw [if_neg (by rw [HMN.out]; decide), HRN.out, runF_stop hs, if_pos hs]
        have hcf2 : cf = (stpE e' (fk, fns, fd)).1 := by rw [← HCF.out, HN2.out]
        rw [errV_f hs, ← hcf2] at HTF
        have hcf0 : cf ≠ 0 := by rw [hcf2]; exact hs
        have HC0 : Hid (cf ≠ 0) := hcf0
        clear hs HRN hcf2 hcf0
        generalize (stpE e' (fk, fns, fd)).2 = e2 at *
        go_wp2_with (go_at_call 134; refine HTF.mono ?_; rintro ex w4 ⟨rfl, ht4⟩)
        go_ret
        refine ⟨by rw [errV_f HC0.out]; rfl, ?_⟩
        rw [HN2.out]
        have o4 : Off (fun j => j = ab) w3 w4 := HFB.out.trans ht4.2
        exact TurnP.below HO.out (HB3.out.trans (o4.below (fun j hj => by rw [hj, ← HLA.out]; exact HB3.out.size) HB3.out.size))
    · have hk : k = m := by have := HK.out; omega
      have hrun : runF fs e = (0, e') := by
        rw [HR.out, List.drop_eq_nil_of_le (by have := HM.out; omega)]
        rfl
      have hE3 : EP pz Qz w3 B eb vl vc e := HO.out.below HB3.out
      have hEr : EP pz Qz wr B eb vl vc e := hE3.off HF.out fun j hj e1 => by have := (hE3.own_lt hj).2; have := HLA.out; omega
      have HEr : Hid (EP pz Qz wr B eb vl vc e) := hEr
      have r250 := hEr.cl 250 (by omega)
      rw [ecell_came, HVC.out] at r250
      have a250 := HE.out.cl 250 (by omega)
      rw [ecell_came] at a250
      have af := HE.out.fz 250
      have hAC := add_fits (h := hEr.crow) hEr.inv.cm HMY.out HFU.out
      rw [HVC.out] at hAC a250
      have habr : ab < wr.heap.size := HE.out.lt
      have hebr : eb < wr.heap.size := hEr.lt
      have hil : addL e.cm n = addL e.cm n := rfl
      have HCM : Hid (come e n fs = (0, { e' with cm := addL e.cm n })) := by
        show _ = _
        unfold come
        rw [if_neg (by rw [HMN.out]; decide), hrun, if_neg (by simp), if_neg (by have := HFU.out; omega)]
      have hcf2 : cf = 0 := by rw [← HCF.out, HCM.out]
      have hi : EInv { e' with cm := addL e.cm n } := ⟨HE.out.inv.d60, HE.out.inv.t1, HE.out.inv.l0, HE.out.inv.l1, HE.out.inv.m1, HE.out.inv.k0, HE.out.inv.k1, HE.out.inv.ls, HE.out.inv.s, HE.out.inv.c, addL_chk HO.out.inv.cm HMY.out HFU.out, HE.out.inv.ll⟩
      have HEND : Hid (∀ w5 v', Below wr.heap.size wr w5 → w5.ownsRow wr.heap.size 143 2 v' (addL e.cm n).length (flat (addL e.cm n)) → ∃ W6 W7, Hid (W6 = w5.setCell ⟨ab, 250, none⟩ v') ∧ Hid (W7 = W6.setCells eb pz (row 251 (ecell { e' with cm := addL e.cm n } vl v'))) ∧ W6.rangeAt ab 0 (row 251 (ecell { e' with cm := addL e.cm n } vl v')) ∧ W6.there eb pz 251 ∧ (∀ i, (ecell { e' with cm := addL e.cm n } vl v' i).oneCell' = true) ∧ TurnP pz Qz w W7 B eb vl vc { e' with cm := addL e.cm n }) := by
        show ∀ w5 v', _ → _ → _
        intro w5 v' hb5 hv5
        have hvw : w5.ownsRow w.heap.size 143 2 v' (addL e.cm n).length (flat (addL e.cm n)) := own_mono hv5 (Nat.le_trans HB3.out.size HF.out.size)
        have o5 : Off (fun j => j = ab) w w5 := by
          have oB : Off (fun j => j = ab) w w3 := Off.of_below HB3.out
          exact (oB.trans HF.out).trans (Off.of_below hb5)
        exact take_end HO.out (by rw [← HLA.out]; exact HB3.out.size) o5 (HE.out.below hb5) hi hvw (fun e1 => by have := (hv5.lt ab e1).1; omega)
      subst hcf2
      clear hrun hEr hE3 hk hi hil
      generalize hcn : addL e.cm n = cn at *
      generalize hnc : e.cm.length = nc at *
      generalize memB e.cm n = mb at *
      generalize hE2 : ({ e' with cm := cn } : En) = e2 at *
      go_wp2_with (first | (go_at_call 135; refine hAC.mono ?_; rintro ex w5 ⟨v5, rfl, ho5, hb5⟩; obtain ⟨a5, c5, hv5⟩ := own_sh ho5; subst hv5; have b250 := (hb5.cell (p := ⟨ab, 250, none⟩) habr).trans a250; have bf : w5.frozen? ⟨ab, 250, none⟩ = false := (World.frozen?_of_block (hb5.block ab habr)).trans af; obtain ⟨W6, W7, HW6, HW7, n1, n2, n3, n4⟩ := HEND.out w5 _ hb5 ho5; have hw6 := HW6.out.symm) | (refine row_load_op (n := 251) (f := ecell e2 vl (.slice a5 cn.length c5)) (ty := 104) rfl (.tmp 9) rfl ab 0 rfl n1 (by kernel_rfl) (by kernel_rfl) ?_) | (refine row_store_to (n := 251) (f := ecell e2 vl (.slice a5 cn.length c5)) (ty := 104) rfl (.tmp 70) (.tmp 69) rfl eb pz rfl rfl n2 (by kernel_rfl) n3 HW7 ?_))
      go_ret
      refine ⟨rfl, ?_⟩
      rw [HCM.out]
      exact n4
theorem etake_calls {w : World} {B eb : Nat} {vl vc : Value} {e : En} (h : EP pz Qz w B eb vl vc e) (b : ByteArray) (hl : b.size ≤ 9223372036854775807) (hF : V.Forms w) (hC : Cnts w) (hA : ∀ n fs, rdP b (nextN e) = some (n, fs) → ∀ f ∈ fs, f.1 = 2 → AckC f.2.1) :
    Calls Tryz.prog 102 #[.pointer (some ⟨eb, pz, none⟩), .string b] w fun ex w' => ex = .returned (errV (takeP e b).1) ∧ TurnP pz Qz w w' B eb vl vc (takeP e b).2 := by
  by_cases h0 : opF b (nextN e) = 0
  · obtain ⟨h1, h2, n, fs, h3⟩ := opF_yes h0
    have e1 : takeP e b = come e n fs := by
      unfold takeP
      rw [if_neg (by simpa using h0), h3]
    rw [e1]
    cases h4 : memB e.cm n with
    | true =>
      have e2 : come e n fs = (0, e) := by unfold come; rw [if_pos h4]
      rw [e2]
      exact (take_b h b hF hC h1 h2 n fs h3 h4).mono fun ex w' ⟨a, c⟩ => ⟨a, TurnP.below h c⟩
    | false =>
      by_cases h5 : 12 < (addL e.cm n).length
      · exact take_full h b hF hC h1 h2 n fs h3 h4 (hA n fs h3) h5
      · exact take_fits h b hF hC h1 h2 n fs h3 h4 (hA n fs h3) (by omega)
  · have e1 : takeP e b = (opF b (nextN e), e) := by
      unfold takeP
      rw [if_pos h0]
    rw [e1]
    exact (take_a h b hl hF hC h0).mono fun ex w' ⟨a, c⟩ => ⟨a, TurnP.below h c⟩

end Go.Proofs.YtdokgalidhmbbaaGreatDoor.Ez
