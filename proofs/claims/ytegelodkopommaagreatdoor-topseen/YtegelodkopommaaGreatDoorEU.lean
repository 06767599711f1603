/- What Take answers, and what it leaves. -/
import Derived.Test.YtegelodkopommaaGreatDoorET
import Derived.Great.Walk
import Derived.Deep.LoopGhost
namespace Go.Proofs.YtegelodkopommaaGreatDoor
open Go.RowKit Go.Lib Go.Sort
set_option linter.unusedVariables false
set_option linter.unusedSimpArgs false


theorem add_full {v : Value} {cm : List R} {n : Int} {w : World} (h : Row w v cm) (hk : chk cm = 0) (hN : isN n = true) (hl : 12 < (addL cm n).length) : Calls Tryz.prog 23 #[v, .int .i64 n] w fun e w' => e = .returned (.tuple #[.slice none 0 0, .bool false, errV 4]) ∧ Below w.heap.size w w' :=
  (add_ok v cm n w h hk hN).mono fun e w' ⟨zs', h1, h2, _, hb, hc⟩ => by
    have := addL_is hk h1 h2
    subst this
    rcases hc with ⟨_, he⟩ | ⟨hx, _⟩
    · exact ⟨he, hb⟩
    · omega
theorem add_fits {v : Value} {cm : List R} {n : Int} {w : World} (h : Row w v cm) (hk : chk cm = 0) (hN : isN n = true) (hl : (addL cm n).length ≤ 12) : Calls Tryz.prog 23 #[v, .int .i64 n] w fun e w' => ∃ v', e = .returned (.tuple #[v', .bool (!memB cm n), .nilIface]) ∧ w'.ownsRow w.heap.size 66 2 v' (addL cm n).length (flat (addL cm n)) ∧ Below w.heap.size w w' :=
  (add_ok v cm n w h hk hN).mono fun e w' ⟨zs', h1, h2, _, hb, hc⟩ => by
    have := addL_is hk h1 h2
    subst this
    rcases hc with ⟨hx, _⟩ | ⟨_, v', ho, he⟩
    · omega
    · exact ⟨v', he, ho, hb⟩
theorem ecell_cm {e : En} {cm : List R} {vl vc vc' : Value} {i : Nat} (h : i < 250) : ecell { e with cm := cm } vl vc' i = ecell e vl vc i := by
  unfold ecell
  simp only [h, if_true]
/-- What lies in the copy's block is stored back. -/
theorem take_end {w w5 : World} {B eb ab : Nat} {vl vc v' : Value} {e e' : En} {cm : List R} (h : EO w B eb vl vc e) (ha : w.heap.size ≤ ab) (ho : Off (fun k => k = ab) w w5) (h5 : EO w5 B ab vl vc e') (hi : EInv { e' with cm := cm }) (hv : w5.ownsRow w.heap.size 66 2 v' cm.length (flat cm)) (hva : v'.ownBlock ≠ some ab) :
    ∃ W6 W7, Hid (W6 = w5.setCell ⟨ab, 250, none⟩ v') ∧ Hid (W7 = W6.setCells eb 0 (row 251 (ecell { e' with cm := cm } vl v'))) ∧ W6.rangeAt ab 0 (row 251 (ecell { e' with cm := cm } vl v')) ∧ W6.there eb 0 251 ∧ (∀ i, (ecell { e' with cm := cm } vl v' i).oneCell' = true) ∧ Turn w W7 B eb vl vc { e' with cm := cm } := by
  have hne : eb ≠ ab := by have := h.lt; omega
  have ho6 : Off (fun k => k = ab) w (w5.setCell ⟨ab, 250, none⟩ v') := ho.setCell (a := ⟨ab, 250, none⟩) rfl _
  have hE6 : EO (w5.setCell ⟨ab, 250, none⟩ v') B eb vl vc e := h.off ho6 fun k hk e' => by have := (h.own_lt hk).2; omega
  have hv6 : (w5.setCell ⟨ab, 250, none⟩ v').ownsRow w.heap.size 66 2 v' cm.length (flat cm) := ((Off.refl (fun k => k = ab) w5).setCell (a := ⟨ab, 250, none⟩) rfl _).row hv fun k hk e' => by subst e'; exact hva hk
  have hr6 : (w5.setCell ⟨ab, 250, none⟩ v').rangeAt ab 0 (row 251 (ecell { e' with cm := cm } vl v')) := row_range fun i hi => by
    rw [Nat.zero_add]
    by_cases e1 : i = 250
    · subst e1
      exact World.cell?_setCell_same _ _ _ (h5.cl 250 (by omega))
    · rw [World.cell?_setCell_other _ _ _ _ (fun e' => by injection e' with _ e' _; exact e1 e'.symm), h5.cl i hi]
      exact congrArg some (ecell_cm (by omega)).symm
  have hth := hE6.there 0 251 (by omega)
  have hone : ∀ i, (ecell { e' with cm := cm } vl v' i).oneCell' = true := fun i => ecell_one h5.ones.1 (by
    rcases hv.2 with ⟨e1, _⟩ | ⟨g, cap, cur, e1, _⟩ <;> rw [e1] <;> rfl) i
  refine ⟨_, _, rfl, rfl, hr6, hth, hone, ?_⟩
  have o7 : Off (fun k => k = eb) (w5.setCell ⟨ab, 250, none⟩ v') ((w5.setCell ⟨ab, 250, none⟩ v').setCells eb 0 (row 251 (ecell { e' with cm := cm } vl v'))) := off_sets2 eb _ _ _
  have hld6 : (w5.setCell ⟨ab, 250, none⟩ v').ownsRow B 116 62 vl e'.ls.length (lds e'.ls) := ((Off.refl (fun k => k = ab) w5).setCell (a := ⟨ab, 250, none⟩) rfl _).row h5.ld fun k hk e' => by subst e'; exact h5.ap.1 hk
  have hve : v'.ownBlock ≠ some eb := fun e' => by have := (hv.lt eb e').1; have := h.lt; omega
  refine ⟨vl, v', ⟨hi, fun i hi => ?_, fun i => by rw [World.frozen?_setCells]; exact hE6.fz i, h.hs, o7.row hld6 (fun k hk e' => by subst e'; exact h.ap.1 hk), own_mono (o7.row hv6 (fun k hk e' => by subst e'; exact hve hk)) h.le, h.ap.1, hve⟩, ?_, fun k hk => ?_⟩
  · have := cell_row (World.rangeAt_setCells_same (w5.setCell ⟨ab, 250, none⟩ v') eb 0 (row 251 (ecell { e' with cm := cm } vl v')) (by rw [row_length]; exact hth)) hi
    rwa [Nat.zero_add] at this
  · refine ⟨o7.os.trans ho6.os, o7.tape.trans ho6.tape, o7.output.trans ho6.output, Nat.le_trans ho6.size o7.size, fun k hk hn => ?_⟩
    rw [o7.block k (Nat.lt_of_lt_of_le hk ho6.size) (fun e' => hn (.inl e')), ho6.block k hk (fun e' => by omega)]
  · rcases hk with rfl | hk | hk
    · exact .inl (.inl rfl)
    · exact .inl (.inr (.inl hk))
    · exact .inr (hv.lt k hk).1
theorem Turn.of_off {w w' : World} {B eb ab : Nat} {vl vc : Value} {e : En} (h : EO w B eb vl vc e) (ha : w.heap.size ≤ ab) (ho : Off (fun k => k = ab) w w') : Turn w w' B eb vl vc e :=
  Turn.below h (ho.below (fun k hk => by rw [hk]; exact ha) (Nat.le_refl _))
set_option maxRecDepth 100000 in
set_option maxHeartbeats 4000000 in
theorem take_a {w : World} {B eb : Nat} {vl vc : Value} {e : En} (h : EO w B eb vl vc e) (b : ByteArray) (hl : b.size ≤ 9223372036854775807) (hF : V.Forms w) (hC : Cnts w) (h0 : opF b (nextN e) ≠ 0) : Calls Tryz.prog 16 #[.pointer (some ⟨eb, 0, none⟩), .string b] w fun ex w' => ex = .returned (errV (opF b (nextN e))) ∧ Below w.heap.size w w' := by
  have HN := next_calls h
  have HP := pkt_parse_no b (nextN e) w hF hC hl h0
  rw [errV_f h0] at HP ⊢
  clear h hF hC
  generalize opF b (nextN e) = ff at *
  generalize nextN e = nx at *
  go_enter Tryz.func16, Tryz.ntmps16
  go_wp2_with (first | (go_at_call 31; refine HN.mono ?_; rintro ex w1 ⟨rfl, hw1⟩; obtain rfl := hw1.symm) | (go_at_call 8; refine HP.mono ?_; rintro ex w2 ⟨rfl, hb2⟩))
  go_ret
  exact ⟨rfl, hb2⟩
set_option maxRecDepth 100000 in
set_option maxHeartbeats 4000000 in
theorem take_b {w : World} {B eb : Nat} {vl vc : Value} {e : En} (h : EO w B eb vl vc e) (b : ByteArray) (hF : V.Forms w) (hC : Cnts w) (hm : U.mayB (nextN e) = true) (hl : b.size ≤ 200) (n : Int) (fs : List F) (hr : rdP b (nextN e) = some (n, fs)) (h0 : memB e.cm n = true) : Calls Tryz.prog 16 #[.pointer (some ⟨eb, 0, none⟩), .string b] w fun ex w' => ex = .returned .nilIface ∧ Below w.heap.size w w' := by
  have HN := next_calls h
  have HP := pkt_parse_yes b (nextN e) w hF hC hm hl n fs hr
  have HH := fun X (hX : Below w.heap.size w X) => hasx_ok vc e.cm n X (h.below hX).crow (rdP_may hr) h.inv.cm
  rw [h0] at HH
  have c250 := h.cl 250 (by omega)
  rw [ecell_came] at c250
  have heb := h.lt
  obtain ⟨ao, c, hvc⟩ := own_sh h.cm
  rw [hvc] at c250 HH
  clear h hF hC h0 hr
  generalize nextN e = nx at *
  generalize e.cm.length = nc at *
  go_enter Tryz.func16, Tryz.ntmps16
  go_wp2_with (first | (go_at_call 31; refine HN.mono ?_; rintro ex w1 ⟨rfl, hw1⟩; obtain rfl := hw1.symm) | (go_at_call 8; refine HP.mono ?_; rintro ex w2 ⟨v2, us, rfl, ho2, hb2⟩; obtain ⟨a2, c2, hv2⟩ := own_sh ho2.own; subst hv2; have d250 := (hb2.cell (p := ⟨eb, 250, none⟩) heb).trans c250) | (go_at_call 32; refine (HH _ hb2).mono ?_; rintro ex w3 ⟨rfl, hb3⟩))
  go_ret
  exact ⟨rfl, hb2.trans (hb3.mono hb2.size)⟩
set_option maxRecDepth 100000 in
set_option maxHeartbeats 4000000 in
theorem take_full {w : World} {B eb : Nat} {vl vc : Value} {e : En} (h : EO w B eb vl vc e) (b : ByteArray) (hF : V.Forms w) (hC : Cnts w) (hm : U.mayB (nextN e) = true) (hl : b.size ≤ 200) (n : Int) (fs : List F) (hr : rdP b (nextN e) = some (n, fs)) (h0 : memB e.cm n = false) (hA : ∀ f ∈ fs, f.1 = 2 → AckC f.2.1) (hfu : 12 < (addL e.cm n).length) :
    Calls Tryz.prog 16 #[.pointer (some ⟨eb, 0, none⟩), .string b] w fun ex w' => ex = .returned (errV (come e n fs).1) ∧ Turn w w' B eb vl vc (come e n fs).2 := by
  have HO : Hid (EO w B eb vl vc e) := h
  have HMN : Hid (memB e.cm n = false) := h0
  have HAK : Hid (∀ f ∈ fs, f.1 = 2 → AckC f.2.1) := hA
  have HFU : Hid (12 < (addL e.cm n).length) := hfu
  have HMY : Hid (isN n = true) := rdP_may hr
  have HL12 : Hid (fs.length ≤ 12) := rdP_good hr
  have HN := next_calls h
  have HP := pkt_parse_yes b (nextN e) w hF hC hm hl n fs hr
  have HH := fun X (hX : Below w.heap.size w X) => hasx_ok vc e.cm n X (h.below hX).crow (rdP_may hr) h.inv.cm
  rw [h0] at HH
  have c250 := h.cl 250 (by omega)
  rw [ecell_came] at c250
  have heb := h.lt
  obtain ⟨ao, c, hvc⟩ := own_sh h.cm
  have HVC : Hid (vc = .slice ao e.cm.length c) := hvc
  rw [hvc] at c250 HH
  have hze := zero_end
  generalize hZ : (row 251 (ecell ⟨nilB, 0, 0, 0, 0, [], Sx.newS, ⟨0, 0, 0, 0⟩, []⟩ (.slice none 0 0) (.slice none 0 0))).toArray = ze at hze
  have HZ : Hid ((row 251 (ecell ⟨nilB, 0, 0, 0, 0, [], Sx.newS, ⟨0, 0, 0, 0⟩, []⟩ (.slice none 0 0) (.slice none 0 0))).toArray = ze) := hZ
  obtain ⟨cf, hcf⟩ : ∃ cf, (come e n fs).1 = cf := ⟨_, rfl⟩
  rw [hcf]
  have HCF : Hid ((come e n fs).1 = cf) := hcf
  have HLD : Hid (∀ w3, Below w.heap.size w w3 → w3.rangeAt eb 0 (row 251 (ecell e vl vc)) ∧ ∃ W, Hid (W = (w3.alloc (.cells ze 82)).setCells w3.heap.size 0 (row 251 (ecell e vl vc))) ∧ (w3.alloc (.cells ze 82)).there w3.heap.size 0 251 ∧ EO W B w3.heap.size vl vc e ∧ Off (fun k => k = w3.heap.size) w3 W) := by
    show ∀ w3, _ → _
    intro w3 hb
    have h3 := HO.out.below hb
    have hth : (w3.alloc (.cells ze 82)).there w3.heap.size 0 251 := by rw [← HZ.out]; exact there_row w3 _ 251 _
    have oW : Off (fun k => k = w3.heap.size) w3 ((w3.alloc (.cells ze 82)).setCells w3.heap.size 0 (row 251 (ecell e vl vc))) := ((Off.refl (fun k => k = w3.heap.size) w3).alloc _).trans (off_sets2 _ _ _ _)
    refine ⟨row_range fun i hi => by rw [Nat.zero_add]; exact h3.cl i hi, _, rfl, hth, ?_, oW⟩
    exact h3.copy oW (World.rangeAt_setCells_same _ _ _ _ (by rw [row_length]; exact hth)) (fun i => by rw [World.frozen?_setCells]; exact fz_new w3 _ _ i) (Nat.le_refl _)
  have HEO : Hid (∀ i, (ecell e vl vc i).oneCell' = true) := fun i => ecell_one h.ones.1 h.ones.2 i
  clear h hF hC h0 hr hA hfu hZ hvc hcf
  generalize nextN e = nx at *
  generalize hnc : e.cm.length = nc at c250 HH
  clear hnc
  go_enter Tryz.func16, Tryz.ntmps16
  go_wp2_with (first | (go_at_call 31; refine HN.mono ?_; rintro ex w1 ⟨rfl, hw1⟩; obtain rfl := hw1.symm) | (go_at_call 8; refine HP.mono ?_; rintro ex w2 ⟨v2, us, rfl, ho2, hb2⟩; obtain ⟨a2, c2, hv2⟩ := own_sh ho2.own; subst hv2; have d250 := (hb2.cell (p := ⟨eb, 250, none⟩) heb).trans c250) | (go_at_call 32; refine (HH _ hb2).mono ?_; rintro ex w3 ⟨rfl, hb3⟩; have hB3 := hb2.trans (hb3.mono hb2.size); obtain ⟨hrg, W, HW, hth, hoW, hfW⟩ := HLD.out w3 hB3) | (refine row_load_op (n := 251) (f := ecell e vl vc) (ty := 82) rfl (.tmp 40) rfl eb 0 rfl hrg (by kernel_rfl) (by kernel_rfl) ?_) | (refine row_store_to (n := 251) (f := ecell e vl vc) (ty := 82) rfl (.tmp 9) (.tmp 41) rfl w3.heap.size 0 rfl rfl hth (by kernel_rfl) HEO.out HW ?_))
  have HB3 : Hid (Below w.heap.size w w3) := hB3
  have HOF : Hid (FOwn w3 w.heap.size (.slice a2 fs.length c2) us fs) := ho2.below hb3
  have HAB : Hid (EO W B w3.heap.size vl vc e) := hoW
  have HFW : Hid (Off (fun k => k = w3.heap.size) w3 W) := hfW
  clear HN HP HH HLD hze hrg hth HW hoW hfW ho2 hb2 hb3 hB3 d250 c250
  obtain ⟨ab, hab⟩ : ∃ ab, w3.heap.size = ab := ⟨_, rfl⟩
  have HLA : Hid (w3.heap.size = ab) := hab
  rw [hab] at HAB HFW ⊢
  clear hab
  generalize hM : fs.length = m at HOF ⊢
  have HM : Hid (fs.length = m) := hM
  clear hM
  go_loopg [44] m (fun gk s44 wr => ∃ (k : Nat) (e' : En), gk + k = m ∧ s44 = .int .i64 k ∧ Hid (runF fs e = runF (fs.drop k) e') ∧ Hid (EO wr B ab vl vc e') ∧ Hid (Off (fun j => j = ab) w3 wr))
  case atStart => exact ⟨0, e, rfl, rfl, rfl, HAB, HFW⟩
  case round =>
    obtain ⟨k, e', hk, rfl, HR, HE, HF⟩ := hrel
    have HK : Hid (gk + k = m) := hk
    clear hk
    have HOFr : Hid (FOwn wr w.heap.size (.slice a2 m c2) us fs) := HOF.out.off HF.out (fun k hk e1 => by have := (HOF.out.own.lt k hk).2; have := HLA.out; omega) (fun j hj k hk e1 => by have := uat_own HOF.out hj hk; have := HLA.out; omega)
    have hwrn : w3.heap.size ≤ wr.heap.size := HF.out.size
    have hm12 : m ≤ 12 := by have := HL12.out; have := HM.out; omega
    by_cases g : (k : Int) < (m : Int)
    · have hkl : k < fs.length := by have := HM.out; omega
      obtain ⟨gb, capv, hv1, _, hgb⟩ := HOFr.out.own.form (by have := HM.out; omega)
      rw [HM.out] at hv1
      injection hv1 with i1 i2 i3
      subst i1 i3
      have hown := HOFr.out.own
      rw [HM.out] at hown
      have fg := fcs_get us fs k HOFr.out.len hkl
      have y0 := hown.cellAt (k * 3) (by omega)
      have y1 := hown.cellAt (k * 3 + 1) (by omega)
      have y2 := hown.cellAt (k * 3 + 2) (by omega)
      rw [fg.1] at y0
      rw [fg.2.1] at y1
      rw [fg.2.2] at y2
      have hui := HOFr.out.rows k hkl
      have hgood := HOFr.out.good k hkl
      have hmem := fat_mem hkl
      have HAF := HAK.out (fat fs k) hmem
      have hdr := fdrop hkl
      have hrn : runF fs e = runF (fat fs k :: fs.drop (k + 1)) e' := by rw [HR.out, hdr]
      have hsz := fF_small hgood
      have hub : (uat us k).ownBlock ≠ some ab := fun e1 => by have := uat_own HOF.out hkl e1; have := HLA.out; omega
      have bA : Below wr.heap.size wr (wr.alloc (.cells #[.int .i64 (fat fs k).1, uat us k, .string (fat fs k).2.2] 32)) := (Below.refl _ _).alloc (Nat.le_refl _) _
      have HTF := takeFrame_calls (HE.out.below bA) (fat fs k) hgood (irow_of_own (hui.below bA) (by omega)) hub HAF
      have HRN : Hid (runF fs e = runF (fat fs k :: fs.drop (k + 1)) e') := hrn
      obtain ⟨ua, uc, hus⟩ := own_sh hui
      have HFB : Hid (Off (fun j => j = ab) w3 (wr.alloc (.cells #[.int .i64 (fat fs k).1, uat us k, .string (fat fs k).2.2] 32))) := HF.out.trans (Off.of_below bA)
      rw [hus] at y1 HTF HFB
      clear hrn hdr hui hgood hmem HAF fg hown hsz hub bA hus hkl
      generalize fat fs k = f at *
      obtain ⟨fk, fns, fd⟩ := f
      simp only at y0 y1 y2 HTF HFB HRN
      generalize fns.length = fl at *
      by_cases hs : (stpE e' (fk, fns, fd)).1 = 0
      · have HN2 : Hid (runF fs e = runF (fs.drop (k + 1)) (stpE e' (fk, fns, fd)).2) := by show _ = _; rw [HRN.out, runF_cons hs]
        rw [hs, errV_0] at HTF
        clear hs HRN
        generalize (stpE e' (fk, fns, fd)).2 = e2 at *
        go_wp2_with (go_at_call 33; refine HTF.mono ?_; rintro ex w4 ⟨rfl, ht4⟩)
        go_roundg (m - (k + 1))
        case measure => have := HK.out; omega
        case rel => exact ⟨k + 1, e2, by have := HK.out; omega, by go_num, HN2, ht4.1, HFB.out.trans ht4.2⟩
      · have HN2 : Hid (come e n fs = ((stpE e' (fk, fns, fd)).1, e)) := by
          show _ = _
          unfold come
          rw [if_neg (by rw [HMN.out]; decide), HRN.out, runF_stop hs, if_pos hs]
        have hcf2 : cf = (stpE e' (fk, fns, fd)).1 := by rw [← HCF.out, HN2.out]
        rw [errV_f hs, ← hcf2] at HTF
        have hcf0 : cf ≠ 0 := by rw [hcf2]; exact hs
        have HC0 : Hid (cf ≠ 0) := hcf0
        clear hs HRN hcf2 hcf0
        generalize (stpE e' (fk, fns, fd)).2 = e2 at *
        go_wp2_with (go_at_call 33; refine HTF.mono ?_; rintro ex w4 ⟨rfl, ht4⟩)
        go_ret
        refine ⟨by rw [errV_f HC0.out]; rfl, ?_⟩
        rw [HN2.out]
        have o4 : Off (fun j => j = ab) w3 w4 := HFB.out.trans ht4.2
        exact Turn.below HO.out (HB3.out.trans (o4.below (fun j hj => by rw [hj, ← HLA.out]; exact HB3.out.size) HB3.out.size))
    · have hk : k = m := by have := HK.out; omega
      have hrun : runF fs e = (0, e') := by
        rw [HR.out, List.drop_eq_nil_of_le (by have := HM.out; omega)]
        rfl
      have hE3 : EO w3 B eb vl vc e := HO.out.below HB3.out
      have hEr : EO wr B eb vl vc e := hE3.off HF.out fun j hj e1 => by have := (hE3.own_lt hj).2; have := HLA.out; omega
      have HEr : Hid (EO wr B eb vl vc e) := hEr
      have r250 := hEr.cl 250 (by omega)
      rw [ecell_came, HVC.out] at r250
      have a250 := HE.out.cl 250 (by omega)
      rw [ecell_came] at a250
      have af := HE.out.fz 250
      have hAC := add_full (h := hEr.crow) hEr.inv.cm HMY.out HFU.out
      rw [HVC.out] at hAC a250
      have habr : ab < wr.heap.size := HE.out.lt
      have hebr : eb < wr.heap.size := hEr.lt
      have HCM : Hid (come e n fs = (4, e)) := by
        show _ = _
        unfold come
        rw [if_neg (by rw [HMN.out]; decide), hrun, if_neg (by simp), if_pos HFU.out]
      have hcf2 : cf = 4 := by rw [← HCF.out, HCM.out]
      subst hcf2
      clear hrun hEr hE3 hk
      rw [errV4] at hAC
      generalize hnc : e.cm.length = nc at *
      go_wp2_with (go_at_call 23; refine hAC.mono ?_; rintro ex w5 ⟨rfl, hb5⟩; have b250 := (hb5.cell (p := ⟨ab, 250, none⟩) habr).trans a250; have bf : w5.frozen? ⟨ab, 250, none⟩ = false := (World.frozen?_of_block (hb5.block ab habr)).trans af)
      go_ret
      refine ⟨rfl, ?_⟩
      rw [HCM.out]
      have o6 : Off (fun j => j = ab) w3 (w5.setCell ⟨ab, 250, none⟩ (.slice none 0 0)) := (HF.out.trans (Off.of_below hb5)).setCell (a := ⟨ab, 250, none⟩) rfl _
      exact Turn.below HO.out (HB3.out.trans (o6.below (fun j hj => by rw [hj, ← HLA.out]; exact HB3.out.size) HB3.out.size))
set_option maxRecDepth 100000 in
set_option maxHeartbeats 4000000 in
theorem take_fits {w : World} {B eb : Nat} {vl vc : Value} {e : En} (h : EO w B eb vl vc e) (b : ByteArray) (hF : V.Forms w) (hC : Cnts w) (hm : U.mayB (nextN e) = true) (hl : b.size ≤ 200) (n : Int) (fs : List F) (hr : rdP b (nextN e) = some (n, fs)) (h0 : memB e.cm n = false) (hA : ∀ f ∈ fs, f.1 = 2 → AckC f.2.1) (hfu : (addL e.cm n).length ≤ 12) :
    Calls Tryz.prog 16 #[.pointer (some ⟨eb, 0, none⟩), .string b] w fun ex w' => ex = .returned (errV (come e n fs).1) ∧ Turn w w' B eb vl vc (come e n fs).2 := by
  have HO : Hid (EO w B eb vl vc e) := h
  have HMN : Hid (memB e.cm n = false) := h0
  have HAK : Hid (∀ f ∈ fs, f.1 = 2 → AckC f.2.1) := hA
  have HFU : Hid ((addL e.cm n).length ≤ 12) := hfu
  have HMY : Hid (isN n = true) := rdP_may hr
  have HL12 : Hid (fs.length ≤ 12) := rdP_good hr
  have HN := next_calls h
  have HP := pkt_parse_yes b (nextN e) w hF hC hm hl n fs hr
  have HH := fun X (hX : Below w.heap.size w X) => hasx_ok vc e.cm n X (h.below hX).crow (rdP_may hr) h.inv.cm
  rw [h0] at HH
  have c250 := h.cl 250 (by omega)
  rw [ecell_came] at c250
  have heb := h.lt
  obtain ⟨ao, c, hvc⟩ := own_sh h.cm
  have HVC : Hid (vc = .slice ao e.cm.length c) := hvc
  rw [hvc] at c250 HH
  have hze := zero_end
  generalize hZ : (row 251 (ecell ⟨nilB, 0, 0, 0, 0, [], Sx.newS, ⟨0, 0, 0, 0⟩, []⟩ (.slice none 0 0) (.slice none 0 0))).toArray = ze at hze
  have HZ : Hid ((row 251 (ecell ⟨nilB, 0, 0, 0, 0, [], Sx.newS, ⟨0, 0, 0, 0⟩, []⟩ (.slice none 0 0) (.slice none 0 0))).toArray = ze) := hZ
  obtain ⟨cf, hcf⟩ : ∃ cf, (come e n fs).1 = cf := ⟨_, rfl⟩
  rw [hcf]
  have HCF : Hid ((come e n fs).1 = cf) := hcf
  have HLD : Hid (∀ w3, Below w.heap.size w w3 → w3.rangeAt eb 0 (row 251 (ecell e vl vc)) ∧ ∃ W, Hid (W = (w3.alloc (.cells ze 82)).setCells w3.heap.size 0 (row 251 (ecell e vl vc))) ∧ (w3.alloc (.cells ze 82)).there w3.heap.size 0 251 ∧ EO W B w3.heap.size vl vc e ∧ Off (fun k => k = w3.heap.size) w3 W) := by
    show ∀ w3, _ → _
    intro w3 hb
    have h3 := HO.out.below hb
    have hth : (w3.alloc (.cells ze 82)).there w3.heap.size 0 251 := by rw [← HZ.out]; exact there_row w3 _ 251 _
    have oW : Off (fun k => k = w3.heap.size) w3 ((w3.alloc (.cells ze 82)).setCells w3.heap.size 0 (row 251 (ecell e vl vc))) := ((Off.refl (fun k => k = w3.heap.size) w3).alloc _).trans (off_sets2 _ _ _ _)
    refine ⟨row_range fun i hi => by rw [Nat.zero_add]; exact h3.cl i hi, _, rfl, hth, ?_, oW⟩
    exact h3.copy oW (World.rangeAt_setCells_same _ _ _ _ (by rw [row_length]; exact hth)) (fun i => by rw [World.frozen?_setCells]; exact fz_new w3 _ _ i) (Nat.le_refl _)
  have HEO : Hid (∀ i, (ecell e vl vc i).oneCell' = true) := fun i => ecell_one h.ones.1 h.ones.2 i
  clear h hF hC h0 hr hA hfu hZ hvc hcf
  generalize nextN e = nx at *
  generalize hnc : e.cm.length = nc at c250 HH
  clear hnc
  go_enter Tryz.func16, Tryz.ntmps16
  go_wp2_with (first | (go_at_call 31; refine HN.mono ?_; rintro ex w1 ⟨rfl, hw1⟩; obtain rfl := hw1.symm) | (go_at_call 8; refine HP.mono ?_; rintro ex w2 ⟨v2, us, rfl, ho2, hb2⟩; obtain ⟨a2, c2, hv2⟩ := own_sh ho2.own; subst hv2; have d250 := (hb2.cell (p := ⟨eb, 250, none⟩) heb).trans c250) | (go_at_call 32; refine (HH _ hb2).mono ?_; rintro ex w3 ⟨rfl, hb3⟩; have hB3 := hb2.trans (hb3.mono hb2.size); obtain ⟨hrg, W, HW, hth, hoW, hfW⟩ := HLD.out w3 hB3) | (refine row_load_op (n := 251) (f := ecell e vl vc) (ty := 82) rfl (.tmp 40) rfl eb 0 rfl hrg (by kernel_rfl) (by kernel_rfl) ?_) | (refine row_store_to (n := 251) (f := ecell e vl vc) (ty := 82) rfl (.tmp 9) (.tmp 41) rfl w3.heap.size 0 rfl rfl hth (by kernel_rfl) HEO.out HW ?_))
  have HB3 : Hid (Below w.heap.size w w3) := hB3
  have HOF : Hid (FOwn w3 w.heap.size (.slice a2 fs.length c2) us fs) := ho2.below hb3
  have HAB : Hid (EO W B w3.heap.size vl vc e) := hoW
  have HFW : Hid (Off (fun k => k = w3.heap.size) w3 W) := hfW
  clear HN HP HH HLD hze hrg hth HW hoW hfW ho2 hb2 hb3 hB3 d250 c250
  obtain ⟨ab, hab⟩ : ∃ ab, w3.heap.size = ab := ⟨_, rfl⟩
  have HLA : Hid (w3.heap.size = ab) := hab
  rw [hab] at HAB HFW ⊢
  clear hab
  generalize hM : fs.length = m at HOF ⊢
  have HM : Hid (fs.length = m) := hM
  clear hM
  go_loopg [44] m (fun gk s44 wr => ∃ (k : Nat) (e' : En), gk + k = m ∧ s44 = .int .i64 k ∧ Hid (runF fs e = runF (fs.drop k) e') ∧ Hid (EO wr B ab vl vc e') ∧ Hid (Off (fun j => j = ab) w3 wr))
  case atStart => exact ⟨0, e, rfl, rfl, rfl, HAB, HFW⟩
  case round =>
    obtain ⟨k, e', hk, rfl, HR, HE, HF⟩ := hrel
    have HK : Hid (gk + k = m) := hk
    clear hk
    have HOFr : Hid (FOwn wr w.heap.size (.slice a2 m c2) us fs) := HOF.out.off HF.out (fun k hk e1 => by have := (HOF.out.own.lt k hk).2; have := HLA.out; omega) (fun j hj k hk e1 => by have := uat_own HOF.out hj hk; have := HLA.out; omega)
    have hwrn : w3.heap.size ≤ wr.heap.size := HF.out.size
    have hm12 : m ≤ 12 := by have := HL12.out; have := HM.out; omega
    by_cases g : (k : Int) < (m : Int)
    · have hkl : k < fs.length := by have := HM.out; omega
      obtain ⟨gb, capv, hv1, _, hgb⟩ := HOFr.out.own.form (by have := HM.out; omega)
      rw [HM.out] at hv1
      injection hv1 with i1 i2 i3
      subst i1 i3
      have hown := HOFr.out.own
      rw [HM.out] at hown
      have fg := fcs_get us fs k HOFr.out.len hkl
      have y0 := hown.cellAt (k * 3) (by omega)
      have y1 := hown.cellAt (k * 3 + 1) (by omega)
      have y2 := hown.cellAt (k * 3 + 2) (by omega)
      rw [fg.1] at y0
      rw [fg.2.1] at y1
      rw [fg.2.2] at y2
      have hui := HOFr.out.rows k hkl
      have hgood := HOFr.out.good k hkl
      have hmem := fat_mem hkl
      have HAF := HAK.out (fat fs k) hmem
      have hdr := fdrop hkl
      have hrn : runF fs e = runF (fat fs k :: fs.drop (k + 1)) e' := by rw [HR.out, hdr]
      have hsz := fF_small hgood
      have hub : (uat us k).ownBlock ≠ some ab := fun e1 => by have := uat_own HOF.out hkl e1; have := HLA.out; omega
      have bA : Below wr.heap.size wr (wr.alloc (.cells #[.int .i64 (fat fs k).1, uat us k, .string (fat fs k).2.2] 32)) := (Below.refl _ _).alloc (Nat.le_refl _) _
      have HTF := takeFrame_calls (HE.out.below bA) (fat fs k) hgood (irow_of_own (hui.below bA) (by omega)) hub HAF
      have HRN : Hid (runF fs e = runF (fat fs k :: fs.drop (k + 1)) e') := hrn
      obtain ⟨ua, uc, hus⟩ := own_sh hui
      have HFB : Hid (Off (fun j => j = ab) w3 (wr.alloc (.cells #[.int .i64 (fat fs k).1, uat us k, .string (fat fs k).2.2] 32))) := HF.out.trans (Off.of_below bA)
      rw [hus] at y1 HTF HFB
      clear hrn hdr hui hgood hmem HAF fg hown hsz hub bA hus hkl
      generalize fat fs k = f at *
      obtain ⟨fk, fns, fd⟩ := f
      simp only at y0 y1 y2 HTF HFB HRN
      generalize fns.length = fl at *
      by_cases hs : (stpE e' (fk, fns, fd)).1 = 0
      · have HN2 : Hid (runF fs e = runF (fs.drop (k + 1)) (stpE e' (fk, fns, fd)).2) := by show _ = _; rw [HRN.out, runF_cons hs]
        rw [hs, errV_0] at HTF
        clear hs HRN
        generalize (stpE e' (fk, fns, fd)).2 = e2 at *
        go_wp2_with (go_at_call 33; refine HTF.mono ?_; rintro ex w4 ⟨rfl, ht4⟩)
        go_roundg (m - (k + 1))
        case measure => have := HK.out; omega
        case rel => exact ⟨k + 1, e2, by have := HK.out; omega, by go_num, HN2, ht4.1, HFB.out.trans ht4.2⟩
      · have HN2 : Hid (come e n fs = ((stpE e' (fk, fns, fd)).1, e)) := by
          show _ = _
          unfold come
          rw [if_neg (by rw [HMN.out]; decide), HRN.out, runF_stop hs, if_pos hs]
        have hcf2 : cf = (stpE e' (fk, fns, fd)).1 := by rw [← HCF.out, HN2.out]
        rw [errV_f hs, ← hcf2] at HTF
        have hcf0 : cf ≠ 0 := by rw [hcf2]; exact hs
        have HC0 : Hid (cf ≠ 0) := hcf0
        clear hs HRN hcf2 hcf0
        generalize (stpE e' (fk, fns, fd)).2 = e2 at *
        go_wp2_with (go_at_call 33; refine HTF.mono ?_; rintro ex w4 ⟨rfl, ht4⟩)
        go_ret
        refine ⟨by rw [errV_f HC0.out]; rfl, ?_⟩
        rw [HN2.out]
        have o4 : Off (fun j => j = ab) w3 w4 := HFB.out.trans ht4.2
        exact Turn.below HO.out (HB3.out.trans (o4.below (fun j hj => by rw [hj, ← HLA.out]; exact HB3.out.size) HB3.out.size))
    · have hk : k = m := by have := HK.out; omega
      have hrun : runF fs e = (0, e') := by
        rw [HR.out, List.drop_eq_nil_of_le (by have := HM.out; omega)]
        rfl
      have hE3 : EO w3 B eb vl vc e := HO.out.below HB3.out
      have hEr : EO wr B eb vl vc e := hE3.off HF.out fun j hj e1 => by have := (hE3.own_lt hj).2; have := HLA.out; omega
      have HEr : Hid (EO wr B eb vl vc e) := hEr
      have r250 := hEr.cl 250 (by omega)
      rw [ecell_came, HVC.out] at r250
      have a250 := HE.out.cl 250 (by omega)
      rw [ecell_came] at a250
      have af := HE.out.fz 250
      have hAC := add_fits (h := hEr.crow) hEr.inv.cm HMY.out HFU.out
      rw [HVC.out] at hAC a250
      have habr : ab < wr.heap.size := HE.out.lt
      have hebr : eb < wr.heap.size := hEr.lt
      have hil : addL e.cm n = addL e.cm n := rfl
      have HCM : Hid (come e n fs = (0, { e' with cm := addL e.cm n })) := by
        show _ = _
        unfold come
        rw [if_neg (by rw [HMN.out]; decide), hrun, if_neg (by simp), if_neg (by have := HFU.out; omega)]
      have hcf2 : cf = 0 := by rw [← HCF.out, HCM.out]
      have hi : EInv { e' with cm := addL e.cm n } := ⟨HE.out.inv.d60, HE.out.inv.t1, HE.out.inv.l0, HE.out.inv.l1, HE.out.inv.m1, HE.out.inv.k0, HE.out.inv.k1, HE.out.inv.ls, HE.out.inv.s, HE.out.inv.c, addL_chk HO.out.inv.cm HMY.out HFU.out, HE.out.inv.ll⟩
      have HEND : Hid (∀ w5 v', Below wr.heap.size wr w5 → w5.ownsRow wr.heap.size 66 2 v' (addL e.cm n).length (flat (addL e.cm n)) → ∃ W6 W7, Hid (W6 = w5.setCell ⟨ab, 250, none⟩ v') ∧ Hid (W7 = W6.setCells eb 0 (row 251 (ecell { e' with cm := addL e.cm n } vl v'))) ∧ W6.rangeAt ab 0 (row 251 (ecell { e' with cm := addL e.cm n } vl v')) ∧ W6.there eb 0 251 ∧ (∀ i, (ecell { e' with cm := addL e.cm n } vl v' i).oneCell' = true) ∧ Turn w W7 B eb vl vc { e' with cm := addL e.cm n }) := by
        show ∀ w5 v', _ → _ → _
        intro w5 v' hb5 hv5
        have hvw : w5.ownsRow w.heap.size 66 2 v' (addL e.cm n).length (flat (addL e.cm n)) := own_mono hv5 (Nat.le_trans HB3.out.size HF.out.size)
        have o5 : Off (fun j => j = ab) w w5 := by
          have oB : Off (fun j => j = ab) w w3 := Off.of_below HB3.out
          exact (oB.trans HF.out).trans (Off.of_below hb5)
        exact take_end HO.out (by rw [← HLA.out]; exact HB3.out.size) o5 (HE.out.below hb5) hi hvw (fun e1 => by have := (hv5.lt ab e1).1; omega)
      subst hcf2
      clear hrun hEr hE3 hk hi hil
      generalize hcn : addL e.cm n = cn at *
      generalize hnc : e.cm.length = nc at *
      generalize memB e.cm n = mb at *
      generalize hE2 : ({ e' with cm := cn } : En) = e2 at *
      go_wp2_with (first | (go_at_call 23; refine hAC.mono ?_; rintro ex w5 ⟨v5, rfl, ho5, hb5⟩; obtain ⟨a5, c5, hv5⟩ := own_sh ho5; subst hv5; have b250 := (hb5.cell (p := ⟨ab, 250, none⟩) habr).trans a250; have bf : w5.frozen? ⟨ab, 250, none⟩ = false := (World.frozen?_of_block (hb5.block ab habr)).trans af; obtain ⟨W6, W7, HW6, HW7, n1, n2, n3, n4⟩ := HEND.out w5 _ hb5 ho5; have hw6 := HW6.out.symm) | (refine row_load_op (n := 251) (f := ecell e2 vl (.slice a5 cn.length c5)) (ty := 82) rfl (.tmp 9) rfl ab 0 rfl n1 (by kernel_rfl) (by kernel_rfl) ?_) | (refine row_store_to (n := 251) (f := ecell e2 vl (.slice a5 cn.length c5)) (ty := 82) rfl (.tmp 70) (.tmp 69) rfl eb 0 rfl rfl n2 (by kernel_rfl) n3 HW7 ?_))
      go_ret
      refine ⟨rfl, ?_⟩
      rw [HCM.out]
      exact n4
theorem etake_calls {w : World} {B eb : Nat} {vl vc : Value} {e : En} (h : EO w B eb vl vc e) (b : ByteArray) (hl : b.size ≤ 9223372036854775807) (hF : V.Forms w) (hC : Cnts w) (hA : ∀ n fs, rdP b (nextN e) = some (n, fs) → ∀ f ∈ fs, f.1 = 2 → AckC f.2.1) :
    Calls Tryz.prog 16 #[.pointer (some ⟨eb, 0, none⟩), .string b] w fun ex w' => ex = .returned (errV (takeP e b).1) ∧ Turn w w' B eb vl vc (takeP e b).2 := by
  by_cases h0 : opF b (nextN e) = 0
  · obtain ⟨h1, h2, n, fs, h3⟩ := opF_yes h0
    have e1 : takeP e b = come e n fs := by
      unfold takeP
      rw [if_neg (by simpa using h0), h3]
    rw [e1]
    cases h4 : memB e.cm n with
    | true =>
      have e2 : come e n fs = (0, e) := by unfold come; rw [if_pos h4]
      rw [e2]
      exact (take_b h b hF hC h1 h2 n fs h3 h4).mono fun ex w' ⟨a, c⟩ => ⟨a, Turn.below h c⟩
    | false =>
      by_cases h5 : 12 < (addL e.cm n).length
      · exact take_full h b hF hC h1 h2 n fs h3 h4 (hA n fs h3) h5
      · exact take_fits h b hF hC h1 h2 n fs h3 h4 (hA n fs h3) (by omega)
  · have e1 : takeP e b = (opF b (nextN e), e) := by
      unfold takeP
      rw [if_pos h0]
    rw [e1]
    exact (take_a h b hl hF hC h0).mono fun ex w' ⟨a, c⟩ => ⟨a, Turn.below h c⟩
end Go.Proofs.YtegelodkopommaaGreatDoor
