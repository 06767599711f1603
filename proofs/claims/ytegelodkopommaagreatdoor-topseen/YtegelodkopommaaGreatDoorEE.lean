/- What numsOf and frames answer. -/
import Derived.Test.YtegelodkopommaaGreatDoorED
import Derived.Test.YtegelodkopommaaGreatDoorGQ
import Derived.Test.YtegelodkopommaaGreatDoorGF
import Derived.Laws.OwnMore
namespace Go.Proofs.YtegelodkopommaaGreatDoor
open Go.RowKit Go.Lib Go.Sort
set_option linter.unusedVariables false
set_option linter.unusedSimpArgs false


theorem good_ack {cm : List R} (h : chk cm = 0) (h0 : cm ≠ []) : fF (2, unr cm, nilB) = 0 := by
  have hg := (chk_ok cm).1 h
  have hl : cm.length ≠ 0 := fun e => h0 (List.eq_nil_of_length_eq_zero e)
  refine frF_zero rfl ?_ (fun _ => rfl) (unr_mays hg) (show 0 ≤ 20 by omega) (fun _ => by rw [rgs_unr]; exact hg)
  have := hg.1
  unfold cntB
  rw [if_pos rfl, unr_length]
  exact decide_eq_true ⟨by omega, by omega, by omega⟩
theorem good_credit {z : Int} (h0 : 0 ≤ z) (h1 : z ≤ 1073741823) : fF (4, [z], nilB) = 0 :=
  frF_zero rfl rfl (fun _ => rfl) (fun y hy => by simp at hy; subst hy; omega) (show 0 ≤ 20 by omega) (fun e => by cases e)
theorem good_piece {p : Nat × ByteArray} (h0 : p.1 ≤ 60) (h1 : p.2.size ≤ 20) : fF (pfr p) = 0 := by
  show frF 3 [(p.1 : Int)] p.2 = 0
  exact frF_zero rfl rfl (fun e => absurd rfl e) (fun y hy => by simp at hy; subst hy; omega) h1 (fun e => by cases e)
set_option maxRecDepth 100000 in
set_option maxHeartbeats 4000000 in
theorem enumsOf_some (b off len cap : Nat) (zs : List R) (w : World) (hlen : zs.length = len) (h12 : len ≤ 12) (hb : b < w.heap.size) (hc : Cells w b off zs) :
    Calls Tryz.prog 56 #[.slice (some ⟨b, off, none⟩) len cap] w fun e w' => ∃ v', e = .returned v' ∧ OwnI w' w.heap.size v' (unr zs) ∧ Below w.heap.size w w' := by
  have HL : Hid (zs.length = len) := hlen
  have HC : Hid (Cells w b off zs) := hc
  clear hlen hc
  go_enter Tryz.func56, Tryz.ntmps56
  go_wp2_with fail
  go_loopw [3, 8] (fun v i wr => ∃ k : Nat, k ≤ len ∧ i = .int .i64 k ∧ OwnI wr w.heap.size v (unr (zs.take k)) ∧ Below w.heap.size w wr) (fun _ i _ => len - (intOf i).toNat)
  case atStart => exact ⟨0, Nat.zero_le _, rfl, World.ownsRow_nil _ _ _ _, Below.refl _ _⟩
  case round =>
    obtain ⟨k, hk, rfl, hown, hB⟩ := hrel
    by_cases hlt : k < len
    · have g1 : (k : Int) < (len : Int) := by omega
      have hkr : k < zs.length := by have := HL.out; omega
      obtain ⟨c0, c1⟩ := HC.out.below hb hB k hkr
      have HN : Hid (unr (zs.take (k + 1)) = unr (zs.take k) ++ [(at' zs k).2, (at' zs k).1]) := by
        show _ = _
        rw [take_at hkr, unr_append]; rfl
      have hul : (unr (zs.take k)).length ≤ 24 := by rw [unr_length, List.length_take]; omega
      clear hkr
      generalize at' zs k = y at *
      obtain ⟨lo, hi⟩ := y
      simp only at c0 c1 HN
      have bel1 : Below w.heap.size w (wr.alloc (.cells #[.int .i64 lo, .int .i64 hi] 66)) := hB.alloc hB.size _
      have own1 := hown.alloc (.cells #[.int .i64 lo, .int .i64 hi] 66)
      have HO : Hid (OwnI (wr.alloc (.cells #[.int .i64 lo, .int .i64 hi] 66)) w.heap.size u3 (unr (zs.take k))) := own1
      have hBs := hB.size
      have cs := cells_two (wr.alloc (.cells #[.int .i64 lo, .int .i64 hi] 66)) hi lo
      rw [World.size_alloc] at cs
      have CS : Hid (∀ j u, (ivs [hi, lo])[j]? = some u → ((wr.alloc (.cells #[.int .i64 lo, .int .i64 hi] 66)).alloc (.cells #[.int .i64 hi, .int .i64 lo] 3)).cell? ((⟨wr.heap.size + 1, 0, none⟩ : Addr).add j) = some u) := cs
      clear own1 hown cs
      go_wp2_with (at_builtin; refine append_ints rfl (.tmp 12) (.tmp 17) rfl w.heap.size _ (unr (zs.take k)) rfl (HO.out.alloc _) ⟨wr.heap.size + 1, 0, none⟩ 2 2 [hi, lo] rfl rfl CS.out (by simp; omega) (by simp; omega) ?_; intro v' w' hown' hgr)
      exact ⟨⟨k + 1, by omega, by go_num, by rw [HN.out]; exact hown', (bel1.alloc (by simp; omega) _).grown hgr (by simp; omega) (fun j e => (HO.out.lt j e).1)⟩, by simp [intOf]; omega⟩
    · have g1 : ¬ (k : Int) < (len : Int) := by omega
      obtain rfl : k = len := by omega
      have HE : Hid (zs.take k = zs) := by show _ = _; rw [← HL.out, List.take_length]
      rw [HE.out] at hown
      obtain ⟨a, c, rfl⟩ := hown.shape
      clear HE
      go_wp2_with fail
      go_ret
      exact ⟨_, rfl, hown, hB⟩
theorem enumsOf_calls (v : Value) (zs : List R) (w : World) (hR : Row w v zs) (h12 : zs.length ≤ 12) (h0 : zs ≠ []) :
    Calls Tryz.prog 56 #[v] w fun e w' => ∃ v', e = .returned v' ∧ OwnI w' w.heap.size v' (unr zs) ∧ Below w.heap.size w w' := by
  obtain ⟨ao, c, rfl, hl, hn, hz⟩ := hR
  rcases hz with h | ⟨b, off, rfl, hb, hC⟩
  · exact absurd h h0
  · exact enumsOf_some b off _ c zs w rfl h12 hb hC

set_option maxRecDepth 100000 in
set_option maxHeartbeats 4000000 in
theorem frames_none {w : World} {B eb : Nat} {vl vc : Value} {e : En} (h : EO w B eb vl vc e) (h0 : e.cm = []) {vp : Value} {Bp : Nat} {ps : List (Nat × ByteArray)} (hps : ps = pieces e) (hv : w.ownsRow Bp 112 2 vp ps.length (pcell ps)) :
    Calls Tryz.prog 35 #[.pointer (some ⟨eb, 0, none⟩), vp] w fun ex w' => ∃ v us, ex = .returned v ∧ FOwn w' w.heap.size v us (frs e) ∧ Below w.heap.size w w' := by
  obtain ⟨i0, hi0, hz0, hz1, hz2⟩ := info_parts infoF
  have HO : Hid (EO w B eb vl vc e) := h
  have HV : Hid (w.ownsRow Bp 112 2 vp ps.length (pcell ps)) := hv
  have hm3 : ps.length ≤ 3 := by rw [hps]; exact pcs_length _ _ _ _
  have HM3 : Hid (ps.length ≤ 3) := hm3
  have HPE : Hid (∀ p ∈ ps, p.1 ≤ 60 ∧ p.2.size ≤ 20) := by
    show ∀ p ∈ ps, _
    intro p hp
    rw [hps] at hp
    have := pcs_each e.d (en e) (en_le e) 3 e.t p hp
    have := h.inv.en60
    omega
  have c250 := h.cl 250 (by omega)
  rw [ecell_came] at c250
  obtain ⟨aoc, cc, hvc⟩ := own_sh h.cm
  rw [hvc] at c250
  obtain ⟨aov, cv, hvp⟩ := own_sh hv
  have HVV : Hid (vp = .slice aov ps.length cv) := hvp
  rw [hvp]
  have HF : Hid ([] ++ [(4, [e.c.lim], nilB)] ++ ps.map pfr = frs e) := by
    show _ = _
    rw [hps]
    unfold frs
    rw [if_pos h0]
    rfl
  rw [h0] at c250
  simp only [List.length_nil] at c250
  clear h0
  clear h hv hps hvc hvp hm3
  go_enter Tryz.func35, Tryz.ntmps35
  have HX : Hid (FOwn w w.heap.size (.slice none 0 0) [] []) := FOwn.nil _ _
  have HB : Hid (Below w.heap.size w w) := Below.refl _ _
  have HL := fun X (hX : Below w.heap.size w X) => Cy.limit_calls ((HO.out.below hX).cy)
  have lim0 := HO.out.inv.c.l1
  have lim1 := HO.out.inv.c.l2
  have lim2 := HO.out.inv.c.w1
  have hgc : fF (4, [e.c.lim], nilB) = 0 := good_credit (by omega) (by omega)
  have HGC : Hid (fF (4, [e.c.lim], nilB) = 0) := hgc
  clear lim0 lim1 lim2 hgc
  generalize e.c.lim = z at HL HGC HF
  go_wp2_with (first | (go_at_call 57; refine (HL _ HB.out).mono ?_; rintro ex wy ⟨rfl, hwy⟩; obtain rfl := hwy.symm) | (at_builtin; refine wpList_append_own_at _ rfl (.tmp 23) (.tmp 30) 33 rfl w.heap.size 32 i0 _ 3 48 Tryz.underlying33 hi0 hz0 hz1 hz2 rfl (by decide) _ _ (fcs [] []) rfl ((HX.out.own.alloc _).alloc _) ⟨w.heap.size + 1, 0, none⟩ 1 1 [Value.int .i64 4, .slice (some ⟨w.heap.size, 0, none⟩) 1 1, .string { data := #[] }] rfl rfl (by have := cells_frame_new (w.alloc (.cells #[.int .i64 z] 3)) 4 (.slice (some ⟨w.heap.size, 0, none⟩) 1 1) { data := #[] } 32; rw [World.size_alloc] at this; exact this) (frame_one 4 _ 1 1 { data := #[] }) (by unfold maxLen; simp) (by simp) (by have := HB.out.size; simp; omega) ?_; intro v5 w5 ho5 hg5 hq5 hl5; clear hq5; obtain ⟨ao5, c5, rfl⟩ := own_sh ho5))
  have ho3 : OwnI ((w.alloc (.cells #[.int .i64 z] 3)).alloc (.cells #[.int .i64 4, .slice (some ⟨w.heap.size, 0, none⟩) 1 1, .string { data := #[] }] 32)) w.heap.size (.slice (some ⟨w.heap.size, 0, none⟩) 1 1) [z] := (World.ownsRow_lit (base := w.heap.size) (e := 3) (size := 1) w #[.int .i64 z] 1 HB.out.size (by unfold maxLen; omega) rfl).alloc _
  have hbx : Below w.heap.size w ((w.alloc (.cells #[.int .i64 z] 3)).alloc (.cells #[.int .i64 4, .slice (some ⟨w.heap.size, 0, none⟩) 1 1, .string { data := #[] }] 32)) := ((Below.refl _ _).alloc (Nat.le_refl _) _).alloc (by simp) _
  have HX5 : Hid (FOwn w5 w.heap.size (.slice ao5 1 c5) ([] ++ [.slice (some ⟨w.heap.size, 0, none⟩) 1 1]) ([] ++ [(4, [z], nilB)])) := (HX.out.below hbx).app (f := (4, [z], nilB)) ho3 HGC.out ho5 hg5
  have hB5 : Below w.heap.size w w5 := (HB.out.trans (hbx.mono HB.out.size)).grown hg5 (by have := HB.out.size; simp; omega) (fun k e => (HX.out.own.lt k e).1)
  clear ho3 hbx ho5 hg5 hl5 HX HL HGC HB
  generalize hU : ([] ++ [Value.slice (some ⟨w.heap.size, 0, none⟩) 1 1]) = us1 at HX5
  clear hU
  generalize hM : ps.length = m at HVV ⊢
  have HM : Hid (ps.length = m) := hM
  clear hM
  go_loopg [5, 34] m (fun gk s5 s34 wr => ∃ (k : Nat) (ao : Option Addr) (c : Nat) (us : List Value), gk + k = m ∧ s34 = .int .i64 k ∧ s5 = .slice ao (1 + k) c ∧ Hid (FOwn wr w.heap.size (.slice ao (1 + k) c) us (([] ++ [(4, [z], nilB)]) ++ (ps.take k).map pfr)) ∧ Hid (Below w.heap.size w wr))
  case atStart => exact ⟨0, ao5, c5, us1, rfl, rfl, rfl, (by show FOwn _ _ _ _ _; rw [List.take_zero, List.map_nil, List.append_nil]; exact HX5.out), hB5⟩
  case round =>
    obtain ⟨k, ao, c, us, hk, rfl, rfl, HX, HB⟩ := hrel
    have HK : Hid (gk + k = m) := hk
    clear hk
    have hk12 := HM3.out
    rw [HM.out] at hk12
    by_cases g : (k : Int) < (m : Int)
    · have hkl : k < ps.length := by have := HM.out; omega
      obtain ⟨gb, capv, hv1, hgb⟩ : ∃ gb capv, vp = .slice (some ⟨gb, 0, none⟩) m capv ∧ gb < w.heap.size := by
        rcases HV.out.2 with ⟨_, h0⟩ | ⟨gb, capv, cur, h1, h2, h3, _⟩
        · omega
        · exact ⟨gb, capv, by rw [h1, HM.out], (Array.getElem?_eq_some_iff.1 h3).1⟩
      have hv2 : Value.slice aov m cv = .slice (some ⟨gb, 0, none⟩) m capv := HVV.out.symm.trans hv1
      injection hv2 with e1 e2 e3
      subst e1 e3
      have hvv := HV.out
      rw [hv1, HM.out] at hvv
      have y0 := hvv.cellAt (k * 2) (by omega)
      have y1 := hvv.cellAt (k * 2 + 1) (by omega)
      rw [(pcell_at ps k hkl).1] at y0
      rw [(pcell_at ps k hkl).2] at y1
      have z0 := (HB.out.cell (p := ⟨gb, k * 2, none⟩) hgb).trans y0
      have z1 := (HB.out.cell (p := ⟨gb, k * 2 + 1, none⟩) hgb).trans y1
      have HN : Hid (([] ++ [(4, [z], nilB)]) ++ (ps.take (k + 1)).map pfr = (([] ++ [(4, [z], nilB)]) ++ (ps.take k).map pfr) ++ [pfr ps[k]]) := by
        show _ = _
        rw [List.take_succ_eq_append_getElem hkl, List.map_append, List.append_assoc]
        rfl
      have hpe := HPE.out ps[k] (List.getElem_mem hkl)
      have HGP : Hid (fF (pfr ps[k]) = 0) := good_piece (by omega) (by omega)
      have hlk : (([] ++ [(4, [z], nilB)]) ++ (ps.take k).map pfr).length = 1 + k := by simp; omega
      have HLK : Hid ((([] ++ [(4, [z], nilB)]) ++ (ps.take k).map pfr).length = 1 + k) := hlk
      clear hvv hv1 y0 y1 hlk
      generalize ps[k] = pp at *
      clear hkl
      obtain ⟨p, s⟩ := pp
      simp only at z0 z1
      generalize ([] ++ [(4, [z], nilB)]) ++ (ps.take k).map pfr = L at *
      have hox := HX.out.own
      rw [HLK.out] at hox
      have hsz := HB.out.size
      clear hpe
      go_wp2_with (at_builtin; refine wpList_append_own_at _ rfl (.tmp 38) (.tmp 45) 33 rfl w.heap.size 32 i0 _ 3 48 Tryz.underlying33 hi0 hz0 hz1 hz2 rfl (by decide) _ _ (fcs us L) rfl (((hox.alloc _).alloc _).alloc _) ⟨wr.heap.size + 1 + 1, 0, none⟩ 1 1 [Value.int .i64 3, .slice (some ⟨wr.heap.size + 1, 0, none⟩) 1 1, .string s] rfl rfl (by have := cells_frame_new ((wr.alloc (.cells #[.int .i64 (p : Int), .string s] 112)).alloc (.cells #[.int .i64 (p : Int)] 3)) 3 (.slice (some ⟨wr.heap.size + 1, 0, none⟩) 1 1) s 32; rw [World.size_alloc, World.size_alloc] at this; exact this) (frame_one 3 _ 1 1 s) (by unfold maxLen; omega) (by omega) (by simp; omega) ?_; intro v7 w7 ho7 hg7 hq7 hl7; clear hq7; obtain ⟨ao7, c7, rfl⟩ := own_sh ho7)
      have ho4 : OwnI (((wr.alloc (.cells #[.int .i64 (p : Int), .string s] 112)).alloc (.cells #[.int .i64 (p : Int)] 3)).alloc (.cells #[.int .i64 3, .slice (some ⟨wr.heap.size + 1, 0, none⟩) 1 1, .string s] 32)) w.heap.size (.slice (some ⟨wr.heap.size + 1, 0, none⟩) 1 1) [(p : Int)] := by
        have := (World.ownsRow_lit (base := w.heap.size) (e := 3) (size := 1) (wr.alloc (.cells #[.int .i64 (p : Int), .string s] 112)) #[.int .i64 (p : Int)] 1 (by simp; omega) (by unfold maxLen; omega) rfl).alloc (.cells #[.int .i64 3, .slice (some ⟨wr.heap.size + 1, 0, none⟩) 1 1, .string s] 32)
        rw [World.size_alloc] at this
        exact this
      have hbx : Below wr.heap.size wr (((wr.alloc (.cells #[.int .i64 (p : Int), .string s] 112)).alloc (.cells #[.int .i64 (p : Int)] 3)).alloc (.cells #[.int .i64 3, .slice (some ⟨wr.heap.size + 1, 0, none⟩) 1 1, .string s] 32)) := (((Below.refl _ _).alloc (Nat.le_refl _) _).alloc (by simp) _).alloc (by simp; omega) _
      have HX7 : Hid (FOwn w7 w.heap.size (.slice ao7 (1 + k + 1) c7) (us ++ [.slice (some ⟨wr.heap.size + 1, 0, none⟩) 1 1]) (L ++ [pfr (p, s)])) := (HX.out.below hbx).app (f := pfr (p, s)) ho4 HGP.out (by rw [HLK.out]; exact ho7) hg7
      have hB7 : Below w.heap.size w w7 := (HB.out.trans (hbx.mono HB.out.size)).grown hg7 (by simp; omega) (fun k e => (hox.lt k e).1)
      go_roundg (m - (k + 1))
      case measure => have := HK.out; omega
      case rel => exact ⟨k + 1, ao7, c7, _, by have := HK.out; omega, by go_num, by rw [Nat.add_assoc], (by show FOwn _ _ _ _ _; rw [HN.out, ← Nat.add_assoc]; exact HX7.out), hB7⟩
    · have HE : Hid (([] ++ [(4, [z], nilB)]) ++ (ps.take k).map pfr = frs e) := by
        show _ = _
        rw [List.take_of_length_le (by have := HM.out; have := HK.out; omega)]
        exact HF.out
      go_wp2_with fail
      go_ret
      exact ⟨_, rfl, ⟨us, by rw [← HE.out]; exact HX.out⟩, HB.out⟩

set_option maxRecDepth 100000 in
set_option maxHeartbeats 4000000 in
theorem frames_some {w : World} {B eb : Nat} {vl vc : Value} {e : En} (h : EO w B eb vl vc e) (h0 : e.cm ≠ []) {vp : Value} {Bp : Nat} {ps : List (Nat × ByteArray)} (hps : ps = pieces e) (hv : w.ownsRow Bp 112 2 vp ps.length (pcell ps)) :
    Calls Tryz.prog 35 #[.pointer (some ⟨eb, 0, none⟩), vp] w fun ex w' => ∃ v us, ex = .returned v ∧ FOwn w' w.heap.size v us (frs e) ∧ Below w.heap.size w w' := by
  obtain ⟨i0, hi0, hz0, hz1, hz2⟩ := info_parts infoF
  have HO : Hid (EO w B eb vl vc e) := h
  have HV : Hid (w.ownsRow Bp 112 2 vp ps.length (pcell ps)) := hv
  have hm3 : ps.length ≤ 3 := by rw [hps]; exact pcs_length _ _ _ _
  have HM3 : Hid (ps.length ≤ 3) := hm3
  have HPE : Hid (∀ p ∈ ps, p.1 ≤ 60 ∧ p.2.size ≤ 20) := by
    show ∀ p ∈ ps, _
    intro p hp
    rw [hps] at hp
    have := pcs_each e.d (en e) (en_le e) 3 e.t p hp
    have := h.inv.en60
    omega
  have c250 := h.cl 250 (by omega)
  rw [ecell_came] at c250
  obtain ⟨aoc, cc, hvc⟩ := own_sh h.cm
  rw [hvc] at c250
  obtain ⟨aov, cv, hvp⟩ := own_sh hv
  have HVV : Hid (vp = .slice aov ps.length cv) := hvp
  rw [hvp]
  have HF : Hid ([(2, unr e.cm, nilB)] ++ [(4, [e.c.lim], nilB)] ++ ps.map pfr = frs e) := by
    show _ = _
    rw [hps]
    unfold frs
    rw [if_neg h0]
    rfl
  have hcl : e.cm.length ≠ 0 := fun e' => h0 (List.eq_nil_of_length_eq_zero e')
  have h12 := ((chk_ok e.cm).1 h.inv.cm).1
  have HNU := fun X (hX : Below w.heap.size w X) => enumsOf_calls vc e.cm X (h.below hX).crow h12 h0
  have HGA : Hid (fF (2, unr e.cm, nilB) = 0) := good_ack h.inv.cm h0
  rw [hvc] at HNU
  generalize hN : e.cm.length = nc at *
  have gc : (0 : Int) < (nc : Int) := by omega
  generalize unr e.cm = uc at *
  clear h0 hN
  clear h hv hps hvc hvp hm3
  go_enter Tryz.func35, Tryz.ntmps35
  go_wp2_with fail
  refine (HNU _ (Below.refl _ _)).mono ?_
  rintro ex w1 ⟨v1, rfl, ho1, hb1⟩
  obtain ⟨a1, c1, hv1⟩ := own_sh ho1
  subst hv1
  have ho2 : OwnI (w1.alloc (.cells #[.int .i64 2, .slice a1 uc.length c1, .string { data := #[] }] 32)) w.heap.size (.slice a1 uc.length c1) uc := ho1.alloc _
  have hcn := cells_frame_new w1 2 (.slice a1 uc.length c1) { data := #[] } 32
  have hsz1 := hb1.size
  clear HNU ho1
  go_wp2_with (at_builtin; refine wpList_append_own_at _ rfl (.tmp 14) (.tmp 21) 33 rfl w.heap.size 32 i0 _ 3 48 Tryz.underlying33 hi0 hz0 hz1 hz2 rfl (by decide) _ _ (fcs [] []) rfl (World.ownsRow_nil _ _ _ _) ⟨w1.heap.size, 0, none⟩ 1 1 [Value.int .i64 2, .slice a1 uc.length c1, .string { data := #[] }] rfl rfl hcn (frame_one 2 a1 uc.length c1 { data := #[] }) (by unfold maxLen; simp) (by simp) (by simp; omega) ?_; intro vx wx hox hgx hqx hlx; clear hqx; obtain ⟨aox, cx, rfl⟩ := own_sh hox; have HX : Hid (FOwn wx w.heap.size (.slice aox 1 cx) [.slice a1 uc.length c1] [(2, uc, nilB)]) := (FOwn.nil (w1.alloc (.cells #[.int .i64 2, .slice a1 uc.length c1, .string { data := #[] }] 32)) w.heap.size).app (f := (2, uc, nilB)) ho2 HGA.out hox hgx; have HB : Hid (Below w.heap.size w wx) := (hb1.alloc hb1.size _).grown hgx (by simp; omega) (fun k e => by cases e); clear ho2 hcn hox hgx hlx)
  have HL := fun X (hX : Below w.heap.size w X) => Cy.limit_calls ((HO.out.below hX).cy)
  have lim0 := HO.out.inv.c.l1
  have lim1 := HO.out.inv.c.l2
  have lim2 := HO.out.inv.c.w1
  have hgc : fF (4, [e.c.lim], nilB) = 0 := good_credit (by omega) (by omega)
  have HGC : Hid (fF (4, [e.c.lim], nilB) = 0) := hgc
  clear lim0 lim1 lim2 hgc
  generalize e.c.lim = z at HL HGC HF
  go_wp2_with (first | (go_at_call 57; refine (HL _ HB.out).mono ?_; rintro ex wy ⟨rfl, hwy⟩; obtain rfl := hwy.symm) | (at_builtin; refine wpList_append_own_at _ rfl (.tmp 23) (.tmp 30) 33 rfl w.heap.size 32 i0 _ 3 48 Tryz.underlying33 hi0 hz0 hz1 hz2 rfl (by decide) _ _ (fcs [.slice a1 uc.length c1] [(2, uc, nilB)]) rfl ((HX.out.own.alloc _).alloc _) ⟨wx.heap.size + 1, 0, none⟩ 1 1 [Value.int .i64 4, .slice (some ⟨wx.heap.size, 0, none⟩) 1 1, .string { data := #[] }] rfl rfl (by have := cells_frame_new (wx.alloc (.cells #[.int .i64 z] 3)) 4 (.slice (some ⟨wx.heap.size, 0, none⟩) 1 1) { data := #[] } 32; rw [World.size_alloc] at this; exact this) (frame_one 4 _ 1 1 { data := #[] }) (by unfold maxLen; simp) (by simp) (by have := HB.out.size; simp; omega) ?_; intro v5 w5 ho5 hg5 hq5 hl5; clear hq5; obtain ⟨ao5, c5, rfl⟩ := own_sh ho5))
  have ho3 : OwnI ((wx.alloc (.cells #[.int .i64 z] 3)).alloc (.cells #[.int .i64 4, .slice (some ⟨wx.heap.size, 0, none⟩) 1 1, .string { data := #[] }] 32)) w.heap.size (.slice (some ⟨wx.heap.size, 0, none⟩) 1 1) [z] := (World.ownsRow_lit (base := w.heap.size) (e := 3) (size := 1) wx #[.int .i64 z] 1 HB.out.size (by unfold maxLen; omega) rfl).alloc _
  have hbx : Below wx.heap.size wx ((wx.alloc (.cells #[.int .i64 z] 3)).alloc (.cells #[.int .i64 4, .slice (some ⟨wx.heap.size, 0, none⟩) 1 1, .string { data := #[] }] 32)) := ((Below.refl _ _).alloc (Nat.le_refl _) _).alloc (by simp) _
  have HX5 : Hid (FOwn w5 w.heap.size (.slice ao5 2 c5) ([.slice a1 uc.length c1] ++ [.slice (some ⟨wx.heap.size, 0, none⟩) 1 1]) ([(2, uc, nilB)] ++ [(4, [z], nilB)])) := (HX.out.below hbx).app (f := (4, [z], nilB)) ho3 HGC.out ho5 hg5
  have hB5 : Below w.heap.size w w5 := (HB.out.trans (hbx.mono HB.out.size)).grown hg5 (by have := HB.out.size; simp; omega) (fun k e => (HX.out.own.lt k e).1)
  clear ho3 hbx ho5 hg5 hl5 HX HL HGC HB
  generalize hU : ([.slice a1 uc.length c1] ++ [Value.slice (some ⟨wx.heap.size, 0, none⟩) 1 1]) = us1 at HX5
  clear hU
  generalize hM : ps.length = m at HVV ⊢
  have HM : Hid (ps.length = m) := hM
  clear hM
  go_loopg [5, 34] m (fun gk s5 s34 wr => ∃ (k : Nat) (ao : Option Addr) (c : Nat) (us : List Value), gk + k = m ∧ s34 = .int .i64 k ∧ s5 = .slice ao (2 + k) c ∧ Hid (FOwn wr w.heap.size (.slice ao (2 + k) c) us (([(2, uc, nilB)] ++ [(4, [z], nilB)]) ++ (ps.take k).map pfr)) ∧ Hid (Below w.heap.size w wr))
  case atStart => exact ⟨0, ao5, c5, us1, rfl, rfl, rfl, (by show FOwn _ _ _ _ _; rw [List.take_zero, List.map_nil, List.append_nil]; exact HX5.out), hB5⟩
  case round =>
    obtain ⟨k, ao, c, us, hk, rfl, rfl, HX, HB⟩ := hrel
    have HK : Hid (gk + k = m) := hk
    clear hk
    have hk12 := HM3.out
    rw [HM.out] at hk12
    by_cases g : (k : Int) < (m : Int)
    · have hkl : k < ps.length := by have := HM.out; omega
      obtain ⟨gb, capv, hv1, hgb⟩ : ∃ gb capv, vp = .slice (some ⟨gb, 0, none⟩) m capv ∧ gb < w.heap.size := by
        rcases HV.out.2 with ⟨_, h0⟩ | ⟨gb, capv, cur, h1, h2, h3, _⟩
        · omega
        · exact ⟨gb, capv, by rw [h1, HM.out], (Array.getElem?_eq_some_iff.1 h3).1⟩
      have hv2 : Value.slice aov m cv = .slice (some ⟨gb, 0, none⟩) m capv := HVV.out.symm.trans hv1
      injection hv2 with e1 e2 e3
      subst e1 e3
      have hvv := HV.out
      rw [hv1, HM.out] at hvv
      have y0 := hvv.cellAt (k * 2) (by omega)
      have y1 := hvv.cellAt (k * 2 + 1) (by omega)
      rw [(pcell_at ps k hkl).1] at y0
      rw [(pcell_at ps k hkl).2] at y1
      have z0 := (HB.out.cell (p := ⟨gb, k * 2, none⟩) hgb).trans y0
      have z1 := (HB.out.cell (p := ⟨gb, k * 2 + 1, none⟩) hgb).trans y1
      have HN : Hid (([(2, uc, nilB)] ++ [(4, [z], nilB)]) ++ (ps.take (k + 1)).map pfr = (([(2, uc, nilB)] ++ [(4, [z], nilB)]) ++ (ps.take k).map pfr) ++ [pfr ps[k]]) := by
        show _ = _
        rw [List.take_succ_eq_append_getElem hkl, List.map_append, List.append_assoc]
        rfl
      have hpe := HPE.out ps[k] (List.getElem_mem hkl)
      have HGP : Hid (fF (pfr ps[k]) = 0) := good_piece (by omega) (by omega)
      have hlk : (([(2, uc, nilB)] ++ [(4, [z], nilB)]) ++ (ps.take k).map pfr).length = 2 + k := by simp; omega
      have HLK : Hid ((([(2, uc, nilB)] ++ [(4, [z], nilB)]) ++ (ps.take k).map pfr).length = 2 + k) := hlk
      clear hvv hv1 y0 y1 hlk
      generalize ps[k] = pp at *
      clear hkl
      obtain ⟨p, s⟩ := pp
      simp only at z0 z1
      generalize ([(2, uc, nilB)] ++ [(4, [z], nilB)]) ++ (ps.take k).map pfr = L at *
      have hox := HX.out.own
      rw [HLK.out] at hox
      have hsz := HB.out.size
      clear hpe
      go_wp2_with (at_builtin; refine wpList_append_own_at _ rfl (.tmp 38) (.tmp 45) 33 rfl w.heap.size 32 i0 _ 3 48 Tryz.underlying33 hi0 hz0 hz1 hz2 rfl (by decide) _ _ (fcs us L) rfl (((hox.alloc _).alloc _).alloc _) ⟨wr.heap.size + 1 + 1, 0, none⟩ 1 1 [Value.int .i64 3, .slice (some ⟨wr.heap.size + 1, 0, none⟩) 1 1, .string s] rfl rfl (by have := cells_frame_new ((wr.alloc (.cells #[.int .i64 (p : Int), .string s] 112)).alloc (.cells #[.int .i64 (p : Int)] 3)) 3 (.slice (some ⟨wr.heap.size + 1, 0, none⟩) 1 1) s 32; rw [World.size_alloc, World.size_alloc] at this; exact this) (frame_one 3 _ 1 1 s) (by unfold maxLen; omega) (by omega) (by simp; omega) ?_; intro v7 w7 ho7 hg7 hq7 hl7; clear hq7; obtain ⟨ao7, c7, rfl⟩ := own_sh ho7)
      have ho4 : OwnI (((wr.alloc (.cells #[.int .i64 (p : Int), .string s] 112)).alloc (.cells #[.int .i64 (p : Int)] 3)).alloc (.cells #[.int .i64 3, .slice (some ⟨wr.heap.size + 1, 0, none⟩) 1 1, .string s] 32)) w.heap.size (.slice (some ⟨wr.heap.size + 1, 0, none⟩) 1 1) [(p : Int)] := by
        have := (World.ownsRow_lit (base := w.heap.size) (e := 3) (size := 1) (wr.alloc (.cells #[.int .i64 (p : Int), .string s] 112)) #[.int .i64 (p : Int)] 1 (by simp; omega) (by unfold maxLen; omega) rfl).alloc (.cells #[.int .i64 3, .slice (some ⟨wr.heap.size + 1, 0, none⟩) 1 1, .string s] 32)
        rw [World.size_alloc] at this
        exact this
      have hbx : Below wr.heap.size wr (((wr.alloc (.cells #[.int .i64 (p : Int), .string s] 112)).alloc (.cells #[.int .i64 (p : Int)] 3)).alloc (.cells #[.int .i64 3, .slice (some ⟨wr.heap.size + 1, 0, none⟩) 1 1, .string s] 32)) := (((Below.refl _ _).alloc (Nat.le_refl _) _).alloc (by simp) _).alloc (by simp; omega) _
      have HX7 : Hid (FOwn w7 w.heap.size (.slice ao7 (2 + k + 1) c7) (us ++ [.slice (some ⟨wr.heap.size + 1, 0, none⟩) 1 1]) (L ++ [pfr (p, s)])) := (HX.out.below hbx).app (f := pfr (p, s)) ho4 HGP.out (by rw [HLK.out]; exact ho7) hg7
      have hB7 : Below w.heap.size w w7 := (HB.out.trans (hbx.mono HB.out.size)).grown hg7 (by simp; omega) (fun k e => (hox.lt k e).1)
      go_roundg (m - (k + 1))
      case measure => have := HK.out; omega
      case rel => exact ⟨k + 1, ao7, c7, _, by have := HK.out; omega, by go_num, by rw [Nat.add_assoc], (by show FOwn _ _ _ _ _; rw [HN.out, ← Nat.add_assoc]; exact HX7.out), hB7⟩
    · have HE : Hid (([(2, uc, nilB)] ++ [(4, [z], nilB)]) ++ (ps.take k).map pfr = frs e) := by
        show _ = _
        rw [List.take_of_length_le (by have := HM.out; have := HK.out; omega)]
        exact HF.out
      go_wp2_with fail
      go_ret
      exact ⟨_, rfl, ⟨us, by rw [← HE.out]; exact HX.out⟩, HB.out⟩

theorem frames_calls {w : World} {B eb : Nat} {vl vc : Value} {e : En} (h : EO w B eb vl vc e) {vp : Value} {Bp : Nat} (hv : w.ownsRow Bp 112 2 vp (pieces e).length (pcell (pieces e))) :
    Calls Tryz.prog 35 #[.pointer (some ⟨eb, 0, none⟩), vp] w fun ex w' => ∃ v us, ex = .returned v ∧ FOwn w' w.heap.size v us (frs e) ∧ Below w.heap.size w w' := by
  by_cases h0 : e.cm = []
  · exact frames_none h h0 rfl hv
  · exact frames_some h h0 rfl hv
end Go.Proofs.YtegelodkopommaaGreatDoor
