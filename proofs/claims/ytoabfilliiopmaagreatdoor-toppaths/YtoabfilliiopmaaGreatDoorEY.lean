/- What tell leaves. -/
import Derived.Test.YtoabfilliiopmaaGreatDoorEN
import Derived.Test.YtoabfilliiopmaaGreatDoorET
import Derived.Great.Walk
import Derived.Deep.LoopGhost
namespace Go.Proofs.YtoabfilliiopmaaGreatDoor
open Go.RowKit Go.Lib Go.Sort
set_option linter.unusedVariables false
set_option linter.unusedSimpArgs false


/-- The cells of a load. -/
def lcell (x : Ld) (i : Nat) : Value := if i = 0 then .int .i64 x.lo else if i = 1 then .int .i64 x.hi else .bool (decide (x.a ≤ i - 2 ∧ i - 2 < x.b))
theorem lcell_lo (x : Ld) : lcell x 0 = .int .i64 x.lo := rfl
theorem lcell_hi (x : Ld) : lcell x 1 = .int .i64 x.hi := rfl
theorem lcell_had (x : Ld) (p : Nat) : lcell x (2 + p) = .bool (decide (x.a ≤ p ∧ p < x.b)) := by
  unfold lcell
  rw [if_neg (by omega), if_neg (by omega), show 2 + p - 2 = p by omega]
theorem lcell_one (x : Ld) (i : Nat) : (lcell x i).oneCell' = true := by
  unfold lcell
  split
  · rfl
  · split <;> rfl
theorem lds1_get (x : Ld) (i : Nat) (h : i < 62) : (lds1 x)[i]? = some (lcell x i) := by
  unfold lds1
  match i, h with
  | 0, _ => rfl
  | 1, _ => rfl
  | i + 2, h =>
    rw [List.getElem?_cons_succ, List.getElem?_cons_succ, row_get (by omega), show i + 2 = 2 + i by omega, lcell_had]
theorem zero_load (W : World) : (zeroValue 160).run Tryz.prog W = .ok (.agg (row 62 (lcell ⟨0, 0, 0, 0⟩)).toArray) W := by kernel_rfl
theorem tell_res {fn : Func} (h : fn.results = #[]) (tmps : Array Value) (w : World) : (results fn tmps).run Tryz.prog w = .ok (.tuple #[]) w := by
  simp [results, h]
theorem ecell_t {e : En} {t t' : Nat} {vl vc : Value} {i : Nat} (h : i ≤ 60 ∨ 121 ≤ i) : ecell { e with t := t } vl vc i = ecell { e with t := t' } vl vc i := by
  unfold ecell
  by_cases b1 : i < 60
  · simp only [b1, if_true]
  · by_cases b2 : i = 60
    · subst b2; rfl
    · have b3 : ¬ i < 121 := by omega
      simp only [b1, b2, b3, if_false]
theorem EInv.setT {e : En} {t0 t : Nat} (h : EInv { e with t := t0 }) (h0 : t0 ≤ t) (h1 : t ≤ en e) : EInv { e with t := t } :=
  ⟨h.d60, h1, h.l0, h.l1, h.m1, h.k0, h.k1, fun x hx => ⟨(h.ls x hx).1, (h.ls x hx).2.1, Nat.le_trans (h.ls x hx).2.2.1 h0, (h.ls x hx).2.2.2⟩, h.s, h.c, h.cm, h.ll⟩
theorem EO.setT {w : World} {B eb : Nat} {vl vc : Value} {e : En} {t1 t2 p : Nat} {v : Bool} (h : EO w B eb vl vc { e with t := t1 }) (hi : EInv { e with t := t2 }) (hp : p < 60) (hd : ∀ i, i < 60 → i ≠ p → decide (i < t1) = decide (i < t2)) (hv : v = decide (p < t2)) : TurnI w (w.setCell ⟨eb, 61 + p, none⟩ (.bool v)) B eb vl vc { e with t := t2 } := by
  subst hv
  have o : Off (fun k => k = eb) w (w.setCell ⟨eb, 61 + p, none⟩ (.bool (decide (p < t2)))) := (Off.refl _ _).setCell (K := fun k => k = eb) (a := ⟨eb, 61 + p, none⟩) rfl _
  refine ⟨⟨hi, fun i hi => ?_, fun i => by simpa using h.fz i, h.hs, o.row h.ld (fun k hk e' => by subst e'; exact h.ap.1 hk), o.row h.cm (fun k hk e' => by subst e'; exact h.ap.2 hk), h.ap⟩, o⟩
  by_cases e1 : i = 61 + p
  · subst e1
    rw [ecell_told hp]
    exact World.cell?_setCell_same _ _ _ (h.cl (61 + p) (by omega))
  · rw [World.cell?_setCell_other _ _ _ _ (fun e' => by injection e' with _ e' _; exact e1 e'.symm), h.cl i hi]
    by_cases e2 : i ≤ 60 ∨ 121 ≤ i
    · exact congrArg some (ecell_t e2)
    · obtain ⟨j, rfl⟩ : ∃ j, i = 61 + j := ⟨i - 61, by omega⟩
      rw [ecell_told (by omega), ecell_told (by omega), hd j (by omega) (by omega)]
theorem tell1_drop {ls : List Ld} {k t : Nat} {r : R} (h : k < ls.length) : tell1 (ls.drop k) t r = tell1 (ls.drop (k + 1)) (if (ls[k].hi : Int) < r.1 ∨ r.2 < (ls[k].lo : Int) then t else max t ls[k].b) r := by
  rw [List.drop_eq_getElem_cons h]
  rfl
set_option maxRecDepth 100000 in
set_option maxHeartbeats 4000000 in
theorem tell_calls {w : World} {B eb : Nat} {vl vc : Value} {e : En} (h : EO w B eb vl vc e) (lo hi : Int) : Calls Tryz.prog 127 #[.pointer (some ⟨eb, 0, none⟩), .agg #[.int .i64 lo, .int .i64 hi]] w fun ex w' => ex = .returned (.tuple #[]) ∧ TurnI w w' B eb vl vc { e with t := tell1 e.ls e.t (lo, hi) } := by
  have hlen : e.ls.length ≤ 1073741824 := Nat.le_trans h.inv.ll h.inv.m1
  obtain ⟨ao, c, hvl⟩ := own_sh h.ld
  have HVL : Hid (vl = .slice ao e.ls.length c) := hvl
  have hb0 : Below w.heap.size w (w.alloc (.cells #[.int .i64 lo, .int .i64 hi] 82)) := (Below.refl _ _).alloc (Nat.le_refl _) _
  have c124 := (hb0.cell (p := ⟨eb, 124, none⟩) h.lt).trans (h.cl 124 (by omega))
  rw [ecell_loads, hvl] at c124
  have hE1 : Hid (EO (w.alloc (.cells #[.int .i64 lo, .int .i64 hi] 82)) B eb vl vc e) := h.below hb0
  have q0 : (w.alloc (.cells #[.int .i64 lo, .int .i64 hi] 82)).cell? ⟨w.heap.size, 0, none⟩ = some (.int .i64 lo) := by simp
  have q1 : (w.alloc (.cells #[.int .i64 lo, .int .i64 hi] 82)).cell? ⟨w.heap.size, 1, none⟩ = some (.int .i64 hi) := by simp
  have HB0 : Hid (Below w.heap.size w (w.alloc (.cells #[.int .i64 lo, .int .i64 hi] 82))) := hb0
  have HNE : Hid (w.heap.size ≠ eb) := by have := h.lt; show _ ≠ _; omega
  have hze := zero_load
  generalize hZ : (row 62 (lcell ⟨0, 0, 0, 0⟩)).toArray = ze at hze
  have HZ : Hid ((row 62 (lcell ⟨0, 0, 0, 0⟩)).toArray = ze) := hZ
  have HTE : Hid (∃ T, tell1 e.ls e.t (lo, hi) = T) := ⟨_, rfl⟩
  clear h hvl hb0 hZ
  generalize hM : e.ls.length = m at HVL hlen c124
  have HM : Hid (e.ls.length = m) := hM
  clear hM
  go_enter Tryz.func127, Tryz.ntmps127
  go_wp2_with fail
  generalize w.alloc (.cells #[.int .i64 lo, .int .i64 hi] 82) = W1 at *
  go_loopg [12] m (fun gk s12 wr => ∃ (k t' : Nat), gk + k = m ∧ s12 = .int .i64 k ∧ Hid (tell1 e.ls e.t (lo, hi) = tell1 (e.ls.drop k) t' (lo, hi)) ∧ Hid (EO wr B eb vl vc { e with t := t' }) ∧ Hid (Off (fun j => j = eb) W1 wr))
  case atStart => exact ⟨0, e.t, rfl, rfl, rfl, hE1, Off.refl _ _⟩
  case round =>
    obtain ⟨k, t', hk, rfl, HR, HE, HF⟩ := hrel
    have HK : Hid (gk + k = m) := hk
    clear hk
    by_cases g : (k : Int) < (m : Int)
    · have hkl : k < e.ls.length := by have := HM.out; omega
      have hld : wr.ownsRow B 160 62 vl e.ls.length (lds e.ls) := HE.out.ld
      obtain ⟨gb, capv, hv1, _, _⟩ := hld.form (by omega)
      have hv2 : Value.slice ao m c = .slice (some ⟨gb, 0, none⟩) m capv := by rw [← HVL.out, hv1, HM.out]
      injection hv2 with i1 i2 i3
      subst i1 i3
      have hrg : wr.rangeAt gb (k * 62) (row 62 (lcell e.ls[k])) := row_range fun i hi => by
        rw [hv1] at hld
        have := hld.cellAt (k * 62 + i) (by omega)
        rw [lds_at _ k i hkl hi, lds1_get _ i hi] at this
        exact this
      have hx := HE.out.inv.ls e.ls[k] (List.getElem_mem hkl)
      have HX : Hid (e.ls[k].a ≤ t' ∧ e.ls[k].b ≤ en e) := ⟨hx.2.2.1, hx.2.2.2⟩
      have HN : Hid (tell1 e.ls e.t (lo, hi) = tell1 (e.ls.drop (k + 1)) (if (e.ls[k].hi : Int) < lo ∨ hi < (e.ls[k].lo : Int) then t' else max t' e.ls[k].b) (lo, hi)) := HR.out.trans (tell1_drop hkl)
      clear hx hv1 hld HR
      generalize e.ls[k] = x at *
      clear hkl
      have HXO : Hid (∀ i, (lcell x i).oneCell' = true) := lcell_one x
      have hth : (wr.alloc (.cells ze 160)).there wr.heap.size 0 62 := by rw [← HZ.out]; exact there_row wr _ 62 _
      have hbW : Below wr.heap.size wr ((wr.alloc (.cells ze 160)).setCells wr.heap.size 0 (row 62 (lcell x))) := below_sets (Nat.le_refl _) _ _ _ ((Below.refl _ _).alloc (Nat.le_refl _) _)
      have hrW : ((wr.alloc (.cells ze 160)).setCells wr.heap.size 0 (row 62 (lcell x))).rangeAt wr.heap.size 0 (row 62 (lcell x)) := World.rangeAt_setCells_same _ _ _ _ (by rw [row_length]; exact hth)
      obtain ⟨W, HW⟩ : ∃ W, Hid (W = (wr.alloc (.cells ze 160)).setCells wr.heap.size 0 (row 62 (lcell x))) := ⟨_, rfl⟩
      rw [← HW.out] at hbW hrW
      have HEW : Hid (EO W B eb vl vc { e with t := t' }) := HE.out.below hbW
      have HFW : Hid (Off (fun j => j = eb) W1 W) := HF.out.trans (Off.of_below hbW)
      have HLB : Hid (wr.heap.size ≠ eb) := by have := HE.out.lt; show _ ≠ _; omega
      have c0 : W.cell? ⟨wr.heap.size, 0, none⟩ = some (.int .i64 (x.lo : Int)) := by have := cell_row hrW (i := 0) (by omega); simpa [lcell_lo] using this
      have c1 : W.cell? ⟨wr.heap.size, 1, none⟩ = some (.int .i64 (x.hi : Int)) := by have := cell_row hrW (i := 1) (by omega); simpa [lcell_hi] using this
      have HHD : Hid (∀ p, p < 60 → W.cell? ⟨wr.heap.size, 2 + p, none⟩ = some (.bool (decide (x.a ≤ p ∧ p < x.b)))) := fun p hp => by have := cell_row hrW (i := 2 + p) (by omega); rwa [lcell_had, Nat.zero_add] at this
      have y0 := HFW.out.cell q0 HNE.out
      have y1 := HFW.out.cell q1 HNE.out
      clear hbW hrW HE HF
      by_cases ga : (x.hi : Int) < lo
      · go_wp2_with (first | (refine row_load_op (n := 62) (f := lcell x) (ty := 160) rfl (.tmp 14) rfl gb (k * 62) rfl hrg (by kernel_rfl) (by kernel_rfl) ?_) | (refine row_store_to (n := 62) (f := lcell x) (ty := 160) rfl (.tmp 5) (.tmp 15) rfl wr.heap.size 0 rfl rfl hth (by kernel_rfl) HXO.out HW ?_))
        go_roundg (m - (k + 1))
        case measure => have := HK.out; omega
        case rel => exact ⟨k + 1, t', by have := HK.out; omega, by go_num, HN.out.trans (by rw [if_pos (by omega)]), HEW, HFW⟩

      · by_cases gc : hi < (x.lo : Int)
        · go_wp2_with (first | (refine row_load_op (n := 62) (f := lcell x) (ty := 160) rfl (.tmp 14) rfl gb (k * 62) rfl hrg (by kernel_rfl) (by kernel_rfl) ?_) | (refine row_store_to (n := 62) (f := lcell x) (ty := 160) rfl (.tmp 5) (.tmp 15) rfl wr.heap.size 0 rfl rfl hth (by kernel_rfl) HXO.out HW ?_))
          go_roundg (m - (k + 1))
          case measure => have := HK.out; omega
          case rel => exact ⟨k + 1, t', by have := HK.out; omega, by go_num, HN.out.trans (by rw [if_pos (by omega)]), HEW, HFW⟩

        · go_wp2_with (first | (refine row_load_op (n := 62) (f := lcell x) (ty := 160) rfl (.tmp 14) rfl gb (k * 62) rfl hrg (by kernel_rfl) (by kernel_rfl) ?_) | (refine row_store_to (n := 62) (f := lcell x) (ty := 160) rfl (.tmp 5) (.tmp 15) rfl wr.heap.size 0 rfl rfl hth (by kernel_rfl) HXO.out HW ?_))
          clear hrg hth HW hze c0 c1
          generalize wr.heap.size = lb at *
          generalize hT2 : max t' x.b = T2 at *
          have HT2 : Hid (max t' x.b = T2) := hT2
          clear hT2
          go_loopg [30] 60 (fun gk s30 wr => ∃ p : Nat, gk + p = 60 ∧ s30 = .int .i64 p ∧ Hid (EO wr B eb vl vc { e with t := max t' (min p T2) }) ∧ Hid (Off (fun j => j = eb) W wr))
          case atStart => exact ⟨0, rfl, rfl, (by
            have e1 : max t' (min 0 T2) = t' := by omega
            rw [e1]
            exact HEW), Off.refl _ _⟩
          case round =>
            obtain ⟨p, hp, rfl, HE2, HF2⟩ := hrel
            have HP : Hid (gk + p = 60) := hp
            clear hp
            by_cases g2 : (p : Int) < 60
            · have cp0 := HE2.out.told p (by omega)
              have fp := HE2.out.fz (61 + p)
              have dp := HF2.out.cell (p := ⟨lb, 2 + p, none⟩) (HHD.out p (by omega)) HLB.out
              have HIN : Hid (EInv { e with t := max t' (min (p + 1) T2) }) := by
                have i0 := HEW.out.inv
                have i1 := HX.out
                have := HT2.out
                exact i0.setT (t := max t' (min (p + 1) T2)) (by show t' ≤ _; omega) (by have := i0.t1; show _ ≤ en e; have t1 : t' ≤ en e := this; omega)
              have HT : Hid (∀ v, v = decide (p < max t' (min (p + 1) T2)) → TurnI wr (wr.setCell ⟨eb, 61 + p, none⟩ (.bool v)).drew B eb vl vc { e with t := max t' (min (p + 1) T2) }) := by
                show ∀ v, _ → _
                intro v hv
                have h1 := HE2.out.setT HIN.out (p := p) (by omega) (fun i _ hne => by
                  by_cases e1 : i < max t' (min p T2)
                  · rw [decide_eq_true e1, decide_eq_true (by omega)]
                  · rw [decide_eq_false e1, decide_eq_false (by omega)]) hv
                have h2 := TurnI.below h1.1 ((Below.refl _ (wr.setCell ⟨eb, 61 + p, none⟩ (.bool v))).drew)
                exact h1.trans h2
              by_cases ht : p < t'
              · have cp := cp0.trans (congrArg (fun b => some (Value.bool b)) (decide_eq_true (show p < max t' (min p T2) by omega)))
                clear cp0
                have HT3 := HT.out true (decide_eq_true (by omega)).symm
                have HT4 : Hid _ := HT3
                clear HT HT3 HE2 HIN dp
                go_wp2_with fail
                go_region
                all_goals go_wp2_with fail
                all_goals
                  go_roundg (60 - (p + 1))
                  case measure => have := HP.out; omega
                  case rel => exact ⟨p + 1, by have := HP.out; omega, by go_num, HT4.out.1, HF2.out.trans HT4.out.2⟩
              · have cp := cp0.trans (congrArg (fun b => some (Value.bool b)) (decide_eq_false (show ¬ p < max t' (min p T2) by omega)))
                clear cp0
                have HT3 := HT.out (decide (x.a ≤ p ∧ p < x.b)) (by
                  have i1 := HX.out
                  have := HT2.out
                  by_cases e1 : x.a ≤ p ∧ p < x.b
                  · rw [decide_eq_true e1, decide_eq_true (by omega)]
                  · rw [decide_eq_false e1, decide_eq_false (by omega)])
                have HT4 : Hid _ := HT3
                clear HT HT3 HE2 HIN
                generalize decide (x.a ≤ p ∧ p < x.b) = bv at *
                go_wp2_with fail
                go_region
                all_goals go_wp2_with fail
                all_goals
                  go_roundg (60 - (p + 1))
                  case measure => have := HP.out; omega
                  case rel => exact ⟨p + 1, by have := HP.out; omega, by go_num, HT4.out.1, HF2.out.trans HT4.out.2⟩
            · have HE3 : Hid (EO wr B eb vl vc { e with t := T2 }) := by
                have := HP.out
                have i0 := HEW.out.inv
                have i1 := HX.out
                have := HT2.out
                have l60 : en e ≤ 60 := i0.en60
                have t1 : t' ≤ en e := i0.t1
                have e1 : max t' (min p T2) = T2 := by omega
                rw [e1] at HE2
                exact HE2
              clear HE2
              go_wp2_with fail
              go_roundg (m - (k + 1))
              case measure => have := HK.out; omega
              case rel => exact ⟨k + 1, T2, by have := HK.out; omega, by go_num, HN.out.trans (by rw [if_neg (by omega)]), HE3, HFW.out.trans HF2.out⟩

    · have HT : Hid (TurnI w wr B eb vl vc { e with t := tell1 e.ls e.t (lo, hi) }) := by
        have e1 : e.ls.drop k = [] := List.drop_of_length_le (by have := HM.out; have := HK.out; omega)
        have e2 : tell1 e.ls e.t (lo, hi) = t' := by rw [HR.out, e1]; rfl
        rw [e2]
        exact ⟨HE.out, (Off.of_below HB0.out).trans HF.out⟩
      clear HR HE HF
      go_wp2_with fail
      refine bodyPost_end (tell_res rfl _ _) rfl ⟨rfl, HT.out⟩
end Go.Proofs.YtoabfilliiopmaaGreatDoor
