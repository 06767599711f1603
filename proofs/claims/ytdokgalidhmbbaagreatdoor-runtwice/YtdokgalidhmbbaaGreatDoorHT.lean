/- What the laws of package run need. -/
import Derived.Test.YtdokgalidhmbbaaGreatDoorHK
import Derived.Test.YtdokgalidhmbbaaGreatDoorHH
set_option linter.unusedVariables false
set_option linter.unusedSimpArgs false
set_option maxRecDepth 100000
set_option maxHeartbeats 8000000
namespace Go.Proofs.YtdokgalidhmbbaaGreatDoor
open Go.RowKit Go.Lib Go.Sort


theorem rdP_may {s : ByteArray} {next n : Int} {l : List F} (h : rdP s next = some (n, l)) : isN n = true := by
  obtain ⟨c, h1, _⟩ := rdP_yes h
  unfold rdN at h1
  cases hs : V.ints s with
  | nil => rw [hs] at h1; cases h1
  | cons k r =>
    rw [hs] at h1
    simp only at h1
    split at h1
    · cases h1
    · split at h1
      · cases h1
      · rename_i h3
        simp only [Option.some.injEq, Prod.mk.injEq] at h1
        have h4 := U.near_spec _ _ _ (by simpa using h3)
        rw [← h1.1]
        exact (isN_iff _).2 h4.1
theorem rdP_good {s : ByteArray} {next n : Int} {l : List F} (h : rdP s next = some (n, l)) : l.length ≤ 12 := by
  obtain ⟨c, _, h2⟩ := rdP_yes h
  unfold fin at h2
  cases h3 : rdL (s.extract c s.size) with
  | none => rw [h3] at h2; cases h2
  | some l' =>
    rw [h3] at h2
    simp only [Option.bind_some] at h2
    split at h2
    · cases h2
    · cases h2; omega
theorem uat_own {w : World} {B : Nat} {v : Value} {us : List Value} {fs : List F} (h : FOwn w B v us fs) {j : Nat} (hj : j < fs.length) {k : Nat} (hk : (uat us j).ownBlock = some k) : k < w.heap.size := ((h.rows j hj).lt k hk).2
theorem FOwn.off {K : Nat → Prop} {w w' : World} {B : Nat} {v : Value} {us : List Value} {fs : List F} (h : FOwn w B v us fs) (ho : Off K w w') (hv : ∀ k, v.ownBlock = some k → ¬ K k) (hu : ∀ j, j < fs.length → ∀ k, (uat us j).ownBlock = some k → ¬ K k) : FOwn w' B v us fs :=
  ⟨h.len, ho.row h.own hv, fun j hj => ho.row (h.rows j hj) (hu j hj), h.good⟩
theorem runF_cons {e : En} {f : F} {fs : List F} (h : (stpE e f).1 = 0) : runF (f :: fs) e = runF fs (stpE e f).2 := by
  simp [runF, h]
theorem runF_stop {e : En} {f : F} {fs : List F} (h : (stpE e f).1 ≠ 0) : runF (f :: fs) e = stpE e f := by
  simp [runF, h]
theorem fdrop {fs : List F} {k : Nat} (h : k < fs.length) : fs.drop k = fat fs k :: fs.drop (k + 1) := by
  rw [List.drop_eq_getElem_cons h, fat_get h]
theorem zero_end (W : World) : (zeroValue 104).run Tryz.prog W = .ok (.agg (row 251 (ecell ⟨nilB, 0, 0, 0, 0, [], Sx.newS, ⟨0, 0, 0, 0⟩, []⟩ (.slice none 0 0) (.slice none 0 0))).toArray) W := by kernel_rfl


/-- The cells of a load. -/
def lcell (x : Ld) (i : Nat) : Value := if i = 0 then .int .i64 x.lo else if i = 1 then .int .i64 x.hi else .bool (decide (x.a ≤ i - 2 ∧ i - 2 < x.b))
theorem lcell_lo (x : Ld) : lcell x 0 = .int .i64 x.lo := rfl
theorem lcell_hi (x : Ld) : lcell x 1 = .int .i64 x.hi := rfl
theorem lcell_had (x : Ld) (p : Nat) : lcell x (2 + p) = .bool (decide (x.a ≤ p ∧ p < x.b)) := by
  unfold lcell
  rw [if_neg (by omega), if_neg (by omega), show 2 + p - 2 = p by omega]
theorem lcell_one (x : Ld) (i : Nat) : (lcell x i).oneCell' = true := by
  unfold lcell
  split
  · rfl
  · split <;> rfl
theorem lds1_get (x : Ld) (i : Nat) (h : i < 62) : (lds1 x)[i]? = some (lcell x i) := by
  unfold lds1
  match i, h with
  | 0, _ => rfl
  | 1, _ => rfl
  | i + 2, h =>
    rw [List.getElem?_cons_succ, List.getElem?_cons_succ, row_get (by omega), show i + 2 = 2 + i by omega, lcell_had]
theorem zero_load (W : World) : (zeroValue 241).run Tryz.prog W = .ok (.agg (row 62 (lcell ⟨0, 0, 0, 0⟩)).toArray) W := by kernel_rfl
theorem tell_res {fn : Func} (h : fn.results = #[]) (tmps : Array Value) (w : World) : (results fn tmps).run Tryz.prog w = .ok (.tuple #[]) w := by
  simp [results, h]
theorem ecell_t {e : En} {t t' : Nat} {vl vc : Value} {i : Nat} (h : i ≤ 60 ∨ 121 ≤ i) : ecell { e with t := t } vl vc i = ecell { e with t := t' } vl vc i := by
  unfold ecell
  by_cases b1 : i < 60
  · simp only [b1, if_true]
  · by_cases b2 : i = 60
    · subst b2; rfl
    · have b3 : ¬ i < 121 := by omega
      simp only [b1, b2, b3, if_false]
theorem EInv.setT {e : En} {t0 t : Nat} (h : EInv { e with t := t0 }) (h0 : t0 ≤ t) (h1 : t ≤ en e) : EInv { e with t := t } :=
  ⟨h.d60, h1, h.l0, h.l1, h.m1, h.k0, h.k1, fun x hx => ⟨(h.ls x hx).1, (h.ls x hx).2.1, Nat.le_trans (h.ls x hx).2.2.1 h0, (h.ls x hx).2.2.2⟩, h.s, h.c, h.cm, h.ll⟩
theorem EO.setT {w : World} {B eb : Nat} {vl vc : Value} {e : En} {t1 t2 p : Nat} {v : Bool} (h : EO w B eb vl vc { e with t := t1 }) (hi : EInv { e with t := t2 }) (hp : p < 60) (hd : ∀ i, i < 60 → i ≠ p → decide (i < t1) = decide (i < t2)) (hv : v = decide (p < t2)) : TurnI w (w.setCell ⟨eb, 61 + p, none⟩ (.bool v)) B eb vl vc { e with t := t2 } := by
  subst hv
  have o : Off (fun k => k = eb) w (w.setCell ⟨eb, 61 + p, none⟩ (.bool (decide (p < t2)))) := (Off.refl _ _).setCell (K := fun k => k = eb) (a := ⟨eb, 61 + p, none⟩) rfl _
  refine ⟨⟨hi, fun i hi => ?_, fun i => by simpa using h.fz i, h.hs, o.row h.ld (fun k hk e' => by subst e'; exact h.ap.1 hk), o.row h.cm (fun k hk e' => by subst e'; exact h.ap.2 hk), h.ap⟩, o⟩
  by_cases e1 : i = 61 + p
  · subst e1
    rw [ecell_told hp]
    exact World.cell?_setCell_same _ _ _ (h.cl (61 + p) (by omega))
  · rw [World.cell?_setCell_other _ _ _ _ (fun e' => by injection e' with _ e' _; exact e1 e'.symm), h.cl i hi]
    by_cases e2 : i ≤ 60 ∨ 121 ≤ i
    · exact congrArg some (ecell_t e2)
    · obtain ⟨j, rfl⟩ : ∃ j, i = 61 + j := ⟨i - 61, by omega⟩
      rw [ecell_told (by omega), ecell_told (by omega), hd j (by omega) (by omega)]
theorem tell1_drop {ls : List Ld} {k t : Nat} {r : R} (h : k < ls.length) : tell1 (ls.drop k) t r = tell1 (ls.drop (k + 1)) (if (ls[k].hi : Int) < r.1 ∨ r.2 < (ls[k].lo : Int) then t else max t ls[k].b) r := by
  rw [List.drop_eq_getElem_cons h]
  rfl
set_option maxRecDepth 100000 in
set_option maxHeartbeats 4000000 in
theorem tell_calls {w : World} {B eb : Nat} {vl vc : Value} {e : En} (h : EO w B eb vl vc e) (lo hi : Int) : Calls Tryz.prog 184 #[.pointer (some ⟨eb, 0, none⟩), .agg #[.int .i64 lo, .int .i64 hi]] w fun ex w' => ex = .returned (.tuple #[]) ∧ TurnI w w' B eb vl vc { e with t := tell1 e.ls e.t (lo, hi) } := by
  have hlen : e.ls.length ≤ 1073741824 := Nat.le_trans h.inv.ll h.inv.m1
  obtain ⟨ao, c, hvl⟩ := own_sh h.ld
  have HVL : Hid (vl = .slice ao e.ls.length c) := hvl
  have hb0 : Below w.heap.size w (w.alloc (.cells #[.int .i64 lo, .int .i64 hi] 143)) := (Below.refl _ _).alloc (Nat.le_refl _) _
  have c124 := (hb0.cell (p := ⟨eb, 124, none⟩) h.lt).trans (h.cl 124 (by omega))
  rw [ecell_loads, hvl] at c124
  have hE1 : Hid (EO (w.alloc (.cells #[.int .i64 lo, .int .i64 hi] 143)) B eb vl vc e) := h.below hb0
  have q0 : (w.alloc (.cells #[.int .i64 lo, .int .i64 hi] 143)).cell? ⟨w.heap.size, 0, none⟩ = some (.int .i64 lo) := by simp
  have q1 : (w.alloc (.cells #[.int .i64 lo, .int .i64 hi] 143)).cell? ⟨w.heap.size, 1, none⟩ = some (.int .i64 hi) := by simp
  have HB0 : Hid (Below w.heap.size w (w.alloc (.cells #[.int .i64 lo, .int .i64 hi] 143))) := hb0
  have HNE : Hid (w.heap.size ≠ eb) := by have := h.lt; show _ ≠ _; omega
  have hze := zero_load
  generalize hZ : (row 62 (lcell ⟨0, 0, 0, 0⟩)).toArray = ze at hze
  have HZ : Hid ((row 62 (lcell ⟨0, 0, 0, 0⟩)).toArray = ze) := hZ
  have HTE : Hid (∃ T, tell1 e.ls e.t (lo, hi) = T) := ⟨_, rfl⟩
  clear h hvl hb0 hZ
  generalize hM : e.ls.length = m at HVL hlen c124
  have HM : Hid (e.ls.length = m) := hM
  clear hM
  go_enter Tryz.func184, Tryz.ntmps184
  go_wp2_with fail
  generalize w.alloc (.cells #[.int .i64 lo, .int .i64 hi] 143) = W1 at *
  go_loopg [12] m (fun gk s12 wr => ∃ (k t' : Nat), gk + k = m ∧ s12 = .int .i64 k ∧ Hid (tell1 e.ls e.t (lo, hi) = tell1 (e.ls.drop k) t' (lo, hi)) ∧ Hid (EO wr B eb vl vc { e with t := t' }) ∧ Hid (Off (fun j => j = eb) W1 wr))
  case atStart => exact ⟨0, e.t, rfl, rfl, rfl, hE1, Off.refl _ _⟩
  case round =>
    obtain ⟨k, t', hk, rfl, HR, HE, HF⟩ := hrel
    have HK : Hid (gk + k = m) := hk
    clear hk
    by_cases g : (k : Int) < (m : Int)
    · have hkl : k < e.ls.length := by have := HM.out; omega
      have hld : wr.ownsRow B 241 62 vl e.ls.length (lds e.ls) := HE.out.ld
      obtain ⟨gb, capv, hv1, _, _⟩ := hld.form (by omega)
      have hv2 : Value.slice ao m c = .slice (some ⟨gb, 0, none⟩) m capv := by rw [← HVL.out, hv1, HM.out]
      injection hv2 with i1 i2 i3
      subst i1 i3
      have hrg : wr.rangeAt gb (k * 62) (row 62 (lcell e.ls[k])) := row_range fun i hi => by
        rw [hv1] at hld
        have := hld.cellAt (k * 62 + i) (by omega)
        rw [lds_at _ k i hkl hi, lds1_get _ i hi] at this
        exact this
      have hx := HE.out.inv.ls e.ls[k] (List.getElem_mem hkl)
      have HX : Hid (e.ls[k].a ≤ t' ∧ e.ls[k].b ≤ en e) := ⟨hx.2.2.1, hx.2.2.2⟩
      have HN : Hid (tell1 e.ls e.t (lo, hi) = tell1 (e.ls.drop (k + 1)) (if (e.ls[k].hi : Int) < lo ∨ hi < (e.ls[k].lo : Int) then t' else max t' e.ls[k].b) (lo, hi)) := HR.out.trans (tell1_drop hkl)
      clear hx hv1 hld HR
      generalize e.ls[k] = x at *
      clear hkl
      have HXO : Hid (∀ i, (lcell x i).oneCell' = true) := lcell_one x
      have hth : (wr.alloc (.cells ze 241)).there wr.heap.size 0 62 := by rw [← HZ.out]; exact there_row wr _ 62 _
      have hbW : Below wr.heap.size wr ((wr.alloc (.cells ze 241)).setCells wr.heap.size 0 (row 62 (lcell x))) := below_sets (Nat.le_refl _) _ _ _ ((Below.refl _ _).alloc (Nat.le_refl _) _)
      have hrW : ((wr.alloc (.cells ze 241)).setCells wr.heap.size 0 (row 62 (lcell x))).rangeAt wr.heap.size 0 (row 62 (lcell x)) := World.rangeAt_setCells_same _ _ _ _ (by rw [row_length]; exact hth)
      obtain ⟨W, HW⟩ : ∃ W, Hid (W = (wr.alloc (.cells ze 241)).setCells wr.heap.size 0 (row 62 (lcell x))) := ⟨_, rfl⟩
      rw [← HW.out] at hbW hrW
      have HEW : Hid (EO W B eb vl vc { e with t := t' }) := HE.out.below hbW
      have HFW : Hid (Off (fun j => j = eb) W1 W) := HF.out.trans (Off.of_below hbW)
      have HLB : Hid (wr.heap.size ≠ eb) := by have := HE.out.lt; show _ ≠ _; omega
      have c0 : W.cell? ⟨wr.heap.size, 0, none⟩ = some (.int .i64 (x.lo : Int)) := by have := cell_row hrW (i := 0) (by omega); simpa [lcell_lo] using this
      have c1 : W.cell? ⟨wr.heap.size, 1, none⟩ = some (.int .i64 (x.hi : Int)) := by have := cell_row hrW (i := 1) (by omega); simpa [lcell_hi] using this
      have HHD : Hid (∀ p, p < 60 → W.cell? ⟨wr.heap.size, 2 + p, none⟩ = some (.bool (decide (x.a ≤ p ∧ p < x.b)))) := fun p hp => by have := cell_row hrW (i := 2 + p) (by omega); rwa [lcell_had, Nat.zero_add] at this
      have y0 := HFW.out.cell q0 HNE.out
      have y1 := HFW.out.cell q1 HNE.out
      clear hbW hrW HE HF
      by_cases ga : (x.hi : Int) < lo
      · go_wp2_with (first | (refine row_load_op (n := 62) (f := lcell x) (ty := 241) rfl (.tmp 14) rfl gb (k * 62) rfl hrg (by kernel_rfl) (by kernel_rfl) ?_) | (refine row_store_to (n := 62) (f := lcell x) (ty := 241) rfl (.tmp 5) (.tmp 15) rfl wr.heap.size 0 rfl rfl hth (by kernel_rfl) HXO.out HW ?_))
        go_roundg (m - (k + 1))
        case measure => have := HK.out; omega
        case rel => exact ⟨k + 1, t', by have := HK.out; omega, by go_num, HN.out.trans (by rw [if_pos (by omega)]), HEW, HFW⟩

      · by_cases gc : hi < (x.lo : Int)
        · go_wp2_with (first | (refine row_load_op (n := 62) (f := lcell x) (ty := 241) rfl (.tmp 14) rfl gb (k * 62) rfl hrg (by kernel_rfl) (by kernel_rfl) ?_) | (refine row_store_to (n := 62) (f := lcell x) (ty := 241) rfl (.tmp 5) (.tmp 15) rfl wr.heap.size 0 rfl rfl hth (by kernel_rfl) HXO.out HW ?_))
          go_roundg (m - (k + 1))
          case measure => have := HK.out; omega
          case rel => exact ⟨k + 1, t', by have := HK.out; omega, by go_num, HN.out.trans (by rw [if_pos (by omega)]), HEW, HFW⟩

        · go_wp2_with (first | (refine row_load_op (n := 62) (f := lcell x) (ty := 241) rfl (.tmp 14) rfl gb (k * 62) rfl hrg (by kernel_rfl) (by kernel_rfl) ?_) | (refine row_store_to (n := 62) (f := lcell x) (ty := 241) rfl (.tmp 5) (.tmp 15) rfl wr.heap.size 0 rfl rfl hth (by kernel_rfl) HXO.out HW ?_))
          clear hrg hth HW hze c0 c1
          generalize wr.heap.size = lb at *
          generalize hT2 : max t' x.b = T2 at *
          have HT2 : Hid (max t' x.b = T2) := hT2
          clear hT2
          go_loopg [30] 60 (fun gk s30 wr => ∃ p : Nat, gk + p = 60 ∧ s30 = .int .i64 p ∧ Hid (EO wr B eb vl vc { e with t := max t' (min p T2) }) ∧ Hid (Off (fun j => j = eb) W wr))
          case atStart => exact ⟨0, rfl, rfl, (by
            have e1 : max t' (min 0 T2) = t' := by omega
            rw [e1]
            exact HEW), Off.refl _ _⟩
          case round =>
            obtain ⟨p, hp, rfl, HE2, HF2⟩ := hrel
            have HP : Hid (gk + p = 60) := hp
            clear hp
            by_cases g2 : (p : Int) < 60
            · have cp0 := HE2.out.told p (by omega)
              have fp := HE2.out.fz (61 + p)
              have dp := HF2.out.cell (p := ⟨lb, 2 + p, none⟩) (HHD.out p (by omega)) HLB.out
              have HIN : Hid (EInv { e with t := max t' (min (p + 1) T2) }) := by
                have i0 := HEW.out.inv
                have i1 := HX.out
                have := HT2.out
                exact i0.setT (t := max t' (min (p + 1) T2)) (by show t' ≤ _; omega) (by have := i0.t1; show _ ≤ en e; have t1 : t' ≤ en e := this; omega)
              have HT : Hid (∀ v, v = decide (p < max t' (min (p + 1) T2)) → TurnI wr (wr.setCell ⟨eb, 61 + p, none⟩ (.bool v)).drew B eb vl vc { e with t := max t' (min (p + 1) T2) }) := by
                show ∀ v, _ → _
                intro v hv
                have h1 := HE2.out.setT HIN.out (p := p) (by omega) (fun i _ hne => by
                  by_cases e1 : i < max t' (min p T2)
                  · rw [decide_eq_true e1, decide_eq_true (by omega)]
                  · rw [decide_eq_false e1, decide_eq_false (by omega)]) hv
                have h2 := TurnI.below h1.1 ((Below.refl _ (wr.setCell ⟨eb, 61 + p, none⟩ (.bool v))).drew)
                exact h1.trans h2
              by_cases ht : p < t'
              · have cp := cp0.trans (congrArg (fun b => some (Value.bool b)) (decide_eq_true (show p < max t' (min p T2) by omega)))
                clear cp0
                have HT3 := HT.out true (decide_eq_true (by omega)).symm
                have HT4 : Hid _ := HT3
                clear HT HT3 HE2 HIN dp
                go_wp2_with fail
                go_region
                all_goals go_wp2_with fail
                all_goals
                  go_roundg (60 - (p + 1))
                  case measure => have := HP.out; omega
                  case rel => exact ⟨p + 1, by have := HP.out; omega, by go_num, HT4.out.1, HF2.out.trans HT4.out.2⟩
              · have cp := cp0.trans (congrArg (fun b => some (Value.bool b)) (decide_eq_false (show ¬ p < max t' (min p T2) by omega)))
                clear cp0
                have HT3 := HT.out (decide (x.a ≤ p ∧ p < x.b)) (by
                  have i1 := HX.out
                  have := HT2.out
                  by_cases e1 : x.a ≤ p ∧ p < x.b
                  · rw [decide_eq_true e1, decide_eq_true (by omega)]
                  · rw [decide_eq_false e1, decide_eq_false (by omega)])
                have HT4 : Hid _ := HT3
                clear HT HT3 HE2 HIN
                generalize decide (x.a ≤ p ∧ p < x.b) = bv at *
                go_wp2_with fail
                go_region
                all_goals go_wp2_with fail
                all_goals
                  go_roundg (60 - (p + 1))
                  case measure => have := HP.out; omega
                  case rel => exact ⟨p + 1, by have := HP.out; omega, by go_num, HT4.out.1, HF2.out.trans HT4.out.2⟩
            · have HE3 : Hid (EO wr B eb vl vc { e with t := T2 }) := by
                have := HP.out
                have i0 := HEW.out.inv
                have i1 := HX.out
                have := HT2.out
                have l60 : en e ≤ 60 := i0.en60
                have t1 : t' ≤ en e := i0.t1
                have e1 : max t' (min p T2) = T2 := by omega
                rw [e1] at HE2
                exact HE2
              clear HE2
              go_wp2_with fail
              go_roundg (m - (k + 1))
              case measure => have := HK.out; omega
              case rel => exact ⟨k + 1, T2, by have := HK.out; omega, by go_num, HN.out.trans (by rw [if_neg (by omega)]), HE3, HFW.out.trans HF2.out⟩

    · have HT : Hid (TurnI w wr B eb vl vc { e with t := tell1 e.ls e.t (lo, hi) }) := by
        have e1 : e.ls.drop k = [] := List.drop_of_length_le (by have := HM.out; have := HK.out; omega)
        have e2 : tell1 e.ls e.t (lo, hi) = t' := by rw [HR.out, e1]; rfl
        rw [e2]
        exact ⟨HE.out, (Off.of_below HB0.out).trans HF.out⟩
      clear HR HE HF
      go_wp2_with fail
      refine bodyPost_end (tell_res rfl _ _) rfl ⟨rfl, HT.out⟩
end Go.Proofs.YtdokgalidhmbbaaGreatDoor
namespace Go.Proofs.YtdokgalidhmbbaaGreatDoor
open Go.RowKit Go.Shelf Go.Lib
attribute [local go_sem] Oper.semAt_some


theorem ownFrom_EO {β : Type} {N B eb : Nat} {vl vc : Value} (hN : ∀ k, OwnE eb vl vc k → k < N) (f : β → En) : OwnFrom N (fun s W => EO W B eb vl vc (f s)) := fun s W W' row hs hg hr =>
  hs.off (K := fun k => row = some k) (Off.of_grown hg fun k e => e) fun k hk e => by
    have := hN k hk
    have := (hr k e).1
    omega
theorem ownFrom_Off {β : Type} {N eb : Nat} {w0 : World} (hN : w0.heap.size ≤ N) : OwnFrom N (fun (_ : β) W => Off (fun k => k = eb) w0 W) := fun s W W' row hs hg hr => by
  have o : Off (fun k => row = some k) W W' := Off.of_grown hg fun k e => e
  refine ⟨o.os.trans hs.os, o.tape.trans hs.tape, o.output.trans hs.output, Nat.le_trans hs.size o.size, fun k hk hn => ?_⟩
  rw [o.block k (Nat.lt_of_lt_of_le hk hs.size) (fun e => by have := (hr k e).1; omega)]
  exact hs.block k hk hn
theorem ecell_k {e : En} {z : Int} {vl vc : Value} {i : Nat} (h : i ≠ 123) : ecell { e with k := z } vl vc i = ecell e vl vc i := by
  unfold ecell
  simp only [h, if_false]
theorem EO.setK {w : World} {B eb : Nat} {vl vc : Value} {e : En} {l z : Int} (h : EO w B eb vl vc e) (hi : EInv { e with k := l }) (hz : z = l) : TurnI w (w.setCell ⟨eb, 123, none⟩ (.int .i64 z)) B eb vl vc { e with k := l } := by
  subst hz
  have o : Off (fun k => k = eb) w (w.setCell ⟨eb, 123, none⟩ (.int .i64 z)) := (Off.refl _ _).setCell (K := fun k => k = eb) (a := ⟨eb, 123, none⟩) rfl _
  refine ⟨⟨hi, fun i hi => ?_, fun i => by simpa using h.fz i, h.hs, o.row h.ld (fun k hk e' => by subst e'; exact h.ap.1 hk), o.row h.cm (fun k hk e' => by subst e'; exact h.ap.2 hk), h.ap⟩, o⟩
  by_cases e1 : i = 123
  · subst e1
    exact World.cell?_setCell_same _ _ _ (h.cl 123 (by omega))
  · rw [World.cell?_setCell_other _ _ _ _ (fun e' => by injection e' with _ e' _; exact e1 e'.symm), h.cl i hi]
    exact congrArg some (ecell_k e1).symm
theorem EInv.setK {e : En} {z : Int} (h : EInv e) (h0 : -1 ≤ z) (h1 : z < e.m) : EInv { e with k := max e.k z } :=
  ⟨h.d60, h.t1, h.l0, h.l1, h.m1, by have := h.k0; simp only; omega, by have := h.k1; simp only; omega, h.ls, h.s, h.c, h.cm, h.ll⟩
set_option maxRecDepth 100000 in
set_option maxHeartbeats 4000000 in
theorem ack_no {w : World} {B eb g off L C : Nat} {vl vc : Value} {e : En} {z0 : Int} (h : EO w B eb vl vc e) (hg : g < w.heap.size) (hL : 1 ≤ L) (hc0 : w.cell? ⟨g, off, none⟩ = some (.int .i64 z0)) (hz : (e.m : Int) ≤ z0) :
    Calls Tryz.prog 160 #[.pointer (some ⟨eb, 0, none⟩), .slice (some ⟨g, off, none⟩) L C] w fun ex w' => ex = .returned (errV 6) ∧ TurnI w w' B eb vl vc e := by
  have HO : Hid (EO w B eb vl vc e) := h
  have hb0 : Below w.heap.size w (w.alloc (.cells #[.pointer (some ⟨eb, 0, none⟩)] 108)) := (Below.refl _ _).alloc (Nat.le_refl _) _
  have HB0 : Hid (Below w.heap.size w (w.alloc (.cells #[.pointer (some ⟨eb, 0, none⟩)] 108))) := hb0
  have c122 := (hb0.cell (p := ⟨eb, 122, none⟩) h.lt).trans (h.cl 122 (by omega))
  rw [ecell_made] at c122
  have d0 := (hb0.cell (p := ⟨g, off, none⟩) hg).trans hc0
  have q0 : (w.alloc (.cells #[.pointer (some ⟨eb, 0, none⟩)] 108)).cell? ⟨w.heap.size, 0, none⟩ = some (.pointer (some ⟨eb, 0, none⟩)) := by simp
  have g1 : (0 : Int) < (L : Int) := by omega
  clear h hb0 hc0 hg
  generalize (e.m : Int) = mm at *
  go_enter Tryz.func160, Tryz.ntmps160
  go_wp2_with fail
  go_ret
  exact ⟨rfl, TurnI.below HO.out HB0.out⟩
set_option maxRecDepth 100000 in
set_option maxHeartbeats 4000000 in
theorem ack_yes {w : World} {B eb g off M L C : Nat} {vl vc : Value} {e : En} {ns : List Int} {z0 : Int} (h : EO w B eb vl vc e) (hLM : L = 2 * M) (hM1 : 1 ≤ M) (hM12 : M ≤ 12) (hLC : L ≤ C) (hlen : ns.length = L) (hg : g < w.heap.size) (hcc : ICells w g off ns) (hge : g ≠ eb) (hc0 : w.cell? ⟨g, off, none⟩ = some (.int .i64 z0)) (hz0 : -1 ≤ z0) (hz : z0 < (e.m : Int)) :
    Calls Tryz.prog 160 #[.pointer (some ⟨eb, 0, none⟩), .slice (some ⟨g, off, none⟩) L C] w fun ex w' => ex = .returned .nilIface ∧ TurnI w w' B eb vl vc { e with k := max e.k z0, t := tells e.ls e.t (rgs ns) } := by
  refine (callsIn_wide (n := 5)).1 ?_
  have hfc : Fence.wide.fn 183 := trivial
  have hft : Fence.wide.fn 184 := trivial
  have HLM : Hid (L = 2 * M) := hLM
  have HLC : Hid (L ≤ C) := hLC
  have HM12 : Hid (M ≤ 12) := hM12
  have HLen : Hid (ns.length = L) := hlen
  have Hg : Hid (g < w.heap.size) := hg
  have CC : Hid (ICells w g off ns) := hcc
  have Hge : Hid (g ≠ eb) := hge
  have Heb : Hid (eb < w.heap.size) := h.lt
  have HOWN : Hid (∀ k, OwnE eb vl vc k → k < w.heap.size) := fun k hk => (h.own_lt hk).2
  have hb0 : Below w.heap.size w (w.alloc (.cells #[.pointer (some ⟨eb, 0, none⟩)] 108)) := (Below.refl _ _).alloc (Nat.le_refl _) _
  have c122 := (hb0.cell (p := ⟨eb, 122, none⟩) h.lt).trans (h.cl 122 (by omega))
  have c123 := (hb0.cell (p := ⟨eb, 123, none⟩) h.lt).trans (h.cl 123 (by omega))
  have f123 := (h.below hb0).fz 123
  rw [ecell_made] at c122
  rw [ecell_known] at c123
  have d0 := (hb0.cell (p := ⟨g, off, none⟩) hg).trans hc0
  have q0 : (w.alloc (.cells #[.pointer (some ⟨eb, 0, none⟩)] 108)).cell? ⟨w.heap.size, 0, none⟩ = some (.pointer (some ⟨eb, 0, none⟩)) := by simp
  have g1 : (0 : Int) < (L : Int) := by omega
  have kO0 : Boxed (w.alloc (.cells #[.pointer (some ⟨eb, 0, none⟩)] 108)) w.heap.size 108 (.pointer (some ⟨eb, 0, none⟩)) := Boxed.new w 108 _
  have HT : Hid (∀ v, v = max e.k z0 → TurnI w ((w.alloc (.cells #[.pointer (some ⟨eb, 0, none⟩)] 108)).setCell ⟨eb, 123, none⟩ (.int .i64 v)).drew B eb vl vc { e with k := max e.k z0 } ∧ Boxed ((w.alloc (.cells #[.pointer (some ⟨eb, 0, none⟩)] 108)).setCell ⟨eb, 123, none⟩ (.int .i64 v)).drew w.heap.size 108 (.pointer (some ⟨eb, 0, none⟩)) ∧ ((w.alloc (.cells #[.pointer (some ⟨eb, 0, none⟩)] 108)).setCell ⟨eb, 123, none⟩ (.int .i64 v)).drew.heap.size = w.heap.size + 1) := by
    show ∀ v, _ → _
    intro v hv
    have h1 := (h.below hb0).setK (h.inv.setK hz0 hz) hv
    have h2 := TurnI.below h1.1 ((Below.refl _ ((w.alloc (.cells #[.pointer (some ⟨eb, 0, none⟩)] 108)).setCell ⟨eb, 123, none⟩ (.int .i64 v))).drew)
    refine ⟨⟨h2.1, ((Off.of_below hb0).trans h1.2).trans h2.2⟩, ?_, ?_⟩
    · exact ((h1.2.trans h2.2).block _ kO0.lt (by have := h.lt; omega)).trans kO0
    · simp
  clear hlen hg hcc hLM hLC hM12 hge h hb0 hc0 kO0
  have hmm : ¬ (e.m : Int) ≤ z0 := by omega
  generalize (e.m : Int) = mm at c122 hmm
  refine callsIn_of_wp_marks Tryz.func160 rfl trivial ?_ rfl
  simp only [Tryz.ntmps160, List.size_toArray, List.length_cons, List.length_nil, Nat.reduceAdd, Nat.reduceSub, Array.replicate_succ, Array.replicate_zero, List.push_toArray, List.append_toArray, List.nil_append, List.cons_append]
  gi_wp2
  gi_region
  obtain ⟨ht0, kO0, sz0⟩ := HT.out _ rfl
  clear HT c122 c123 f123 d0 q0
  generalize ((w.alloc (.cells #[.pointer (some ⟨eb, 0, none⟩)] 108)).setCell ⟨eb, 123, none⟩ (.int .i64 (max e.k z0))).drew = W0 at *
  have HS1 : Hid (W0.heap.size = w.heap.size + 1) := sz0
  clear sz0
  gi_wp2_with (gi_at_call 183; refine (chunk_in 4 _ _ _ _).mono ?_; rintro ex w' ⟨rfl, rfl⟩)
  have bS : Boxed (((W0).alloc (.cells #[.slice (some ⟨g, off, none⟩) L C] 54)).alloc (.cells #[.int .i64 2] 3)) W0.heap.size 54 (.slice (some ⟨g, off, none⟩) L C) := (Boxed.new W0 54 (.slice (some ⟨g, off, none⟩) L C)).alloc (.cells #[.int .i64 2] 3)
  have bN : Boxed (((W0).alloc (.cells #[.slice (some ⟨g, off, none⟩) L C] 54)).alloc (.cells #[.int .i64 2] 3)) (W0.heap.size + 1) 3 (.int .i64 2) := by
    have := Boxed.new (W0.alloc (.cells #[.slice (some ⟨g, off, none⟩) L C] 54)) 3 (.int .i64 2)
    rwa [World.size_alloc] at this
  have kO3 : Boxed (((W0).alloc (.cells #[.slice (some ⟨g, off, none⟩) L C] 54)).alloc (.cells #[.int .i64 2] 3)) w.heap.size 108 (.pointer (some ⟨eb, 0, none⟩)) := (kO0.alloc _).alloc _
  have hb3 : Below W0.heap.size W0 (((W0).alloc (.cells #[.slice (some ⟨g, off, none⟩) L C] 54)).alloc (.cells #[.int .i64 2] 3)) := ((Below.refl _ W0).alloc (Nat.le_refl _) _).alloc (by simp) _
  have sz3 : ((((W0).alloc (.cells #[.slice (some ⟨g, off, none⟩) L C] 54)).alloc (.cells #[.int .i64 2] 3))).heap.size = W0.heap.size + 2 := by simp
  have hE3 := ht0.1.below hb3
  have hO3 : Off (fun k => k = eb) w (((W0).alloc (.cells #[.slice (some ⟨g, off, none⟩) L C] 54)).alloc (.cells #[.int .i64 2] 3)) := ht0.2.trans (Off.of_below hb3)
  generalize (((W0).alloc (.cells #[.slice (some ⟨g, off, none⟩) L C] 54)).alloc (.cells #[.int .i64 2] 3)) = W3 at *
  have SZ3 : Hid (W3.heap.size = W0.heap.size + 2) := sz3
  clear hb3 ht0 kO0 sz3
  generalize W0.heap.size = s1 at *
  have HB3 : Hid (w.heap.size ≤ W3.heap.size) := by have := HS1.out; have := SZ3.out; show _ ≤ _; omega
  refine wpIn_rangeFunc_ownG rfl (by decide) (gf := 211) (lb := #[.pointer (some ⟨s1, 0, none⟩), .pointer (some ⟨s1 + 1, 0, none⟩)]) rfl trivial (enters_of Tryz.func211 (by kernel_rfl) rfl)
    (chunk_stops (5 - 1) (by decide) g off M L C s1 (s1 + 1) HLM.out (by have := HM12.out; omega) HLC.out W3 (by have := SZ3.out; omega) (by have := SZ3.out; omega) ⟨bS.cell, bN.cell⟩)
    (fun h k hR => k (h hR)) (KpH.put (w := W3)) (Below.refl _ _) (fun _ => rfl)
    (fun (pre : List (Ix M)) W => EO W B eb vl vc { e with k := max e.k z0, t := tells e.ls e.t (pre.map (fun y => rgAt ns y.1)) } ∧ Boxed W w.heap.size 108 (.pointer (some ⟨eb, 0, none⟩)) ∧ Boxed W s1 54 (.slice (some ⟨g, off, none⟩) L C) ∧ Boxed W (s1 + 1) 3 (.int .i64 2) ∧ Off (fun k => k = eb) w W)
    (fun _ _ _ => False)
    (OwnFrom.and (ownFrom_EO (fun k hk => Nat.lt_of_lt_of_le (HOWN.out k hk) HB3.out) _) (OwnFrom.and (Own.from (boxed_own _ _ _) _) (OwnFrom.and (Own.from (boxed_own _ _ _) _) (OwnFrom.and (Own.from (boxed_own _ _ _) _) (ownFrom_Off HB3.out)))))
    (fun _ _ _ _ _ hs _ _ => hs)
    ⟨hE3, kO3, bS, bN, hO3⟩
    (fun x => { tmps := #[.pointer (some ⟨eb, 0, none⟩), .slice (some ⟨g, off, none⟩) L C, .pointer (some ⟨w.heap.size, 0, none⟩), undef, .nilIface, .int .i64 z0, .slice (some ⟨g, off + 2 * x.1, none⟩) 2 2, .slice (some ⟨g, off, none⟩) L C, .pointer (some ⟨g, off, none⟩), .int .i64 z0, .int .i64 z0, .pointer (some ⟨eb, 0, none⟩), .pointer (some ⟨eb, 0, none⟩), .pointer (some ⟨eb, 122, none⟩), .int .i64 mm, .bool false, undef, .pointer (some ⟨eb, 0, none⟩), .pointer (some ⟨eb, 0, none⟩), .pointer (some ⟨eb, 0, none⟩), .pointer (some ⟨eb, 123, none⟩), .int .i64 e.k, .int .i64 z0, .int .i64 (max e.k z0), .pointer (some ⟨eb, 0, none⟩), .pointer (some ⟨eb, 123, none⟩), .slice (some ⟨g, off, none⟩) L C, .func (.func 211) #[] #[.pointer (some ⟨s1, 0, none⟩), .pointer (some ⟨s1 + 1, 0, none⟩)], .slice (some ⟨g, off + 2 * x.1, none⟩) 2 2, undef, undef, undef, undef, undef, undef, undef, undef, undef], defers := [] }) ?assign ?body ?done ?stop
  all_goals clear kO3 bS bN hE3 hO3
  case assign =>
    intro l x W K hK
    gi_wp2
    exact hK
  case body =>
    rintro l pre ⟨x, hx⟩ W ⟨hE, kO, kS, kN, hB⟩ hpl
    have hx : x < M := hx
    have hxl : 2 * x + 1 < ns.length := by have := HLen.out; have := HLM.out; omega
    have cx0 := CC.out (2 * x) (by omega)
    have cx1 := CC.out (2 * x + 1) hxl
    rw [← Nat.add_assoc] at cx1
    have z0' := hB.cell (p := ⟨g, off + 2 * x, none⟩) cx0 Hge.out
    have z1' := hB.cell (p := ⟨g, off + 2 * x + 1, none⟩) cx1 Hge.out
    have HS : Hid (tells e.ls e.t ((pre ++ [(⟨x, hx⟩ : Ix M)]).map (fun y => rgAt ns y.1)) = tell1 e.ls (tells e.ls e.t (pre.map (fun y => rgAt ns y.1))) (ns[2 * x + 1]?.getD 0, ns[2 * x]?.getD 0)) := by
      show _ = _
      rw [List.map_append]
      unfold tells
      rw [List.foldl_append]
      rfl
    clear cx0 cx1 hpl hxl
    generalize ns[2 * x]?.getD 0 = na at *
    generalize ns[2 * x + 1]?.getD 0 = nb at *
    generalize tells e.ls e.t (pre.map (fun y => rgAt ns y.1)) = tt at *
    have kOd : Boxed W.drew w.heap.size 108 (.pointer (some ⟨eb, 0, none⟩)) := kO
    have kSd : Boxed W.drew s1 54 (.slice (some ⟨g, off, none⟩) L C) := kS
    have kNd : Boxed W.drew (s1 + 1) 3 (.int .i64 2) := kN
    have hBd : Off (fun k => k = eb) w W.drew := hB.drew
    have hEd : EO W.drew B eb vl vc { e with k := max e.k z0, t := tt } := hE.below ((Below.refl _ W).drew)
    have HTL := tell_calls hEd nb na
    have HTP : Hid (∀ W', TurnI W.drew W' B eb vl vc { e with k := max e.k z0, t := tell1 e.ls tt (nb, na) } → KeepsFrom W3.heap.size W W' ∧ KpH g off L C s1 (s1 + 1) W W' ∧ EO W' B eb vl vc { e with k := max e.k z0, t := tell1 e.ls tt (nb, na) } ∧ Boxed W' w.heap.size 108 (.pointer (some ⟨eb, 0, none⟩)) ∧ Boxed W' s1 54 (.slice (some ⟨g, off, none⟩) L C) ∧ Boxed W' (s1 + 1) 3 (.int .i64 2) ∧ Off (fun k => k = eb) w W') := by
      show ∀ W', _ → _
      intro W' ht
      have hlt := Heb.out
      have hsz := SZ3.out
      have hs1 := HS1.out
      have k1 : Boxed W' w.heap.size 108 (.pointer (some ⟨eb, 0, none⟩)) := (ht.2.block _ kOd.lt (by omega)).trans kOd
      have k2 : Boxed W' s1 54 (.slice (some ⟨g, off, none⟩) L C) := (ht.2.block _ kSd.lt (by omega)).trans kSd
      have k3 : Boxed W' (s1 + 1) 3 (.int .i64 2) := (ht.2.block _ kNd.lt (by omega)).trans kNd
      refine ⟨⟨ht.2.size, fun k o hk ho _ => ?_⟩, fun _ => ⟨k2.cell, k3.cell⟩, ht.1, k1, k2, k3, hBd.trans ht.2⟩
      have hkl : k < W.drew.heap.size := (Array.getElem?_eq_some_iff.1 ho).1
      exact (ht.2.block k hkl (by omega)).trans ho
    have y0 : W.drew.cell? ⟨g, off + 2 * x, none⟩ = some (.int .i64 na) := z0'
    have y1 : W.drew.cell? ⟨g, off + 2 * x + 1, none⟩ = some (.int .i64 nb) := z1'
    have y2 := kOd.cell
    clear kO kS kN hB hE z0' z1' hBd hEd kSd kNd
    gi_wp2
    refine region_round_held (fun X => X.cell? ⟨g, off + 2 * x, none⟩ = some (.int .i64 na) ∧ X.cell? ⟨g, off + 2 * x + 1, none⟩ = some (.int .i64 nb) ∧ X.cell? ⟨w.heap.size, 0, none⟩ = some (.pointer (some ⟨eb, 0, none⟩))) (by kernel_rfl) (by kernel_rfl) ⟨y0, y1, y2⟩ (fun hHeld => ?_)
    clear y0 y1 y2
    generalize W.drew = Wd at *
    refine wpAnyH_take (i := 0) (oi := { dst := some 29, op := Op.load 108 (Operand.tmp 2), type := 108, pos := "end.go:222", after := #[], guard := none }) (v := (.pointer (some ⟨eb, 0, none⟩))) rfl (by kernel_rfl) (by kernel_rfl) (by kernel_rfl) Quiet.panic (Or.inl ⟨by rfl, ?_⟩) (by assumption) ?_
    · intro wx hSw
      obtain ⟨s0, s1, s2⟩ := hSw
      go_simp
    try simp only [Act.put, List.setIfInBounds_toArray, List.set_cons_zero, List.set_cons_succ]
    refine wpAnyH_take (i := 1) (oi := { dst := some 30, op := Op.move (Operand.tmp 6), type := 54, pos := "end.go:222", after := #[], guard := none }) (v := (.slice (some ⟨g, off + 2 * x, none⟩) 2 2)) rfl (by kernel_rfl) (by kernel_rfl) (by kernel_rfl) Quiet.panic (Or.inl ⟨by rfl, ?_⟩) (by assumption) ?_
    · intro wx hSw
      obtain ⟨s0, s1, s2⟩ := hSw
      go_simp
    try simp only [Act.put, List.setIfInBounds_toArray, List.set_cons_zero, List.set_cons_succ]
    refine wpAnyH_take (i := 2) (oi := { dst := some 31, op := Op.indexAddr 54 (Operand.tmp 30) (Operand.const (Value.int IntKind.i64 0)), type := 0, pos := "end.go:222", after := #[{ on := 1, ground := Ground.data }], guard := none }) (v := (.pointer (some ⟨g, off + 2 * x, none⟩))) rfl (by kernel_rfl) (by kernel_rfl) (by kernel_rfl) Quiet.panic (Or.inl ⟨by rfl, ?_⟩) (by assumption) ?_
    · intro wx hSw
      obtain ⟨s0, s1, s2⟩ := hSw
      go_simp
    try simp only [Act.put, List.setIfInBounds_toArray, List.set_cons_zero, List.set_cons_succ]
    refine wpAnyH_take (i := 3) (oi := { dst := some 32, op := Op.load 3 (Operand.tmp 31), type := 3, pos := "end.go:222", after := #[{ on := 2, ground := Ground.data }], guard := none }) (v := (.int .i64 na)) rfl (by kernel_rfl) (by kernel_rfl) (by kernel_rfl) Quiet.panic (Or.inl ⟨by rfl, ?_⟩) (by assumption) ?_
    · intro wx hSw
      obtain ⟨s0, s1, s2⟩ := hSw
      go_simp
    try simp only [Act.put, List.setIfInBounds_toArray, List.set_cons_zero, List.set_cons_succ]
    refine wpAnyH_take (i := 4) (oi := { dst := some 33, op := Op.move (Operand.tmp 6), type := 54, pos := "end.go:222", after := #[], guard := none }) (v := (.slice (some ⟨g, off + 2 * x, none⟩) 2 2)) rfl (by kernel_rfl) (by kernel_rfl) (by kernel_rfl) Quiet.panic (Or.inl ⟨by rfl, ?_⟩) (by assumption) ?_
    · intro wx hSw
      obtain ⟨s0, s1, s2⟩ := hSw
      go_simp
    try simp only [Act.put, List.setIfInBounds_toArray, List.set_cons_zero, List.set_cons_succ]
    refine wpAnyH_take (i := 5) (oi := { dst := some 34, op := Op.indexAddr 54 (Operand.tmp 33) (Operand.const (Value.int IntKind.i64 1)), type := 0, pos := "end.go:222", after := #[{ on := 4, ground := Ground.data }], guard := none }) (v := (.pointer (some ⟨g, off + 2 * x + 1, none⟩))) rfl (by kernel_rfl) (by kernel_rfl) (by kernel_rfl) Quiet.panic (Or.inl ⟨by rfl, ?_⟩) (by assumption) ?_
    · intro wx hSw
      obtain ⟨s0, s1, s2⟩ := hSw
      go_simp
    try simp only [Act.put, List.setIfInBounds_toArray, List.set_cons_zero, List.set_cons_succ]
    refine wpAnyH_take (i := 6) (oi := { dst := some 35, op := Op.load 3 (Operand.tmp 34), type := 3, pos := "end.go:222", after := #[{ on := 5, ground := Ground.data }], guard := none }) (v := (.int .i64 nb)) rfl (by kernel_rfl) (by kernel_rfl) (by kernel_rfl) Quiet.panic (Or.inl ⟨by rfl, ?_⟩) (by assumption) ?_
    · intro wx hSw
      obtain ⟨s0, s1, s2⟩ := hSw
      go_simp
    try simp only [Act.put, List.setIfInBounds_toArray, List.set_cons_zero, List.set_cons_succ]
    refine wpAnyH_take (i := 7) (oi := { dst := some 36, op := Op.build 143 #[(1, Operand.tmp 32), (0, Operand.tmp 35)], type := 143, pos := "end.go:222", after := #[{ on := 3, ground := Ground.data }, { on := 6, ground := Ground.data }], guard := none }) (v := (.agg #[.int .i64 nb, .int .i64 na])) rfl (by kernel_rfl) (by kernel_rfl) (by kernel_rfl) Quiet.panic (Or.inl ⟨by rfl, ?_⟩) (by assumption) ?_
    · intro wx hSw
      obtain ⟨s0, s1, s2⟩ := hSw
      go_simp
    try simp only [Act.put, List.setIfInBounds_toArray, List.set_cons_zero, List.set_cons_succ]
    refine wpAnyH_ready (rs := [8]) (by kernel_rfl) (by simp) ?_
    refine AllReadyH.cons (o := { dst := some 37, op := Op.call { callee := Callee.value (Operand.func 184), args := #[Operand.tmp 29, Operand.tmp 36], argTypes := #[108, 143] }, type := 0, pos := "end.go:222", after := #[{ on := 0, ground := Ground.data }, { on := 7, ground := Ground.data }], guard := none }) rfl (fun K hK => ?_) AllReadyH.nil
    go_simp
    refine HTL.mono ?_
    rintro ex w4 ⟨rfl, ht4⟩
    have hq := HTP.out w4 ht4
    refine hK.out _ _ ?_ (fun hHeld => ?_)
    · have hl := Hge.out
      have hl2 := Heb.out
      exact ⟨ht4.2.cell hHeld.1 hl, ht4.2.cell hHeld.2.1 hl, ht4.2.cell hHeld.2.2 (show ¬ w.heap.size = eb by omega)⟩
    clear hK K
    refine wpAnyH_done (by kernel_rfl) (Quiet.normal ?_) _
    clear hHeld
    obtain ⟨q1, q2, q3, q4, q5, q6, q7⟩ := hq
    refine ⟨q1, q2, ?_, q4, q5, q6, q7⟩
    rw [HS.out]
    exact q3
  case done =>
    rintro D ys W hD hys ⟨hE, kO, kS, kN, hB⟩ hK
    rw [show ys.map (fun y => rgAt ns y.1) = rgs ns by rw [← rgs_range M ns (by have := HLen.out; have := HLM.out; omega), ← hys, List.map_map]; rfl] at hE
    have hDw : Hid (w.heap.size ≤ D) := by show _ ≤ _; have := HB3.out; omega
    have HOF : Hid (Off (fun k => k = eb) w W) := hB
    have HEF : Hid (EO W B eb vl vc { e with k := max e.k z0, t := tells e.ls e.t (rgs ns) }) := hE
    have HFIN : Hid (TurnI w (W.putObj D (.deferred none)) B eb vl vc { e with k := max e.k z0, t := tells e.ls e.t (rgs ns) }) := by
      have hg := grownBy_putObj' W D (.deferred none)
      have o : Off (fun k => k = D) W (W.putObj D (.deferred none)) := Off.of_grown hg fun k e => by cases e; rfl
      refine ⟨HEF.out.off o fun k hk e' => ?_, ⟨o.os.trans HOF.out.os, o.tape.trans HOF.out.tape, o.output.trans HOF.out.output, Nat.le_trans HOF.out.size o.size, fun k hk hn => ?_⟩⟩
      · have := HOWN.out k hk
        have := hDw.out
        omega
      · have := hDw.out
        rw [o.block k (Nat.lt_of_lt_of_le hk HOF.out.size) (by omega)]
        exact HOF.out.block k hk hn
    clear hys kO kS kN hB hE
    gi_wp2
    refine ⟨by simp, .inl ⟨_, _, rfl, run_takeDeferred hK, ?_⟩⟩
    exact ⟨_, results_tmp rfl _ _ _, rfl, HFIN.out⟩
  case stop =>
    rintro D c pre W _ _ h _
    exact h.elim
theorem ack_count {ns : List Int} (hf : fF (2, ns, nilB) = 0) : ∃ M, ns.length = 2 * M ∧ 1 ≤ M ∧ M ≤ 12 := by
  obtain ⟨_, h2, _⟩ := frF_ok hf
  unfold cntB at h2
  rw [if_pos rfl] at h2
  have h := of_decide_eq_true h2
  simp only at h
  exact ⟨ns.length / 2, by omega, by omega, by omega⟩
theorem ackC_all {ns : List Int} (hf : fF (2, ns, nilB) = 0) : AckC ns := by
  intro w B eb vl vc u e h hR hue
  obtain ⟨h1, h2, h3, h4, h5, h6⟩ := frF_ok hf
  obtain ⟨M, hM, hM1, hM12⟩ := ack_count hf
  simp only at h4
  obtain ⟨ao, c, rfl, hl, hc, hz⟩ := hR
  obtain ⟨g, off, rfl, hb, hC⟩ : ∃ b off, ao = some ⟨b, off, none⟩ ∧ b < w.heap.size ∧ ICells w b off ns := by
    rcases hz with e1 | e1
    · subst e1; simp at hM; omega
    · exact e1
  have hge : g ≠ eb := fun e' => hue (by rw [e']; rfl)
  obtain ⟨z, zs, rfl⟩ : ∃ z zs, ns = z :: zs := by
    cases ns with
    | nil => simp at hM; omega
    | cons z zs => exact ⟨z, zs, rfl⟩
  have hz0 := h4 z List.mem_cons_self
  have c0 : w.cell? ⟨g, off, none⟩ = some (.int .i64 z) := by simpa using hC 0 (by simp)
  have ef : first (z :: zs) = z := rfl
  unfold stpE
  simp only [if_true, ef]
  by_cases g1 : (e.m : Int) ≤ z
  · rw [if_pos g1]
    exact ack_no h hb (by simp) c0 g1
  · rw [if_neg g1]
    exact ack_yes h hM hM1 hM12 hc rfl hb hC hge c0 (by omega) (by omega)
end Go.Proofs.YtdokgalidhmbbaaGreatDoor
