/- Sync, All, Has, Crash. -/
import Derived.Test.YtegelodkopommaaGreatDoorLN
import Derived.Lib.SliceRun
import Derived.Maps.AppendAt
import Derived.BigQuiet
namespace Go.Proofs.YtegelodkopommaaGreatDoor.Lo
open Go.RowKit Go.Lib Go.Sort
set_option linter.unusedVariables false
set_option linter.unusedSimpArgs false
theorem nilEqR (w : World) (a : Option Addr) (n c n' c' : Nat) : (binOp .eql 41 (.slice a n c) (.slice none n' c')).run Tryz.prog w = .ok (.bool a.isNone) w := Lib.run_eql_slice_nil w _ _ a n c n' c' Tryz.underlying41
set_option maxRecDepth 100000 in
set_option maxHeartbeats 2000000 in
theorem eclone_none (w : World) : Calls Tryz.prog 28 #[.slice none 0 0] w fun ex w' => ex = .returned (.slice none 0 0) ∧ w' = w := by
  have hq := nilEqR
  go_enter Tryz.func28, Tryz.ntmps28
  go_wp2_with fail
  go_ret
  exact ⟨rfl, rfl⟩
set_option maxRecDepth 100000 in
set_option maxHeartbeats 2000000 in
theorem eclone_some {w : World} {base g cap n : Nat} {zs : List R} (h : w.ownsRow base 66 2 (.slice (some ⟨g, 0, none⟩) n cap) n (flat zs)) (hn : n ≤ 12) : Calls Tryz.prog 28 #[.slice (some ⟨g, 0, none⟩) n cap] w fun ex w' => ∃ v, ex = .returned v ∧ w'.ownsRow w.heap.size 66 2 v n (flat zs) ∧ Below w.heap.size w w' := by
  obtain ⟨i0, hi0, hz0, hz1, hz2⟩ := info_parts infoR
  have hlen : (flat zs).length = n * 2 := h.1
  have hg := (h.lt g rfl).2
  have h0 : (w.alloc (.cells #[] 66)).ownsRow w.heap.size 66 2 (.slice (some ⟨w.heap.size, 0, none⟩) 0 0) 0 [] := World.ownsRow_lit (base := w.heap.size) (e := 66) (size := 2) w #[] 0 (Nat.le_refl _) (by unfold maxLen; omega) rfl
  have hB0 : Below w.heap.size w (w.alloc (.cells #[] 66)) := (Below.refl _ _).alloc (Nat.le_refl _) _
  have hcn : ∀ j u, (flat zs)[j]? = some u → (w.alloc (.cells #[] 66)).cell? ((⟨g, 0, none⟩ : Addr).add j) = some u := fun j u hu => by
    have := h.cells (g := g) rfl j u hu
    rw [Addr.add_lit] at this ⊢
    exact (World.cell?_alloc_lt _ _ _ hg).trans this
  have HC : Hid (∀ j u, (flat zs)[j]? = some u → (w.alloc (.cells #[] 66)).cell? ((⟨g, 0, none⟩ : Addr).add j) = some u) := hcn
  have hq := nilEqR
  clear h hcn
  go_enter Tryz.func28, Tryz.ntmps28
  go_wp2_with (at_builtin; refine wpList_append_own_at _ rfl (.tmp 5) (.tmp 6) 41 rfl w.heap.size 66 i0 _ 2 16 Tryz.underlying41 hi0 hz0 hz1 hz2 rfl (by decide) _ _ [] rfl h0 ⟨g, 0, none⟩ n cap (flat zs) rfl hlen HC.out (fun u hu => flat_one u hu) (by unfold maxLen; omega) (by omega) (by simp) ?_; intro v3 w3 ho3 hg3 hq3 hl3; clear hq3)
  go_ret
  refine ⟨_, rfl, ?_, hB0.grown hg3 (by simp) (fun k e => (h0.lt k e).1)⟩
  have : 0 + n = n := by omega
  rw [this, List.nil_append] at ho3
  exact ho3
theorem eclone_calls {w : World} {base : Nat} {v : Value} {zs : List R} (h : w.ownsRow base 66 2 v zs.length (flat zs)) (hn : zs.length ≤ 12) : Calls Tryz.prog 28 #[v] w fun ex w' => ∃ v', ex = .returned v' ∧ w'.ownsRow w.heap.size 66 2 v' zs.length (flat zs) ∧ Below w.heap.size w w' := by
  have h' := h
  rcases h.2 with ⟨rfl, h0⟩ | ⟨g, cap, cur, rfl, _⟩
  · refine (eclone_none w).mono ?_
    rintro ex w' ⟨rfl, rfl⟩
    rw [List.eq_nil_of_length_eq_zero h0]
    exact ⟨_, rfl, World.ownsRow_nil _ _ _ _, Below.refl _ _⟩
  · exact eclone_some h' hn

def syF (s : Lg) : Int := if s.st = true then 6 else if s.ah = 0 then 6 else 0
def syS (s : Lg) : Lg := if s.st = true then s else if s.ah = 0 then { s with st := true } else { s with ah := dn s.ah, sf := 4 * s.ns.length }
set_option maxRecDepth 100000 in
set_option maxHeartbeats 2000000 in
theorem sync_stop {w : World} {B lb : Nat} {vb vc : Value} {s : Lg} (h : LO w B lb vb vc s) (h0 : s.st = true) : Calls Tryz.prog 10 #[.pointer (some ⟨lb, 0, none⟩)] w fun e w' => e = .returned (errV 6) ∧ w' = w := by
  have c4 := h.c4
  rw [h0] at c4
  rw [errV_f (by decide)]
  clear h
  go_enter Tryz.func10, Tryz.ntmps10
  go_wp2
  go_ret
  exact ⟨rfl, rfl⟩
set_option maxRecDepth 100000 in
set_option maxHeartbeats 2000000 in
theorem sync_halt {w : World} {B lb : Nat} {vb vc : Value} {s : Lg} (h : LO w B lb vb vc s) (h0 : s.st = false) (h1 : s.ah = 0) : Calls Tryz.prog 10 #[.pointer (some ⟨lb, 0, none⟩)] w fun e w' => e = .returned (errV 6) ∧ LO w' B lb vb vc { s with st := true } ∧ Off (fun k => k = lb) w w' := by
  have HS := step_no h h1
  have c4 := h.c4
  rw [h0] at c4
  rw [errV_f (by decide)]
  clear h
  go_enter Tryz.func10, Tryz.ntmps10
  go_wp2_with (go_at_call 25; refine HS.mono ?_; rintro e w1 ⟨rfl, hL1, ho1⟩)
  go_ret
  exact ⟨rfl, hL1, ho1⟩
set_option maxRecDepth 100000 in
set_option maxHeartbeats 2000000 in
theorem sync_yes {w : World} {B lb : Nat} {vb vc : Value} {s : Lg} (h : LO w B lb vb vc s) (h0 : s.st = false) (h1 : s.ah ≠ 0) : Calls Tryz.prog 10 #[.pointer (some ⟨lb, 0, none⟩)] w fun e w' => e = .returned .nilIface ∧ LO w' B lb vb vc { s with ah := dn s.ah, sf := 4 * s.ns.length } ∧ Off (fun k => k = lb) w w' := by
  have HS := step_yes h h1
  have c4 := h.c4
  rw [h0] at c4
  obtain ⟨a, c, hv⟩ := h.shB
  have hbl : s.bs.length = 4 * s.ns.length := by rw [s.bs_length, h.inv.xn h0]; simp
  rw [hbl] at hv
  have HV : Hid (vb = .slice a (4 * s.ns.length) c) := hv
  have hd := h.inv.down
  have HI : Hid (LInv { s with ah := dn s.ah, sf := 4 * s.ns.length }) := ⟨hd.fit, hd.few, hd.xl, hd.xn, Nat.le_refl _, Nat.mul_mod_right 4 _, hd.a0, hd.a1⟩
  clear h hbl hv hd
  generalize hn : 4 * s.ns.length = n at *
  have HN : Hid (4 * s.ns.length = n) := hn
  clear hn
  go_enter Tryz.func10, Tryz.ntmps10
  go_wp2_with (go_at_call 25; refine HS.mono ?_; rintro e w1 ⟨rfl, hL1, ho1⟩; have d0 := hL1.c0; rw [HV.out] at d0; have d1 := hL1.c1; have df := hL1.fr 1)
  go_ret
  exact ⟨rfl, hL1.setS n HI.out, ho1.trans (LO.offL _ _ _ _)⟩
theorem sync_calls {w : World} {B lb : Nat} {vb vc : Value} {s : Lg} (h : LO w B lb vb vc s) : Calls Tryz.prog 10 #[.pointer (some ⟨lb, 0, none⟩)] w fun e w' => e = .returned (errV (syF s)) ∧ LO w' B lb vb vc (syS s) ∧ Off (fun k => k = lb) w w' := by
  cases h0 : s.st with
  | true =>
    refine (sync_stop h h0).mono fun e w' ⟨he, hw⟩ => ⟨by rw [he, syF, if_pos h0], ?_, by rw [hw]; exact Off.refl _ _⟩
    rw [syS, if_pos h0, hw]; exact h
  | false =>
    have q0 : ¬ s.st = true := by rw [h0]; decide
    by_cases h1 : s.ah = 0
    · refine (sync_halt h h0 h1).mono fun e w' ⟨he, hl, ho⟩ => ⟨by rw [he, syF, if_neg q0, if_pos h1], ?_, ho⟩
      rw [syS, if_neg q0, if_pos h1]; exact hl
    · refine (sync_yes h h0 h1).mono fun e w' ⟨he, hl, ho⟩ => ⟨by rw [he, syF, if_neg q0, if_neg h1]; rfl, ?_, ho⟩
      rw [syS, if_neg q0, if_neg h1]; exact hl

set_option maxRecDepth 100000 in
set_option maxHeartbeats 2000000 in
theorem all_calls {w : World} {B lb : Nat} {vb vc : Value} {s : Lg} (h : LO w B lb vb vc s) : Calls Tryz.prog 13 #[.pointer (some ⟨lb, 0, none⟩)] w fun e w' => ∃ v, e = .returned v ∧ w'.ownsRow w.heap.size 66 2 v (rgN s.ns).length (flat (rgN s.ns)) ∧ Below w.heap.size w w' := by
  have c2 := h.c2
  have HC := eclone_calls h.rc h.inv.fit.len
  obtain ⟨ao, c, hvc⟩ := h.shC
  rw [hvc] at c2 HC
  clear h hvc
  generalize (rgN s.ns).length = n at *
  generalize flat (rgN s.ns) = L at *
  go_enter Tryz.func13, Tryz.ntmps13
  go_wp2_with (go_at_call 28; refine HC.mono ?_; rintro ex w1 ⟨v1, rfl, ho1, hb1⟩; obtain ⟨a1, c1, hv1⟩ := ownSh ho1; subst hv1)
  go_ret
  exact ⟨_, rfl, ho1, hb1⟩

theorem own_pre {w : World} {B e : Nat} {ao : Option Addr} {n c m : Nat} {xs : List Value} (h : w.ownsRow B e 1 (.slice ao n c) n xs) (hm : m ≤ n) : w.ownsRow B e 1 (.slice ao m c) m (xs.take m) := by
  have hl := h.1
  refine ⟨by rw [List.length_take]; omega, ?_⟩
  rcases h.2 with ⟨e1, h0⟩ | ⟨g, cap, cur, e1, hb, hg, hc, hm2, hs, ht⟩
  · injection e1 with e1 e2 e3
    subst e1 e3
    have : m = 0 := by omega
    subst this
    exact .inl ⟨rfl, rfl⟩
  · injection e1 with e1 e2 e3
    subst e1 e3
    refine .inr ⟨g, c, cur, rfl, hb, hg, by omega, hm2, hs, ?_⟩
    rw [← ht, List.take_take, Nat.mul_one, Nat.mul_one, Nat.min_eq_left hm]
theorem ob_len {a : Option Addr} {n c m d : Nat} : (Value.slice a n c).ownBlock = (Value.slice a m d).ownBlock := by cases a <;> rfl
/-- How many records are left. -/
def crN (s : Lg) (keep : Int) : Nat := (s.sf + (min (max keep 0) ((s.bs.length : Int) - (s.sf : Int))).toNat) / 4
def crS (s : Lg) (keep : Int) : Lg := ⟨s.ns.take (crN s keep), [], 4 * crN s keep, -1, false⟩
theorem crN_le {s : Lg} (h : LInv s) (keep : Int) : crN s keep ≤ s.ns.length := by
  have := h.sl
  have := h.xl
  have := s.bs_length
  unfold crN
  omega
theorem LInv.crash {s : Lg} (h : LInv s) (keep : Int) : LInv (crS s keep) := by
  have hl := crN_le h keep
  have e : (crS s keep).ns.length = crN s keep := by show (s.ns.take _).length = _; rw [List.length_take]; omega
  have hf := h.few
  exact ⟨h.fit.take _, by rw [e]; omega, Nat.zero_le _, fun _ => rfl, by rw [e]; exact Nat.le_refl _, Nat.mul_mod_right 4 _, by show (-9223372036854775808 : Int) ≤ -1; decide, by show (-1 : Int) ≤ 9223372036854775807; decide⟩
theorem crS_bs {s : Lg} (h : LInv s) (keep : Int) : (crS s keep).bs = s.bs.take (4 * crN s keep) := by
  show recs (s.ns.take _) ++ [] = (recs s.ns ++ s.x).take _
  rw [List.append_nil, recs_take _ _ _ (crN_le h keep)]
/-- All of it is stored anew. -/
theorem LO.setAll {w : World} {B lb : Nat} {vb vc vb' vc' : Value} {s s' : Lg} (h : LO w B lb vb vc s) (hi : LInv s') (h1 : w.ownsRow B 5 1 vb' s'.bs.length (bvs s'.bs)) (h2 : w.ownsRow B 66 2 vc' (rgN s'.ns).length (flat (rgN s'.ns))) (n1 : vb'.ownBlock ≠ some lb) (n2 : vc'.ownBlock ≠ some lb) :
    LO (((((w.setCell ⟨lb, 0, none⟩ vb').setCell ⟨lb, 1, none⟩ (.int .i64 (s'.sf : Int))).setCell ⟨lb, 2, none⟩ vc').setCell ⟨lb, 3, none⟩ (.int .i64 s'.ah)).setCell ⟨lb, 4, none⟩ (.bool s'.st)) B lb vb' vc' s' := by
  have o1 : Off (fun k => k = lb) w (((((w.setCell ⟨lb, 0, none⟩ vb').setCell ⟨lb, 1, none⟩ (.int .i64 (s'.sf : Int))).setCell ⟨lb, 2, none⟩ vc').setCell ⟨lb, 3, none⟩ (.int .i64 s'.ah)).setCell ⟨lb, 4, none⟩ (.bool s'.st)) :=
    ((((LO.offL lb w 0 _).trans (LO.offL lb _ 1 _)).trans (LO.offL lb _ 2 _)).trans (LO.offL lb _ 3 _)).trans (LO.offL lb _ 4 _)
  refine ⟨hi, far (by decide) _ (far (by decide) _ (far (by decide) _ (far (by decide) _ (World.cell?_setCell_same _ _ _ h.c0)))), far (by decide) _ (far (by decide) _ (far (by decide) _ (World.cell?_setCell_same _ _ _ (far (by decide) _ h.c1)))), far (by decide) _ (far (by decide) _ (World.cell?_setCell_same _ _ _ (far (by decide) _ (far (by decide) _ h.c2)))),
    far (by decide) _ (World.cell?_setCell_same _ _ _ (far (by decide) _ (far (by decide) _ (far (by decide) _ h.c3)))), World.cell?_setCell_same _ _ _ (far (by decide) _ (far (by decide) _ (far (by decide) _ (far (by decide) _ h.c4)))), fun j => by simpa using h.fr j, h.hb, o1.own h1 (fun k e e' => by subst e'; exact n1 e), o1.own h2 (fun k e e' => by subst e'; exact n2 e), n1, n2⟩
theorem run_pre (ao : Option Addr) (n c m : Nat) (h : m ≤ c) (w : World) : (Instr.slice 50 (.slice ao n c) none (some (.int .i64 (m : Int))) none).run Tryz.prog w = .ok (.slice ao m c) w := by
  have e := Tryz.underlying50
  have h' : (m : Int) ≤ (c : Int) := by omega
  cases ao with
  | none => go_simp
  | some a => go_simp

set_option maxRecDepth 100000 in
set_option maxHeartbeats 4000000 in
theorem crash_calls {w : World} {B lb : Nat} {vb vc : Value} {s : Lg} (h : LO w B lb vb vc s) (n : Int) (hn0 : -9223372036854775808 ≤ n) (hn1 : n ≤ 9223372036854775807) : Calls Tryz.prog 11 #[.pointer (some ⟨lb, 0, none⟩), .int .i64 n] w fun e w' => (∃ v, e = .returned v) ∧ Tu w w' B lb vb vc (crS s n) := by
  have HL : Hid (LO w B lb vb vc s) := h
  have c0 := h.c0
  have c1 := h.c1
  have hlt := h.ltl
  obtain ⟨ab, cb, hvb⟩ := h.shB
  have HVB : Hid (vb = .slice ab s.bs.length cb) := hvb
  have hcb : s.bs.length ≤ cb := by
    rcases h.rb.2 with ⟨e, e0⟩ | ⟨g, cap, cur, e, _, _, hc, _⟩
    · omega
    · rw [hvb] at e; injection e with _ _ e; omega
  have hbl := h.inv.bl
  have hsl : s.sf ≤ s.bs.length := by rw [s.bs_length]; have := h.inv.sl; omega
  have hcl := crN_le h.inv n
  obtain ⟨E, hE⟩ : ∃ E : Nat, E = s.sf + (min (max n 0) ((s.bs.length : Int) - (s.sf : Int))).toNat := ⟨_, rfl⟩
  obtain ⟨T, hT⟩ : ∃ T : Nat, T = 4 * crN s n := ⟨_, rfl⟩
  have hcr : crN s n = E / 4 := by rw [hE]; rfl
  have e1 : (s.sf : Int) + min (max n 0) ((s.bs.length : Int) - (s.sf : Int)) = (E : Int) := by omega
  have e2 : (E : Int) - (E : Int) % 4 = (T : Int) := by omega
  have hEb : E ≤ 400002 := by omega
  have hTb : T ≤ s.bs.length := by omega
  have hsp := fun W => run_pre ab s.bs.length cb T (by omega) W
  have HT : Hid (T = 4 * crN s n) := hT
  have HTB : Hid (T ≤ s.bs.length) := hTb
  have HTC : Hid (T ≤ cb) := by show T ≤ cb; omega
  have HNUM : Hid (∀ W, Below w.heap.size w W → Calls Tryz.prog 26 #[.slice ab T cb] W fun e w' => ∃ v, e = .returned v ∧ w'.ownsRow W.heap.size 66 2 v (rgN (s.ns.take (crN s n))).length (flat (rgN (s.ns.take (crN s n)))) ∧ Below W.heap.size W w') := by
    show ∀ W, _ → _
    intro W hW
    have hW' := h.below hW
    have hml : crN s n = (s.ns.take (crN s n)).length := by rw [List.length_take]; omega
    obtain ⟨g, hg⟩ : ∃ g : Nat, ∀ k, ab = some k → k = ⟨g, 0, none⟩ ∧ g < W.heap.size ∧ ∀ j, j < s.bs.length → W.cell? ⟨g, j, none⟩ = some (.int .u8 (s.bs[j]?.getD 0)) := by
      rcases hW'.rb.2 with ⟨e, e0⟩ | ⟨g, cap, cur, e, _, hgg, hc, _⟩
      · rw [hvb] at e
        injection e with e
        exact ⟨0, fun k hk => by rw [e] at hk; cases hk⟩
      · have e' := e
        rw [hvb] at e'
        injection e' with ea eb ec
        refine ⟨g, fun k hk => ⟨Option.some.inj (hk.symm.trans ea), (Array.getElem?_eq_some_iff.1 hgg).1, fun j hj => ?_⟩⟩
        have hr := hW'.rb
        rw [e] at hr
        rw [hr.cellAt j (by omega), bvs_get _ _ hj]
    refine numbersOf_calls g 0 cb (crN s n) T ab (s.ns.take (crN s n)) W hml hT (fun hp => ?_) (h.inv.fit.take _) (by have := h.inv.few; omega) HTC.out (fun hp => ?_) (fun j hj => ?_)
    · cases hab : ab with
      | none =>
        exfalso
        rcases h.rb.2 with ⟨e, e0⟩ | ⟨g, cap, cur, e, _⟩
        · omega
        · rw [hvb, hab] at e; injection e with e; cases e
      | some k => rw [(hg k hab).1]
    · cases hab : ab with
      | none =>
        exfalso
        rcases h.rb.2 with ⟨e, e0⟩ | ⟨g, cap, cur, e, _⟩
        · omega
        · rw [hvb, hab] at e; injection e with e; cases e
      | some k => exact (hg k hab).2.1
    · cases hab : ab with
      | none =>
        exfalso
        rcases h.rb.2 with ⟨e, e0⟩ | ⟨g, cap, cur, e, _⟩
        · omega
        · rw [hvb, hab] at e; injection e with e; cases e
      | some k =>
        rw [Nat.zero_add, (hg k hab).2.2 j (by omega), ← recs_take s.ns (crN s n) s.x hcl, ← hT, List.getElem?_take, if_pos hj]
        rfl
  have HI : Hid (LInv (crS s n)) := h.inv.crash n
  have HBS : Hid ((crS s n).bs = s.bs.take T) := by show _ = _; rw [hT]; exact crS_bs h.inv n
  rw [hvb] at c0
  clear h hvb hE hT hcr hcl hTb
  generalize hbn : s.bs.length = bn at *
  have HBN : Hid (s.bs.length = bn) := hbn
  generalize hsn : s.sf = sf at *
  clear hbn hsn
  go_enter Tryz.func11, Tryz.ntmps11
  go_wp2_with fail
  go_quiet (fail)
  have hbq : Below w.heap.size w (w.drewN nq) := below_drewN (Below.refl _ _) nq
  go_wp2_with (go_at_call 26; refine (HNUM.out _ hbq).mono ?_; rintro e w1 ⟨v1, rfl, ho1, hb1⟩; obtain ⟨a1, cc1, hv1⟩ := ownSh ho1; subst hv1; have hb2 := hbq.trans (hb1.mono hbq.size); have hL1 := HL.out.below hb2; have d0 := hL1.c0; have d1 := hL1.c1; have d2 := hL1.c2; have d3 := hL1.c3; have d4 := hL1.c4; have f0 := hL1.fr 0; have f1 := hL1.fr 1; have f2 := hL1.fr 2; have f3 := hL1.fr 3; have f4 := hL1.fr 4)
  go_end0
  have hrb := hL1.rb
  rw [HVB.out, HBN.out] at hrb
  have hp := own_pre hrb HTB.out
  have hlen : (crS s n).bs.length = T := by rw [HBS.out, List.length_take, HBN.out]; have := HTB.out; omega
  have h1 : w1.ownsRow B 5 1 (.slice ab T cb) (crS s n).bs.length (bvs (crS s n).bs) := by
    rw [hlen, HBS.out]
    have e : bvs (s.bs.take T) = (bvs s.bs).take T := by simp [bvs, List.map_take]
    rw [e]; exact hp
  have n1 : (Value.slice ab T cb).ownBlock ≠ some lb := fun e => hL1.nb (by rw [HVB.out]; exact ob_len.trans e)
  have hsz : w.heap.size ≤ (w.drewN nq).heap.size := hbq.size
  have n2 : (Value.slice a1 (rgN (List.take (crN s n) s.ns)).length cc1).ownBlock ≠ some lb := fun e => by have := (ho1.lt lb e).1; omega
  have hfin := hL1.setAll (s' := crS s n) HI.out h1 (own_mono ho1 (Nat.le_trans HL.out.le hsz)) n1 n2
  have es : (crS s n).sf = T := HT.out.symm
  rw [es] at hfin
  refine ⟨⟨_, rfl⟩, _, _, hfin, ?_, fun k hk => ?_⟩
  · have o1 : Off (own lb vb vc) w w1 := Off.of_below hb2
    exact ((((o1.setCell (a := ⟨lb, 0, none⟩) (.inl rfl) _).setCell (a := ⟨lb, 1, none⟩) (.inl rfl) _).setCell (a := ⟨lb, 2, none⟩) (.inl rfl) _).setCell (a := ⟨lb, 3, none⟩) (.inl rfl) _).setCell (a := ⟨lb, 4, none⟩) (.inl rfl) _
  · rcases hk with e | e | e
    · exact .inl (.inl e)
    · exact .inl (.inr (.inl (by rw [HVB.out]; exact ob_len.trans e)))
    · exact .inr (Nat.le_trans hsz (ho1.lt k e).1)
end Go.Proofs.YtegelodkopommaaGreatDoor.Lo
