/- Came. -/
import Derived.Test.YtegelodkopommaaGreatDoorLR
import Derived.Maps.AppendAt
import Derived.Deep.RegionLaw
import Derived.Deep.RegionHeld3
namespace Go.Proofs.YtegelodkopommaaGreatDoor.Lo
open Go.RowKit Go.Lib Go.Sort
set_option linter.unusedVariables false
set_option linter.unusedSimpArgs false
theorem step_append_own {P : Program} {ops : Array Oper} {o : Oper} {a : Act} {w : World} {K : Act → World → Prop} {Q : Exit → Act → World → Prop} {E : Prop}
    (hg : o.guard = none) (s x : Operand) (t : TypeId) (hop : o.op = Op.call { callee := Callee.builtin Builtin.append, args := #[s, x], argTypes := #[t, t] })
    (base : Nat) (e : TypeId) (i : TypeInfo) (z : Value) (size bytes : Nat) (h1 : P.underlying t = some (.slice e)) (h2 : P.info? e = some i) (h3 : i.zero = some z) (h4 : i.size = size) (h5 : i.bytes = bytes) (h6 : z.cells.size = size) (h7 : 0 < size)
    (v : Value) (n : Nat) (xs : List Value) (hs : a.eval s = v) (hown : w.ownsRow base e size v n xs)
    (ad : Addr) (m c : Nat) (news : List Value) (hx : a.eval x = .slice (some ad) m c) (hn : news.length = m * size) (hc : ∀ j u, news[j]? = some u → w.cell? (ad.add j) = some u) (h1c : ∀ u ∈ news, u.oneCell' = true)
    (b1 : n + m ≤ maxLen) (b2 : (n + m) * bytes ≤ 140737488355328) (hbase : base ≤ w.heap.size)
    (hK : ∀ v' w', w'.ownsRow base e size v' (n + m) (xs ++ news) → w.grownBy w' v.ownBlock → (v'.ownBlock = v.ownBlock ∨ v'.ownBlock = some w.heap.size) → K (a.put o.dst v') w') :
    if Region.wanted o (yielded ops a.tmps) = true then Oper.wp P o a w K Q else E := by
  have hw : Region.wanted o (yielded ops a.tmps) = true := by simp [Region.wanted, hg]
  rw [if_pos hw]
  obtain ⟨v', w', hrun, r1, r2, _, r4⟩ := run_append_own_at (P := P) w base t o.type e i z size bytes h1 h2 h3 h4 h5 h6 h7 v n xs hown ad m c news hn hc h1c b1 b2 hbase
  unfold Oper.wp
  simp [execOp, hop, resolve, invoke, builtin, hs, hx, hrun, Result.andThen]
  exact hK v' w' r1 r2 r4
theorem infoB : (Tryz.prog.info? 5).map (fun i => (i.zero, i.size, i.bytes)) = some (some (.int .u8 0), 1, 1) := by kernel_rfl
theorem ownSh {w : World} {base e size : Nat} {v : Value} {n : Nat} {xs : List Value} (h : w.ownsRow base e size v n xs) : ∃ ao c, v = .slice ao n c := by
  rcases h.2 with ⟨e, e0⟩ | ⟨g, cap, cur, e, _⟩
  · exact ⟨none, 0, by rw [e, e0]⟩
  · exact ⟨_, _, e⟩
theorem addL_same {cm : List R} {n : Int} (h : chk cm = 0) (hm : memB cm n = true) : addL cm n = cm := cnt_old ((chk_ok cm).1 h).2.2 (addL_ok h).1 n (addL_ok h).2 ((memB_iff _ _).1 hm)
theorem byt_cells {W : World} {g : Nat} {cs : List Int} (h : V.Byt W g cs) (m : Nat) (hm : m ≤ cs.length) : ∀ j u, (bvs (cs.take m))[j]? = some u → W.cell? ((⟨g, 0, none⟩ : Addr).add j) = some u := fun j u hu => by
  have hl : j < (bvs (cs.take m)).length := (List.getElem?_eq_some_iff.1 hu).1
  rw [bvs_length, List.length_take] at hl
  rw [bvs_get _ _ (by rw [List.length_take]; exact hl), List.getElem?_take, if_pos (by omega)] at hu
  rw [Addr.add_lit, Nat.zero_add, h.cell j (by omega), ← hu]

set_option maxRecDepth 100000 in
set_option maxHeartbeats 2000000 in
theorem came_stop {w : World} {B lb : Nat} {vb vc : Value} {s : Lg} (h : LO w B lb vb vc s) (n : Int) (h0 : s.st = true) : Calls Tryz.prog 9 #[.pointer (some ⟨lb, 0, none⟩), .int .i64 n] w fun e w' => e = .returned (.tuple #[.bool false, errV 6]) ∧ w' = w := by
  have c4 := h.c4
  rw [h0] at c4
  rw [errV_f (by decide)]
  clear h
  go_enter Tryz.func9, Tryz.ntmps9
  go_wp2
  go_ret2
  exact ⟨rfl, rfl⟩

set_option maxRecDepth 100000 in
set_option maxHeartbeats 2000000 in
theorem came_bad {w : World} {B lb : Nat} {vb vc : Value} {s : Lg} (h : LO w B lb vb vc s) (n : Int) (h0 : s.st = false) (h1 : isN n = false) : Calls Tryz.prog 9 #[.pointer (some ⟨lb, 0, none⟩), .int .i64 n] w fun e w' => e = .returned (.tuple #[.bool false, errV 1]) ∧ Below w.heap.size w w' := by
  have HA := add_no vc (rgN s.ns) n w h.row h.inv.fit.chk h1
  have c2 := h.c2
  have c4 := h.c4
  rw [h0] at c4
  obtain ⟨a, c, hv⟩ := h.shC
  rw [hv] at HA c2
  rw [errV_f (by decide)] at HA ⊢
  clear h hv
  generalize (rgN s.ns).length = m at *
  go_enter Tryz.func9, Tryz.ntmps9
  go_wp2_with (go_at_call 23; refine HA.mono ?_; rintro e w1 ⟨rfl, hb1⟩)
  go_ret2
  exact ⟨rfl, hb1⟩

set_option maxRecDepth 100000 in
set_option maxHeartbeats 2000000 in
theorem came_full {w : World} {B lb : Nat} {vb vc : Value} {s : Lg} (h : LO w B lb vb vc s) (n : Int) (h0 : s.st = false) (h1 : isN n = true) (h2 : 12 < (addL (rgN s.ns) n).length) : Calls Tryz.prog 9 #[.pointer (some ⟨lb, 0, none⟩), .int .i64 n] w fun e w' => e = .returned (.tuple #[.bool false, errV 4]) ∧ Below w.heap.size w w' := by
  have HA := add_full h.row h.inv.fit.chk h1 h2
  have c2 := h.c2
  have c4 := h.c4
  rw [h0] at c4
  obtain ⟨a, c, hv⟩ := h.shC
  rw [hv] at HA c2
  rw [errV_f (by decide)] at HA ⊢
  clear h hv
  generalize (rgN s.ns).length = m at *
  go_enter Tryz.func9, Tryz.ntmps9
  go_wp2_with (go_at_call 23; refine HA.mono ?_; rintro e w1 ⟨rfl, hb1⟩)
  go_ret2
  exact ⟨rfl, hb1⟩

set_option maxRecDepth 100000 in
set_option maxHeartbeats 2000000 in
theorem came_again {w : World} {B lb : Nat} {vb vc : Value} {s : Lg} (h : LO w B lb vb vc s) (n : Int) (h0 : s.st = false) (h1 : isN n = true) (h3 : memB (rgN s.ns) n = true) : Calls Tryz.prog 9 #[.pointer (some ⟨lb, 0, none⟩), .int .i64 n] w fun e w' => e = .returned (.tuple #[.bool false, .nilIface]) ∧ Below w.heap.size w w' := by
  have HA := add_fits h.row h.inv.fit.chk h1 (by rw [addL_same h.inv.fit.chk h3]; exact h.inv.fit.len)
  have c2 := h.c2
  have c4 := h.c4
  rw [h0] at c4
  obtain ⟨a, c, hv⟩ := h.shC
  rw [hv] at HA c2
  skip
  clear h hv
  generalize (rgN s.ns).length = m at *
  go_enter Tryz.func9, Tryz.ntmps9
  go_wp2_with (go_at_call 23; refine HA.mono ?_; rintro e w1 ⟨v', rfl, ho1, hb1⟩; obtain ⟨a1, c1, rfl⟩ := ownSh ho1; rw [h3])
  go_ret2
  exact ⟨rfl, hb1⟩

set_option maxRecDepth 100000 in
set_option maxHeartbeats 2000000 in
theorem came_halt {w : World} {B lb : Nat} {vb vc : Value} {s : Lg} (h : LO w B lb vb vc s) (n : Int) (h0 : s.st = false) (h1 : isN n = true) (h2 : (addL (rgN s.ns) n).length ≤ 12) (h3 : memB (rgN s.ns) n = false) (h4 : s.ah = 0) : Calls Tryz.prog 9 #[.pointer (some ⟨lb, 0, none⟩), .int .i64 n] w fun e w' => e = .returned (.tuple #[.bool false, errV 6]) ∧ Tu w w' B lb vb vc { s with st := true, x := (recF n).take 2 } := by
  have HL : Hid (LO w B lb vb vc s) := h
  have HA := add_fits h.row h.inv.fit.chk h1 h2
  have nb := (isN_iff n).1 h1
  have c2 := h.c2
  have c4 := h.c4
  rw [h0] at c4
  have hlt := h.ltl
  obtain ⟨a, c, hv⟩ := h.shC
  obtain ⟨ab, cb, hvb⟩ := h.shB
  have HVC : Hid (vc = .slice a (rgN s.ns).length c) := hv
  have HVB : Hid (vb = .slice ab s.bs.length cb) := hvb
  have HFIT : Hid (Fit (s.ns ++ [n])) := h.inv.fit.snoc h1 h3 h2
  have HRG : Hid (rgN (s.ns ++ [n]) = addL (rgN s.ns) n) := rgN_snoc _ _
  rw [hv] at HA c2
  rw [h3] at HA
  obtain ⟨i0, hi0, hz0, hz1, hz2⟩ := info_parts infoB
  clear h hv hvb h1 h2 h3
  generalize (rgN s.ns).length = m at *
  have HXN : Hid (s.x = []) := HL.out.inv.xn h0
  have H4 : Hid (s.ah = 0) := h4
  rw [errV_f (by decide)]
  clear h4
  go_enter Tryz.func9, Tryz.ntmps9
  go_upto_region 8 with (first | (go_at_call 23; refine HA.mono ?_; rintro e w1 ⟨v1, rfl, ho1, hb1⟩; obtain ⟨a1, c1, hv1⟩ := ownSh ho1; subst hv1) | (go_at_call 24; refine (recordOf_calls n _ nb.1 nb.2).mono ?_; rintro e w2 ⟨g, rfl, hby2, hg2, hb2⟩; have hB2 := hb1.trans (hb2.mono hb1.size); have hL2 := HL.out.below hB2) | (go_at_call 25; refine (step_no hL2 H4.out).mono ?_; rintro e w3 ⟨rfl, hL3, ho3⟩; have d0 := hL3.c0; rw [HVB.out] at d0))
  have hbl := HL.out.inv.bl
  have hx0 := HXN.out
  have hbs : s.bs.length = 4 * s.ns.length := by rw [s.bs_length, hx0]; simp
  have hglt : g < w2.heap.size := hby2.lt
  have hgl : g ≠ lb := by have := hb1.size; omega
  have hby3 : V.Byt w3.drew g (recF n) := (ho3.block g hglt hgl).trans hby2
  have HCN : Hid (∀ j u, (bvs ((recF n).take 2))[j]? = some u → w3.drew.cell? ((⟨g, 0, none⟩ : Addr).add j) = some u) := byt_cells hby3 2 (by simp [recF])
  have hrow : w3.drew.ownsRow B 5 1 (.slice ab s.bs.length cb) s.bs.length (bvs s.bs) := by rw [← HVB.out]; exact hL3.drew.rb
  have HL3 : Hid (LO w3.drew B lb vb vc { s with st := true }) := hL3.drew
  have hle := hL3.le
  have d0 : w3.drew.cell? ⟨lb, 0, none⟩ = some (.slice ab s.bs.length cb) := d0
  have HO3 : Hid (Off (fun k => k = lb) w w3.drew) := (Off.of_below hB2).trans ho3.drew
  have HB2 : Hid (w.heap.size ≤ w2.heap.size) := hB2.size
  clear hL2 hB2 hb1 hb2 hL3 ho3 hby2 hby3 hg2 hglt hgl ho1 HA c2 c4 hx0 hbs
  generalize hbn : s.bs.length = bn at *
  have HBN : Hid (s.bs.length = bn) := hbn
  clear hbn
  go_region_law (refine step_append_own rfl (.tmp 41) (.tmp 43) 50 rfl B 5 i0 _ 1 1 Tryz.underlying50 hi0 hz0 hz1 hz2 rfl (by decide) (.slice ab bn cb) bn (bvs s.bs) (by simp [Act.eval, Act.put]) hrow ⟨g, 0, none⟩ 2 4 (bvs ((recF n).take 2)) (by simp [Act.eval, Act.put]) rfl HCN.out (fun u hu => bvs_one u hu) (by unfold maxLen; omega) (by omega) hle ?_; intro v' w5 ho5 hg5 hl5; obtain ⟨g5, cap5, hv5⟩ := ownSh ho5; subst hv5; have og := Off.of_grown (K := fun k => (Value.slice ab bn cb).ownBlock = some k) hg5 (fun k e => e); have d2 := og.cell HL3.out.c0 (fun e => HL3.out.nb (by rw [HVB.out]; exact e)); have df := (og.frozen (p := ⟨lb, 0, none⟩) HL3.out.ltl (fun e => HL3.out.nb (by rw [HVB.out]; exact e))).trans (HL3.out.fr 0))
  all_goals (try go_wp2_with fail)
  all_goals go_ret2
  all_goals
    have hvb : vb = .slice ab bn cb := by rw [HVB.out]
    have og' : Off (fun k => vb.ownBlock = some k) w3.drew w5 := by rw [hvb]; exact og
    have hnew : ∀ k, (Value.slice g5 (bn + 2) cap5).ownBlock = some k → vb.ownBlock = some k ∨ w3.drew.heap.size ≤ k := fun k hk => by
      rw [hvb]
      rcases hl5 with e | e
      · exact .inl (e.symm.trans hk)
      · right
        have e2 : k = w3.drew.heap.size := Option.some.inj (hk.symm.trans e)
        omega
    have hi : LInv { s with st := true, x := (recF n).take 2 } := ⟨HL.out.inv.fit, HL.out.inv.few, by simp [recF], fun e => Bool.noConfusion e, HL.out.inv.sl, HL.out.inv.sm, HL.out.inv.a0, HL.out.inv.a1⟩
    have hbs' : ({ s with st := true, x := (recF n).take 2 } : Lg).bs = s.bs ++ (recF n).take 2 := by
      show recs s.ns ++ _ = (recs s.ns ++ s.x) ++ _
      rw [HXN.out, List.append_nil]
    have hfin := HL3.out.setB (vb' := .slice g5 (bn + 2) cap5) (s' := { s with st := true, x := (recF n).take 2 }) og' (by rw [hbs', bvs_append, List.length_append, HBN.out]; exact ho5) hnew hi rfl rfl rfl rfl
    refine ⟨rfl, _, _, hfin, ?_, fun k hk => ?_⟩
    · exact ((HO3.out.mono (fun k _ e => .inl e)).trans (og'.mono (fun k _ e => .inr (.inl e)))).setCell (K := own lb vb vc) (a := ⟨lb, 0, none⟩) (.inl rfl) _
    · rcases hk with e | e | e
      · exact .inl (.inl e)
      · rcases hnew k e with e | e
        · exact .inl (.inr (.inl e))
        · exact .inr (Nat.le_trans HO3.out.size e)
      · exact .inl (.inr (.inr e))

set_option maxRecDepth 100000 in
set_option maxHeartbeats 2000000 in
theorem came_yes {w : World} {B lb : Nat} {vb vc : Value} {s : Lg} (h : LO w B lb vb vc s) (n : Int) (h0 : s.st = false) (h1 : isN n = true) (h2 : (addL (rgN s.ns) n).length ≤ 12) (h3 : memB (rgN s.ns) n = false) (h4 : s.ah ≠ 0) (h5 : s.ns.length < 100000) : Calls Tryz.prog 9 #[.pointer (some ⟨lb, 0, none⟩), .int .i64 n] w fun e w' => e = .returned (.tuple #[.bool true, .nilIface]) ∧ Tu w w' B lb vb vc { s with ns := s.ns ++ [n], ah := dn s.ah } := by
  have HL : Hid (LO w B lb vb vc s) := h
  have HA := add_fits h.row h.inv.fit.chk h1 h2
  have nb := (isN_iff n).1 h1
  have c2 := h.c2
  have c4 := h.c4
  rw [h0] at c4
  have hlt := h.ltl
  obtain ⟨a, c, hv⟩ := h.shC
  obtain ⟨ab, cb, hvb⟩ := h.shB
  have HVC : Hid (vc = .slice a (rgN s.ns).length c) := hv
  have HVB : Hid (vb = .slice ab s.bs.length cb) := hvb
  have HFIT : Hid (Fit (s.ns ++ [n])) := h.inv.fit.snoc h1 h3 h2
  have HRG : Hid (rgN (s.ns ++ [n]) = addL (rgN s.ns) n) := rgN_snoc _ _
  rw [hv] at HA c2
  rw [h3] at HA
  obtain ⟨i0, hi0, hz0, hz1, hz2⟩ := info_parts infoB
  clear h hv hvb h1 h2 h3
  generalize (rgN s.ns).length = m at *
  have HXN : Hid (s.x = []) := HL.out.inv.xn h0
  have H4 : Hid (s.ah ≠ 0) := h4
  have H5 : Hid (s.ns.length < 100000) := h5
  clear h4 h5
  go_enter Tryz.func9, Tryz.ntmps9
  go_upto_region 10 with (first | (go_at_call 23; refine HA.mono ?_; rintro e w1 ⟨v1, rfl, ho1, hb1⟩; obtain ⟨a1, c1, hv1⟩ := ownSh ho1; subst hv1) | (go_at_call 24; refine (recordOf_calls n _ nb.1 nb.2).mono ?_; rintro e w2 ⟨g, rfl, hby2, hg2, hb2⟩; have hB2 := hb1.trans (hb2.mono hb1.size); have hL2 := HL.out.below hB2) | (go_at_call 25; refine (step_yes hL2 H4.out).mono ?_; rintro e w3 ⟨rfl, hL3, ho3⟩; have d0 := hL3.c0; rw [HVB.out] at d0))
  have hbl := HL.out.inv.bl
  have hglt : g < w2.heap.size := hby2.lt
  have hgl : g ≠ lb := by have := hb1.size; omega
  have hby3 : V.Byt w3 g (recF n) := (ho3.block g hglt hgl).trans hby2
  have HCN : Hid (∀ j u, (bvs ((recF n).take 4))[j]? = some u → w3.cell? ((⟨g, 0, none⟩ : Addr).add j) = some u) := byt_cells hby3 4 (by simp [recF])
  have hrow : w3.ownsRow B 5 1 (.slice ab s.bs.length cb) s.bs.length (bvs s.bs) := by rw [← HVB.out]; exact hL3.rb
  have HL3 : Hid (LO w3 B lb vb vc { s with ah := dn s.ah }) := hL3
  have hle := hL3.le
  have HO3 : Hid (Off (fun k => k = lb) w w3) := (Off.of_below hB2).trans ho3
  have HR3 : Hid (w3.ownsRow w.heap.size 66 2 (.slice a1 (addL (rgN s.ns) n).length c1) (addL (rgN s.ns) n).length (flat (addL (rgN s.ns) n))) := ho3.own (own_below ho1 hb2) (fun k e e' => by
    have := (ho1.lt k e).1
    omega)
  clear hL2 hB2 hb1 hb2 hL3 ho3 hby2 hby3 hg2 hglt hgl ho1 HA c2 c4
  generalize hbn : s.bs.length = bn at *
  have HBN : Hid (s.bs.length = bn) := hbn
  clear hbn
  generalize hal : (addL (rgN s.ns) n).length = al at *
  have HAL : Hid ((addL (rgN s.ns) n).length = al) := hal
  clear hal
  go_wp2_with (at_builtin; refine wpList_append_own_at _ rfl (.tmp 52) (.tmp 53) 50 rfl B 5 i0 _ 1 1 Tryz.underlying50 hi0 hz0 hz1 hz2 rfl (by decide) (.slice ab bn cb) bn (bvs s.bs) rfl hrow ⟨g, 0, none⟩ 4 4 (bvs ((recF n).take 4)) rfl rfl HCN.out (fun u hu => bvs_one u hu) (by unfold maxLen; omega) (by omega) hle ?_; intro v' w5 ho5 hg5 hq5 hl5; clear hq5; obtain ⟨g5, cap5, hv5⟩ := ownSh ho5; subst hv5; have og := Off.of_grown (K := fun k => (Value.slice ab bn cb).ownBlock = some k) hg5 (fun k e => e); have d0 := og.cell HL3.out.c0 (fun e => HL3.out.nb (by rw [HVB.out]; exact e)); have df0 := (og.frozen (p := ⟨lb, 0, none⟩) HL3.out.ltl (fun e => HL3.out.nb (by rw [HVB.out]; exact e))).trans (HL3.out.fr 0); have d2 := og.cell HL3.out.c2 (fun e => HL3.out.nb (by rw [HVB.out]; exact e)); have df2 := (og.frozen (p := ⟨lb, 2, none⟩) HL3.out.ltl (fun e => HL3.out.nb (by rw [HVB.out]; exact e))).trans (HL3.out.fr 2))
  go_ret2
  have hvb : vb = .slice ab bn cb := by rw [HVB.out]
  have og' : Off (fun k => vb.ownBlock = some k) w3 w5 := by rw [hvb]; exact og
  have hnew : ∀ k, (Value.slice g5 (bn + 4) cap5).ownBlock = some k → vb.ownBlock = some k ∨ w3.heap.size ≤ k := fun k hk => by
    rw [hvb]
    rcases hl5 with e | e
    · exact .inl (e.symm.trans hk)
    · right
      have e2 : k = w3.heap.size := Option.some.inj (hk.symm.trans e)
      omega
  have hsl := HL.out.inv.sl
  have hd := dn_bd HL.out.inv.a0 HL.out.inv.a1
  have hi : LInv { s with ns := s.ns ++ [n], ah := dn s.ah } := ⟨HFIT.out, by have := H5.out; simp; omega, HL.out.inv.xl, HL.out.inv.xn, by simp; omega, HL.out.inv.sm, hd.1, hd.2⟩
  have hbs' : ({ s with ns := s.ns ++ [n], ah := dn s.ah } : Lg).bs = s.bs ++ (recF n).take 4 := by
    show recs (s.ns ++ [n]) ++ s.x = (recs s.ns ++ s.x) ++ recF n
    rw [HXN.out, List.append_nil, List.append_nil, recs_snoc]
  have hr5 : w5.ownsRow w.heap.size 66 2 (.slice a1 al c1) al (flat (addL (rgN s.ns) n)) := og'.own HR3.out (fun k e e' => by
    have := (HR3.out.lt k e).1
    have := (HL.out.rb.lt k e').2
    omega)
  have hfin := HL3.out.setBC (vb' := .slice g5 (bn + 4) cap5) (vc' := .slice a1 al c1) (s' := { s with ns := s.ns ++ [n], ah := dn s.ah }) og' (by rw [hbs', bvs_append, List.length_append, HBN.out]; exact ho5) hnew (by
    show w5.ownsRow B 66 2 _ (rgN (s.ns ++ [n])).length (flat (rgN (s.ns ++ [n])))
    rw [HRG.out, HAL.out]; exact own_mono hr5 HL.out.le) (fun e => by have := (hr5.lt lb e).1; have := HL.out.ltl; omega) hi rfl rfl rfl
  refine ⟨rfl, _, _, hfin, ?_, fun k hk => ?_⟩
  · exact (((HO3.out.mono (fun k _ e => .inl e)).trans (og'.mono (fun k _ e => .inr (.inl e)))).setCell (K := own lb vb vc) (a := ⟨lb, 0, none⟩) (.inl rfl) _).setCell (K := own lb vb vc) (a := ⟨lb, 2, none⟩) (.inl rfl) _
  · rcases hk with e | e | e
    · exact .inl (.inl e)
    · rcases hnew k e with e | e
      · exact .inl (.inr (.inl e))
      · exact .inr (Nat.le_trans HO3.out.size e)
    · exact .inr (hr5.lt k e).1
end Go.Proofs.YtegelodkopommaaGreatDoor.Lo
