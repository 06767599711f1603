/- Issue. -/
import Derived.Test.YtlmllfakoglbcaaDoorE
namespace Go.Proofs.YtlmllfakoglbcaaDoor
open Go.RowKit Go.Lib Go.Sort Go.Shelf
set_option linter.unusedVariables false
set_option linter.unusedSimpArgs false

theorem wf_name {n : Int} (h : nameB n = true) : (Lit.int .i64 n).wf = true := by
  obtain ⟨h0, h1⟩ := nameB_yes h
  exact WalkArith.wf_i64 (by omega)
set_option maxRecDepth 100000 in
set_option maxHeartbeats 2000000 in
theorem issue_range {w : World} {B sb bm : Nat} {v : Value} {L : Int} {ns : List Int} {ls : List R} (h : Obj w B sb bm v L ns ls) (n : Int) (hb : nameB n = false) : Calls Tryd.prog 7 #[.pointer (some ⟨sb, 0, none⟩), .int .i64 n] w fun e w' => e = .returned (.tuple #[.agg #[.int .i64 0, .int .i64 0], .iface 48 (.int .i64 1)]) ∧ Below w.heap.size w w' := by
  clear h
  go_enter Tryd.func7, Tryd.ntmps7
  go_wp2_with (go_at_call 17; refine (isName_calls n _).mono ?_; rintro e w1 ⟨rfl, rfl⟩; rw [hb])
  (try simp only [Exit.inBlock, Exit.then])
  refine bodyPost_ret (v := .tuple #[.agg #[.int .i64 0, .int .i64 0], .iface 48 (.int .i64 1)]) ?_ rfl ⟨rfl, ?_⟩
  · rw [results_cell_tmp rfl]; go_simp
  · repeat (first | exact Below.refl _ _ | assumption | (refine Below.alloc ?_ (by simp <;> omega) _) | (refine Below.setCell ?_ (by simp <;> omega) _))

set_option maxRecDepth 100000 in
set_option maxHeartbeats 2000000 in
theorem issue_clash {w : World} {B sb bm : Nat} {v : Value} {L : Int} {ns : List Int} {ls : List R} (h : Obj w B sb bm v L ns ls) (n : Int) (hb : nameB n = true) (hn : n ∈ ns) : Calls Tryd.prog 7 #[.pointer (some ⟨sb, 0, none⟩), .int .i64 n] w fun e w' => e = .returned (.tuple #[.agg #[.int .i64 0, .int .i64 0], .iface 48 (.int .i64 7)]) ∧ Below w.heap.size w w' := by
  have hs := h.lt (k := sb) (.inl rfl)
  obtain ⟨inv, c0, c1, c2, f2, ⟨D, hD, hN⟩, row, _⟩ := h
  have hh : Maps.has D (.int .i64 n) = true := by rw [hN.has]; simpa using hn
  have hkey := Maps.keyOf_int_mk Tryd.underlying3 (wf_name hb)
  have bel : Below w.heap.size w (w.alloc (.cells #[.int .i64 0, .int .i64 0] 29)) := (Below.refl _ _).alloc (Nat.le_refl _) _
  have c1' := (bel.cell (p := ⟨sb, 1, none⟩) hs).trans c1
  clear hn hN inv row c0 c2 f2
  go_enter Tryd.func7, Tryd.ntmps7
  go_wp2_with (first | (go_at_call 17; refine (isName_calls n _).mono ?_; rintro e w1 ⟨rfl, rfl⟩; rw [hb]) | (at_lookup; refine wpList_lookup_own_ok_int _ rfl _ _ 49 rfl 3 3 .i64 lawI Tryd.underlying49 Tryd.underlying3 (zeroI _) bm _ D rfl (hD.alloc _) _ _ rfl hkey ?_; intro c hat hwc))
  (try simp only [Exit.inBlock, Exit.then])
  refine bodyPost_ret (v := .tuple #[.agg #[.int .i64 0, .int .i64 0], .iface 48 (.int .i64 7)]) ?_ rfl ⟨rfl, ?_⟩
  · rw [results_cell_tmp rfl]; go_simp
  · repeat (first | exact Below.refl _ _ | assumption | (refine Below.alloc ?_ (by simp <;> omega) _) | (refine Below.setCell ?_ (by simp <;> omega) _))

set_option maxRecDepth 100000 in
set_option maxHeartbeats 2000000 in
theorem issue_full {w : World} {B sb bm : Nat} {v : Value} {L : Int} {ns : List Int} {ls : List R} (h : Obj w B sb bm v L ns ls) (n : Int) (hb : nameB n = true) (hn : n ∉ ns) (hf : fullB L ns ls = true) : Calls Tryd.prog 7 #[.pointer (some ⟨sb, 0, none⟩), .int .i64 n] w fun e w' => e = .returned (.tuple #[.agg #[.int .i64 0, .int .i64 0], .iface 48 (.int .i64 4)]) ∧ Below w.heap.size w w' := by
  have hs := h.lt (k := sb) (.inl rfl)
  have bel : Below w.heap.size w (w.alloc (.cells #[.int .i64 0, .int .i64 0] 29)) := (Below.refl _ _).alloc (Nat.le_refl _) _
  have hcon := isFull_calls (h.below bel)
  rw [hf] at hcon
  obtain ⟨inv, c0, c1, c2, f2, ⟨D, hD, hN⟩, row, _⟩ := h
  have hh : Maps.has D (.int .i64 n) = false := by rw [hN.has]; simpa using hn
  have hkey := Maps.keyOf_int_mk Tryd.underlying3 (wf_name hb)
  have c1' := (bel.cell (p := ⟨sb, 1, none⟩) hs).trans c1
  have hX := IdBox.new w 0 0 29
  clear hn hN inv row c0 c2 f2 hf
  go_enter Tryd.func7, Tryd.ntmps7
  go_wp2_with (first | (go_at_call 17; refine (isName_calls n _).mono ?_; rintro e w1 ⟨rfl, rfl⟩; rw [hb]) | (at_lookup; refine wpList_lookup_own_ok_int _ rfl _ _ 49 rfl 3 3 .i64 lawI Tryd.underlying49 Tryd.underlying3 (zeroI _) bm _ D rfl (hD.alloc _) _ _ rfl hkey ?_; intro c hat hwc) | (go_at_call 18; refine hcon.mono ?_; rintro e w1 ⟨rfl, hb1⟩; have hX1 := hX.below hb1; obtain ⟨xl, x0, x1, xf0, xf1⟩ := hX1))
  (try simp only [Exit.inBlock, Exit.then])
  refine bodyPost_ret (v := .tuple #[.agg #[.int .i64 0, .int .i64 0], .iface 48 (.int .i64 4)]) ?_ rfl ⟨rfl, ?_⟩
  · rw [results_cell_tmp rfl]; go_simp
  · have hb2 := bel.trans (hb1.mono bel.size)
    repeat (first | exact hb2 | (refine Below.setCell ?_ (by simp <;> omega) _))

theorem Inv.more {L : Int} {ns : List Int} {ls : List R} (h : Inv L ns ls) {n : Int} (hn : n ∉ ns) (hm : ns.length < 100) : Inv L (ns ++ [n]) ls := by
  refine ⟨h.l1, h.l8, by simp; omega, ?_, h.full, h.rise, fun x hx => ?_⟩
  · rw [List.nodup_append]
    refine ⟨h.nodup, by simp, ?_⟩
    intro a ha b hb
    have : b = n := by simpa using hb
    rintro rfl
    exact hn (this ▸ ha)
  · obtain ⟨j, h1, h2⟩ := h.was x hx
    have hj := (List.getElem?_eq_some_iff.1 h2).1
    exact ⟨j, h1, by rw [List.getElem?_append_left hj]; exact h2⟩
theorem Obj.name {w w1 : World} {B sb bm : Nat} {v : Value} {L : Int} {ns ns' : List Int} {ls : List R} {D : DataW Unit} (h : Obj w B sb bm v L ns ls) (ho : Off (fun k => k = bm) w w1) (hD : w1.ownsMap Tryd.prog 3 (plainElem Tryd.prog 3) bm ns'.length D) (hN : Names D ns') (inv : Inv L ns' ls) : Obj w1 B sb bm v L ns' ls := by
  have hsb := h.lt (k := sb) (.inl rfl)
  have e : ¬ sb = bm := fun e => h.ne e.symm
  exact ⟨inv, ho.cell h.c0 e, ho.cell h.c1 e, ho.cell h.c2 e, (ho.frozen (p := ⟨sb, 2, none⟩) hsb e).trans h.f2, ⟨D, hD, hN⟩, ho.row h.row (fun k hk => (h.nv k hk).2), h.hs, h.hm, h.ne, h.nv⟩
/-- append onto a slice of the caller's own, as one step of a region that draws. -/
theorem step_append_own {P : Program} {ops : Array Oper} {o : Oper} {a : Act} {w : World} {K : Act → World → Prop} {Q : Exit → Act → World → Prop} {E : Prop}
    (hg : o.guard = none) (s x : Operand) (t : TypeId) (hop : o.op = Op.call { callee := Callee.builtin Builtin.append, args := #[s, x], argTypes := #[t, t] })
    (base : Nat) (e : TypeId) (i : TypeInfo) (z : Value) (size bytes : Nat) (h1 : P.underlying t = some (.slice e)) (h2 : P.info? e = some i) (h3 : i.zero = some z) (h4 : i.size = size) (h5 : i.bytes = bytes) (h6 : z.cells.size = size) (h7 : 0 < size)
    (v : Value) (n : Nat) (xs : List Value) (hs : a.eval s = v) (hown : w.ownsRow base e size v n xs)
    (ad : Addr) (m c : Nat) (news : List Value) (hx : a.eval x = .slice (some ad) m c) (hn : news.length = m * size) (hc : ∀ j u, news[j]? = some u → w.cell? (ad.add j) = some u) (h1c : ∀ u ∈ news, u.oneCell' = true)
    (b1 : n + m ≤ maxLen) (b2 : (n + m) * bytes ≤ 140737488355328) (hbase : base ≤ w.heap.size)
    (hK : ∀ v' w', w'.ownsRow base e size v' (n + m) (xs ++ news) → w.grownBy w' v.ownBlock → (v'.ownBlock = v.ownBlock ∨ v'.ownBlock = some w.heap.size) → K (a.put o.dst v') w') :
    if Region.wanted o (yielded ops a.tmps) = true then Oper.wp P o a w K Q else E := by
  have hw : Region.wanted o (yielded ops a.tmps) = true := by simp [Region.wanted, hg]
  rw [if_pos hw]
  obtain ⟨v', w', hrun, r1, r2, _, r4⟩ := run_append_own_at (P := P) w base t o.type e i z size bytes h1 h2 h3 h4 h5 h6 h7 v n xs hown ad m c news hn hc h1c b1 b2 hbase
  unfold Oper.wp
  simp [execOp, hop, resolve, invoke, builtin, hs, hx, hrun, Result.andThen]
  exact hK v' w' r1 r2 r4
theorem own_shape {w : World} {B e size n : Nat} {v : Value} {xs : List Value} (h : w.ownsRow B e size v n xs) (h0 : 0 < n) : ∃ g cap, v = .slice (some ⟨g, 0, none⟩) n cap := by
  rcases h.2 with ⟨_, e⟩ | ⟨g, cap, cur, e, _⟩
  · omega
  · exact ⟨g, cap, e⟩
theorem Off.setNew {K : Nat → Prop} {w w' : World} (h : Off K w w') {a : Addr} (ha : w.heap.size ≤ a.block) (u : Value) : Off K w (w'.setCell a u) :=
  ⟨h.os, h.tape, h.output, by simpa using h.size, fun k hk hn => (Below.heap_setCell _ _ _ _ (by omega)).trans (h.block k hk hn)⟩
theorem cells_two_new (w : World) (q n : Int) (t : TypeId) : ∀ j u, (flat [(q, n)])[j]? = some u → (w.alloc (.cells #[.int .i64 q, .int .i64 n] t)).cell? ((⟨w.heap.size, 0, none⟩ : Addr).add j) = some u := by
  intro j u hj
  match j, hj with
  | 0, hj => simp [flat, encR] at hj; subst hj; simp [Addr.add]
  | 1, hj => simp [flat, encR] at hj; subst hj; simp [Addr.add]
  | j + 2, hj => simp [flat, encR] at hj

set_option maxRecDepth 100000 in
set_option maxHeartbeats 2000000 in
theorem issue_yes {w : World} {B sb bm : Nat} {v : Value} {L : Int} {ns : List Int} {ls : List R} (h : Obj w B sb bm v L ns ls) (n : Int) (hb : nameB n = true) (hn : n ∉ ns) (hf : fullB L ns ls = false) : Calls Tryd.prog 7 #[.pointer (some ⟨sb, 0, none⟩), .int .i64 n] w fun e w' => e = .returned (.tuple #[.agg #[.int .i64 (ns.length : Int), .int .i64 n], .nilIface]) ∧ ∃ v', Obj w' B sb bm v' L (ns ++ [n]) (ls ++ [((ns.length : Int), n)]) ∧ Off (own sb bm v) w w' ∧ (v'.ownBlock = v.ownBlock ∨ ∃ k, v'.ownBlock = some k ∧ w.heap.size ≤ k) := by
  have hs := h.lt (k := sb) (.inl rfl)
  have hO := h
  have bel : Below w.heap.size w (w.alloc (.cells #[.int .i64 0, .int .i64 0] 29)) := (Below.refl _ _).alloc (Nat.le_refl _) _
  have hcon := isFull_calls (h.below bel)
  rw [hf] at hcon
  have hroom : (ls.length : Int) < L ∧ ns.length < 100 := by simp [fullB] at hf; omega
  obtain ⟨inv, c0, c1, c2, f2, ⟨D, hD, hN⟩, row, _⟩ := h
  have hh : Maps.has D (.int .i64 n) = false := by rw [hN.has]; simpa using hn
  have hkey := Maps.keyOf_int_mk Tryd.underlying3 (wf_name hb)
  have c1' := (bel.cell (p := ⟨sb, 1, none⟩) hs).trans c1
  have hX := IdBox.new w 0 0 29
  have hT := hD.tidy lawI
  go_enter Tryd.func7, Tryd.ntmps7
  go_wp2_with (first | (go_at_call 17; refine (isName_calls n _).mono ?_; rintro e w1 ⟨rfl, rfl⟩; rw [hb]) | (at_lookup; refine wpList_lookup_own_ok_int _ rfl _ _ 49 rfl 3 3 .i64 lawI Tryd.underlying49 Tryd.underlying3 (zeroI _) bm _ D rfl (hD.alloc _) _ _ rfl hkey ?_; intro c hat hwc) | (go_at_call 18; refine hcon.mono ?_; rintro e w1 ⟨rfl, hb1⟩; have hb2 := bel.trans (hb1.mono bel.size); have hX1 := hX.below hb1; have hO1 := hO.below hb2; have k1 := hO1.c1) | (at_len; refine wpList_len_own _ rfl _ 49 rfl 3 3 Tryd.underlying49 _ bm _ D rfl ((Off.of_below (K := fun _ => False) hb2).map hD id) ?_; rw [hN.size]))
  have hY1 : IdBox (w1.alloc (.cells #[.int .i64 (ns.length : Int), .int .i64 n] 29)) w1.heap.size (ns.length : Int) n := IdBox.new _ _ _ _
  have ba : Below w1.heap.size w1 (w1.alloc (.cells #[.int .i64 (ns.length : Int), .int .i64 n] 29)) := (Below.refl _ _).alloc (Nat.le_refl _) _
  have hX2 := hX1.below ba
  have hO2 := hO1.below ba
  have hb3 := hb2.trans (ba.mono hb2.size)
  have hXY : w.heap.size < w1.heap.size := hX1.lt
  generalize w1.heap.size = Y at hY1 hXY ⊢
  generalize w1.alloc (.cells #[.int .i64 (ns.length : Int), .int .i64 n] 29) = W at hY1 hX2 hO2 hb3 ⊢
  have hD2 := (Off.of_below (K := fun _ => False) hb3).map hD id
  have hXo : ∀ k, own sb bm v k → k < w.heap.size := fun k hk => hO.lt hk
  have hlen : ns.length < 100 := hroom.2
  have hmany : ls.length ≤ 8 := by have := inv.full; have := inv.l8; omega
  have INV1 : Hid (Inv L (ns ++ [n]) ls) := inv.more hn hlen
  have INV2 : Hid (Inv L (ns ++ [n]) (ls ++ [((ns.length : Int), n)])) := inv.issue hn hroom.1 hlen
  have NAM : Hid (Names (D.put (.int .i64 n) (.lit (.int .i64 (ns.length : Int)))) (ns ++ [n])) := hN.put hT hn
  have NSL : Hid ((ns ++ [n]).length = ns.length + 1) := by show (ns ++ [n]).length = ns.length + 1; simp
  have LSL : Hid ((ls ++ [((ns.length : Int), n)]).length = ls.length + 1) := by show (ls ++ [((ns.length : Int), n)]).length = ls.length + 1; simp
  have FL : Hid (flat (ls ++ [((ns.length : Int), n)]) = flat ls ++ flat [((ns.length : Int), n)]) := flat_append _ _
  have hle := hO.le
  obtain ⟨a, cap, rfl⟩ : ∃ a cap, v = .slice a ls.length cap := by
    rcases row.2 with ⟨rfl, e⟩ | ⟨g, cap, cur, rfl, _⟩
    · exact ⟨none, 0, by rw [e]⟩
    · exact ⟨_, _, rfl⟩
  clear hcon hh hN hT hat hwc hb1 hX1 hO1 k1 hb2 ba hX hD hO bel c1' inv row c0 c1 c2 f2 hn hf hroom hs
  obtain ⟨w2, hrun, hm2, ht2⟩ := World.ownsMap.store (w := W.drew) hD2.drew lawI Tryd.underlying49 (by unfold maxLen; omega) hkey (plainElem_int Tryd.underlying3 (WalkArith.wf_i64 (n := (ns.length : Int)) (by omega)))
  have O2 : Off (fun k => k = bm) W w2 := (Off.refl _ W).drew.trans (Off.of_grown ht2.grown (fun k e => (Option.some.inj e).symm))
  have hO3 := hO2.name O2 (by rw [NSL.out]; exact hm2) NAM.out INV1.out
  have hbw : bm < w.heap.size := hXo bm (.inr (.inl rfl))
  have hsw : sb < w.heap.size := hXo sb (.inl rfl)
  have hX3 := hX2.off O2 (by omega)
  have hY3 := hY1.off O2 (by omega)
  have cM := hO2.c1
  have cY := hY1.c0
  have HO2 : Hid (Obj W B sb bm (.slice a ls.length cap) L ns ls) := hO2
  have HY1 : Hid (IdBox W Y (ns.length : Int) n) := hY1
  have HB3 : Hid (Below w.heap.size w W) := hb3
  clear hO2 hY1 hX2 hb3 hm2 ht2 hD2
  go_region
  all_goals clear hrun cM cY
  all_goals go_wp2_with fail
  have c2 := hO3.c2
  have c2a := (((Below.refl w2.heap.size w2).alloc (Nat.le_refl _) (.cells #[.int .i64 (ns.length : Int), .int .i64 n] 29)).cell (p := ⟨sb, 2, none⟩) (hO3.lt (.inl rfl))).trans c2
  have y0 := hY3.c0
  have y1 := hY3.c1
  have hrow : (w2.drew.alloc (.cells #[.int .i64 (ns.length : Int), .int .i64 n] 29)).ownsRow B 29 2 (.slice a ls.length cap) ls.length (flat ls) := own_below (w := w2) hO3.row ((Below.refl w2.heap.size w2).drew.alloc (Nat.le_refl _) _)
  have bd : Below w2.heap.size w2 (w2.drew.alloc (.cells #[.int .i64 (ns.length : Int), .int .i64 n] 29)) := (Below.refl w2.heap.size w2).drew.alloc (Nat.le_refl _) _
  have hO3d := hO3.below bd
  obtain ⟨i0, hi0, hz0, hz1, hz2⟩ := info_parts infoR
  go_region_law (refine step_append_own rfl (.tmp 48) (.tmp 50) 34 rfl B 29 i0 _ 2 16 Tryd.underlying34 hi0 hz0 hz1 hz2 rfl (by decide) (.slice a ls.length cap) ls.length (flat ls) (by simp [Act.eval, Act.put]) hrow ⟨w2.heap.size, 0, none⟩ 1 1 (flat [((ns.length : Int), n)]) (by simp [Act.eval, Act.put]) rfl (cells_two_new w2.drew _ _ _) (fun u hu => flat_one u hu) (by unfold maxLen; omega) (by omega) hO3d.le ?_; intro v' w3 ho3 hg3 hl3; obtain ⟨g3, cap3, rfl⟩ := own_shape ho3 (by omega); have og := Off.of_grown (K := fun k => (Value.slice a ls.length cap).ownBlock = some k) hg3 (fun k e => e); have d2 := og.cell hO3d.c2 (fun e => (hO3d.nv sb e).1 rfl); have df := (og.frozen (p := ⟨sb, 2, none⟩) (hO3d.lt (.inl rfl)) (fun e => (hO3d.nv sb e).1 rfl)).trans hO3d.f2)
  all_goals
    have og2 : Off (fun k => (Value.slice a ls.length cap).ownBlock = some k) w2 w3 := (Off.of_below bd).trans og
    have hnew : (Value.slice (some ⟨g3, 0, none⟩) (ls.length + 1) cap3).ownBlock = (Value.slice a ls.length cap).ownBlock ∨ w2.heap.size ≤ g3 := hl3.imp id (fun e => by injection e with e; have e : g3 = _ := e; rw [e]; exact bd.size)
    have hP := hO3.put og2 (v' := .slice (some ⟨g3, 0, none⟩) (ls.length + 1) cap3) (by rw [LSL.out, FL.out]; exact ho3) (fun k hk => by
      rcases hnew with e | e
      · exact .inl (e.symm.trans hk)
      · right; injection hk with hk; have hk : g3 = k := hk; omega) INV2.out
    have oS : Off (own sb bm (.slice a ls.length cap)) w2 (w3.setCell ⟨sb, 2, none⟩ (.slice (some ⟨g3, 0, none⟩) (ls.length + 1) cap3)) := (og2.mono (fun k _ e => .inr (.inr e))).setCell (.inl rfl) _
    have hX5 := hX3.off oS (fun e => by have := hXo _ e; omega)
    have hY5 := hY3.off oS (fun e => by have := hXo _ e; omega)
    have oW : Off (own sb bm (.slice a ls.length cap)) w (w3.setCell ⟨sb, 2, none⟩ (.slice (some ⟨g3, 0, none⟩) (ls.length + 1) cap3)) := ((Off.of_below HB3.out).trans (O2.mono (fun k _ e => .inr (.inl e)))).trans oS
    have hsz : w.heap.size < w2.heap.size := hX3.lt
    have hnewk : ∀ k, own sb bm (.slice (some ⟨g3, 0, none⟩) (ls.length + 1) cap3) k → k ≠ w.heap.size := fun k hk => by
      rcases hk with rfl | rfl | hk
      · omega
      · omega
      · rcases hnew with e | e
        · have := hXo k (.inr (.inr (e.symm.trans hk))); omega
        · injection hk with hk; have hk : g3 = k := hk; omega
    have hnew2 : (Value.slice (some ⟨g3, 0, none⟩) (ls.length + 1) cap3).ownBlock = (Value.slice a ls.length cap).ownBlock ∨ ∃ k, (Value.slice (some ⟨g3, 0, none⟩) (ls.length + 1) cap3).ownBlock = some k ∧ w.heap.size ≤ k := hnew.imp id (fun e => ⟨g3, rfl, by omega⟩)
    clear c2 c2a y0 y1 hrow bd hO3d hg3 ho3 hl3 og d2 df hX3 hY3 oS og2 hnew hO3 O2
    generalize w3.setCell ⟨sb, 2, none⟩ (.slice (some ⟨g3, 0, none⟩) (ls.length + 1) cap3) = W4 at hP hX5 hY5 oW ⊢
    have hX6 := hX5.set (ns.length : Int) n
    obtain ⟨xl, x0, x1, xf0, xf1⟩ := hX5
    obtain ⟨yl, y0, y1, yf0, yf1⟩ := hY5
    go_wp2
    (try simp only [Exit.inBlock, Exit.then])
    refine bodyPost_ret (v := .tuple #[.agg #[.int .i64 (ns.length : Int), .int .i64 n], .nilIface]) ?_ rfl ⟨rfl, ?_⟩
    · rw [results_cell_tmp rfl]; go_simp
    · refine ⟨_, hP.off (K := fun k => k = w.heap.size) (((Off.refl _ _).setCell (K := fun k => k = w.heap.size) rfl _).setCell (K := fun k => k = w.heap.size) rfl _) hnewk, (oW.setNew (Nat.le_refl _) _).setNew (Nat.le_refl _) _, hnew2⟩
end Go.Proofs.YtlmllfakoglbcaaDoor
