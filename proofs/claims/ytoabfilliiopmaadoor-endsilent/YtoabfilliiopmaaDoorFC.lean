/- What rangesOf and numsOf answer. -/
import Derived.Test.YtoabfilliiopmaaDoorFB
import Derived.Test.YtoabfilliiopmaaDoorFY
import Derived.Test.YtoabfilliiopmaaDoorT
namespace Go.Proofs.YtoabfilliiopmaaDoor
open Go.RowKit Go.Shelf Go.Lib
attribute [local go_sem] Oper.semAt_some
set_option linter.unusedVariables false
set_option linter.unusedSimpArgs false


theorem cell_grown_ne {W W' : World} {row : Option Nat} {b o : Nat} {v : Value} (h : W.cell? ⟨b, o, none⟩ = some v) (hg : W.grownBy W' row) (hlt : b < W.heap.size) (hne : some b ≠ row) : W'.cell? ⟨b, o, none⟩ = some v := by
  rw [← h]; unfold World.cell?; rw [hg.block b hlt hne]
def rgAt (ns : List Int) (x : Nat) : R := (ns[2 * x + 1]?.getD 0, ns[2 * x]?.getD 0)
theorem rgs_range : ∀ (M : Nat) (ns : List Int), ns.length = 2 * M → (List.range M).map (rgAt ns) = rgs ns := by
  intro M
  induction M with
  | zero =>
    intro ns h
    obtain rfl : ns = [] := List.eq_nil_of_length_eq_zero (by omega)
    rfl
  | succ M ih =>
    intro ns h
    match ns, h with
    | [], h => simp at h
    | [a], h => simp at h; omega
    | a :: b :: ns, h =>
      rw [List.range_succ_eq_map, List.map_cons, List.map_map]
      simp only [rgs]
      rw [← ih ns (by simp at h; omega)]
      congr 1

set_option maxRecDepth 100000 in
set_option maxHeartbeats 4000000 in
theorem rangesOf_some (g off M L C : Nat) (ns : List Int) (w : World) (hLM : L = 2 * M) (hM12 : M ≤ 12) (hLC : L ≤ C) (hlen : ns.length = L) (hg : g < w.heap.size) (hcc : ICells w g off ns) :
    Calls Tryd.prog 52 #[.slice (some ⟨g, off, none⟩) L C] w fun e w' => ∃ v, e = .returned v ∧ Row w' v (rgs ns) ∧ Fits v ∧ Below w.heap.size w w' := by
  refine (callsIn_wide (n := 5)).1 ?_
  have hfc : Fence.wide.fn 56 := trivial
  have HLM : Hid (L = 2 * M) := hLM
  have HLC : Hid (L ≤ C) := hLC
  have HM12 : Hid (M ≤ 12) := hM12
  have HLen : Hid (ns.length = L) := hlen
  have Hg : Hid (g < w.heap.size) := hg
  have CC : Hid (ICells w g off ns) := hcc
  clear hlen hg hcc hLM hLC hM12
  refine callsIn_of_wp_marks Tryd.func52 rfl trivial ?_ rfl
  simp only [Tryd.ntmps52, List.size_toArray, List.length_cons, List.length_nil, Nat.reduceAdd, Nat.reduceSub, Array.replicate_succ, Array.replicate_zero, List.push_toArray, List.append_toArray, List.nil_append, List.cons_append]
  gi_wp2_with (gi_at_call 56; refine (chunk_in 4 _ _ _ _).mono ?_; rintro e w' ⟨rfl, rfl⟩)
  have kO0 : Boxed (((w.alloc (.cells #[.slice none 0 0] 35)).alloc (.cells #[.slice (some ⟨g, off, none⟩) L C] 31)).alloc (.cells #[.int .i64 2] 3)) w.heap.size 35 (.slice none 0 0) := ((Boxed.new w 35 _).alloc _).alloc _
  have bS : Boxed (((w.alloc (.cells #[.slice none 0 0] 35)).alloc (.cells #[.slice (some ⟨g, off, none⟩) L C] 31)).alloc (.cells #[.int .i64 2] 3)) (w.heap.size + 1) 31 (.slice (some ⟨g, off, none⟩) L C) := by
    have := (Boxed.new (w.alloc (.cells #[.slice none 0 0] 35)) 31 (.slice (some ⟨g, off, none⟩) L C)).alloc (.cells #[.int .i64 2] 3)
    rwa [World.size_alloc] at this
  have bN : Boxed (((w.alloc (.cells #[.slice none 0 0] 35)).alloc (.cells #[.slice (some ⟨g, off, none⟩) L C] 31)).alloc (.cells #[.int .i64 2] 3)) (w.heap.size + 2) 3 (.int .i64 2) := by
    have := Boxed.new ((w.alloc (.cells #[.slice none 0 0] 35)).alloc (.cells #[.slice (some ⟨g, off, none⟩) L C] 31)) 3 (.int .i64 2)
    rwa [World.size_alloc, World.size_alloc] at this
  have hB30 : Below w.heap.size w (((w.alloc (.cells #[.slice none 0 0] 35)).alloc (.cells #[.slice (some ⟨g, off, none⟩) L C] 31)).alloc (.cells #[.int .i64 2] 3)) := (((Below.refl _ w).alloc (Nat.le_refl _) _).alloc (by simp) _).alloc (by simp; omega) _
  have sz3 : (((w.alloc (.cells #[.slice none 0 0] 35)).alloc (.cells #[.slice (some ⟨g, off, none⟩) L C] 31)).alloc (.cells #[.int .i64 2] 3)).heap.size = w.heap.size + 3 := by simp
  generalize ((w.alloc (.cells #[.slice none 0 0] 35)).alloc (.cells #[.slice (some ⟨g, off, none⟩) L C] 31)).alloc (.cells #[.int .i64 2] 3) = W3 at *
  refine wpIn_rangeFunc_ownG rfl (by decide) (gf := 61) (lb := #[.pointer (some ⟨w.heap.size + 1, 0, none⟩), .pointer (some ⟨w.heap.size + 2, 0, none⟩)]) rfl trivial (enters_of Tryd.func61 (by kernel_rfl) rfl)
    (chunk_stops (5 - 1) (by decide) g off M L C (w.heap.size + 1) (w.heap.size + 2) HLM.out (by have := HM12.out; omega) HLC.out W3 (by omega) (by omega) ⟨bS.cell, bN.cell⟩)
    (fun h k hR => k (h hR)) (KpH.put (w := W3)) (Below.refl _ _) (fun _ => rfl)
    (fun (pre : List (Ix M)) W => (∃ v, Boxed W w.heap.size 35 v ∧ W.ownsRow w.heap.size 67 2 v pre.length (flat (pre.map (fun y => rgAt ns y.1))) ∧ True) ∧ Boxed W (w.heap.size + 1) 31 (.slice (some ⟨g, off, none⟩) L C) ∧ Boxed W (w.heap.size + 2) 3 (.int .i64 2) ∧ Below w.heap.size w W)
    (fun _ _ _ => False)
    (OwnFrom.and (Own.from (holdsRow_own w.heap.size w.heap.size 35 67 2 (fun pre : List (Ix M) => pre.length) (fun pre : List (Ix M) => flat (pre.map (fun y => rgAt ns y.1))) (fun _ _ => True)) _) (OwnFrom.and (Own.from (boxed_own _ _ _) _) (OwnFrom.and (Own.from (boxed_own _ _ _) _) (ownFrom_below (Nat.le_refl _) (by omega)))))
    (fun _ _ _ _ _ hs _ _ => hs)
    ⟨⟨_, kO0, World.ownsRow_nil _ _ _ _, trivial⟩, bS, bN, hB30⟩
    (fun x => { tmps := #[.slice (some ⟨g, off, none⟩) L C, undef, .slice none 0 0, .pointer (some ⟨w.heap.size, 0, none⟩), .slice (some ⟨g, off + 2 * x.1, none⟩) 2 2, .slice (some ⟨g, off, none⟩) L C, .func (.func 61) #[] #[.pointer (some ⟨w.heap.size + 1, 0, none⟩), .pointer (some ⟨w.heap.size + 2, 0, none⟩)], .slice (some ⟨g, off + 2 * x.1, none⟩) 2 2, undef, undef, undef, undef, undef, undef, undef, undef, undef, undef, undef], defers := [] }) ?assign ?body ?done ?stop
  all_goals clear kO0 bS bN hB30
  case assign =>
    intro l x W K hK
    clear sz3
    gi_wp2
    exact hK
  case body =>
    rintro l pre ⟨x, hx⟩ W ⟨⟨v, kO, kr, _⟩, kS, kN, hB⟩ hpl
    have hx : x < M := hx
    have hxl : 2 * x + 1 < ns.length := by have := HLen.out; have := HLM.out; omega
    have cx0 := CC.out (2 * x) (by omega)
    have cx1 := CC.out (2 * x + 1) hxl
    rw [← Nat.add_assoc] at cx1
    have z0 := (hB.cell (p := ⟨g, off + 2 * x, none⟩) Hg.out).trans cx0
    have z1 := (hB.cell (p := ⟨g, off + 2 * x + 1, none⟩) Hg.out).trans cx1
    have HS : Hid ((pre ++ [(⟨x, hx⟩ : Ix M)]).map (fun y => rgAt ns y.1) = pre.map (fun y => rgAt ns y.1) ++ [(ns[2 * x + 1]?.getD 0, ns[2 * x]?.getD 0)]) := by
      show _ = _
      rw [List.map_append]; rfl
    have hpl' : pre.length < 12 := by have := HM12.out; omega
    have HPL : Hid (pre.length < 12) := hpl'
    have SZ3 : Hid (W3.heap.size = w.heap.size + 3) := sz3
    clear cx0 cx1 hpl hpl' sz3 hxl
    generalize ns[2 * x]?.getD 0 = na at *
    generalize ns[2 * x + 1]?.getD 0 = nb at *
    have kOd : Boxed W.drew w.heap.size 35 v := kO
    have krd : W.drew.ownsRow w.heap.size 67 2 v pre.length (flat (pre.map (fun y => rgAt ns y.1))) := kr
    have kSd : Boxed W.drew (w.heap.size + 1) 31 (.slice (some ⟨g, off, none⟩) L C) := kS
    have kNd : Boxed W.drew (w.heap.size + 2) 3 (.int .i64 2) := kN
    have hBd : Below w.heap.size w W.drew := hB.drew
    have KOd : KeepsOthers W W.drew := ⟨Nat.le_refl _, fun _ _ h _ => h⟩
    have y0 : W.drew.cell? ⟨g, off + 2 * x, none⟩ = some (.int .i64 na) := z0
    have y1 : W.drew.cell? ⟨g, off + 2 * x + 1, none⟩ = some (.int .i64 nb) := z1
    have y2 := kOd.cell
    obtain ⟨i0, hi0, hz0, hz1, hz2⟩ := info_parts infoR
    have HI : Hid (Tryd.prog.info? 67 = some i0 ∧ i0.zero = some (.agg #[.int .i64 0, .int .i64 0]) ∧ i0.size = 2 ∧ i0.bytes = 16) := ⟨hi0, hz0, hz1, hz2⟩
    have hgd : g < W.drew.heap.size := Nat.lt_of_lt_of_le Hg.out hBd.size
    have hbd : w.heap.size < W.drew.heap.size := kOd.lt
    clear hi0 hz0 hz1 hz2 kO kr kS kN hB z0 z1
    gi_wp2
    refine region_round_held (fun X => X.cell? ⟨g, off + 2 * x, none⟩ = some (.int .i64 na) ∧ X.cell? ⟨g, off + 2 * x + 1, none⟩ = some (.int .i64 nb)) (by kernel_rfl) (by kernel_rfl) ⟨y0, y1⟩ (fun hHeld => ?_)
    clear y0 y1
    have hszd : W.drew.heap.size = W.heap.size := rfl
    generalize W.drew = Wd at *
    refine wpAnyH_take (i := 1) (oi := { dst := some 9, op := Op.move (Operand.tmp 4), type := 31, pos := "frame.go:57", after := #[], guard := none }) (v := (.slice (some ⟨g, off + 2 * x, none⟩) 2 2)) rfl (by kernel_rfl) (by kernel_rfl) (by kernel_rfl) Quiet.panic (Or.inl ⟨by rfl, ?_⟩) (by assumption) ?_
    · intro wx hSw
      obtain ⟨s0, s1⟩ := hSw
      go_simp
    try simp only [Act.put, List.setIfInBounds_toArray, List.set_cons_zero, List.set_cons_succ]
    refine wpAnyH_take (i := 2) (oi := { dst := some 10, op := Op.indexAddr 31 (Operand.tmp 9) (Operand.const (Value.int IntKind.i64 0)), type := 0, pos := "frame.go:57", after := #[{ on := 1, ground := Ground.data }], guard := none }) (v := (.pointer (some ⟨g, off + 2 * x, none⟩))) rfl (by kernel_rfl) (by kernel_rfl) (by kernel_rfl) Quiet.panic (Or.inl ⟨by rfl, ?_⟩) (by assumption) ?_
    · intro wx hSw
      obtain ⟨s0, s1⟩ := hSw
      go_simp
    try simp only [Act.put, List.setIfInBounds_toArray, List.set_cons_zero, List.set_cons_succ]
    refine wpAnyH_take (i := 3) (oi := { dst := some 11, op := Op.load 3 (Operand.tmp 10), type := 3, pos := "frame.go:57", after := #[{ on := 2, ground := Ground.data }], guard := none }) (v := (.int .i64 na)) rfl (by kernel_rfl) (by kernel_rfl) (by kernel_rfl) Quiet.panic (Or.inl ⟨by rfl, ?_⟩) (by assumption) ?_
    · intro wx hSw
      obtain ⟨s0, s1⟩ := hSw
      go_simp
    try simp only [Act.put, List.setIfInBounds_toArray, List.set_cons_zero, List.set_cons_succ]
    refine wpAnyH_take (i := 4) (oi := { dst := some 12, op := Op.move (Operand.tmp 4), type := 31, pos := "frame.go:57", after := #[], guard := none }) (v := (.slice (some ⟨g, off + 2 * x, none⟩) 2 2)) rfl (by kernel_rfl) (by kernel_rfl) (by kernel_rfl) Quiet.panic (Or.inl ⟨by rfl, ?_⟩) (by assumption) ?_
    · intro wx hSw
      obtain ⟨s0, s1⟩ := hSw
      go_simp
    try simp only [Act.put, List.setIfInBounds_toArray, List.set_cons_zero, List.set_cons_succ]
    refine wpAnyH_take (i := 5) (oi := { dst := some 13, op := Op.indexAddr 31 (Operand.tmp 12) (Operand.const (Value.int IntKind.i64 1)), type := 0, pos := "frame.go:57", after := #[{ on := 4, ground := Ground.data }], guard := none }) (v := (.pointer (some ⟨g, off + 2 * x + 1, none⟩))) rfl (by kernel_rfl) (by kernel_rfl) (by kernel_rfl) Quiet.panic (Or.inl ⟨by rfl, ?_⟩) (by assumption) ?_
    · intro wx hSw
      obtain ⟨s0, s1⟩ := hSw
      go_simp
    try simp only [Act.put, List.setIfInBounds_toArray, List.set_cons_zero, List.set_cons_succ]
    refine wpAnyH_take (i := 6) (oi := { dst := some 14, op := Op.load 3 (Operand.tmp 13), type := 3, pos := "frame.go:57", after := #[{ on := 5, ground := Ground.data }], guard := none }) (v := (.int .i64 nb)) rfl (by kernel_rfl) (by kernel_rfl) (by kernel_rfl) Quiet.panic (Or.inl ⟨by rfl, ?_⟩) (by assumption) ?_
    · intro wx hSw
      obtain ⟨s0, s1⟩ := hSw
      go_simp
    try simp only [Act.put, List.setIfInBounds_toArray, List.set_cons_zero, List.set_cons_succ]
    refine wpAnyH_take (i := 7) (oi := { dst := some 15, op := Op.build 67 #[(1, Operand.tmp 11), (0, Operand.tmp 14)], type := 67, pos := "frame.go:57", after := #[{ on := 3, ground := Ground.data }, { on := 6, ground := Ground.data }], guard := none }) (v := (.agg #[.int .i64 nb, .int .i64 na])) rfl (by kernel_rfl) (by kernel_rfl) (by kernel_rfl) Quiet.panic (Or.inl ⟨by rfl, ?_⟩) (by assumption) ?_
    · intro wx hSw
      obtain ⟨s0, s1⟩ := hSw
      go_simp
    try simp only [Act.put, List.setIfInBounds_toArray, List.set_cons_zero, List.set_cons_succ]
    have hcn := cells_rng Wd nb na
    have CS : Hid (∀ j u, [Value.int .i64 nb, Value.int .i64 na][j]? = some u → (Wd.alloc (.cells #[.int .i64 nb, .int .i64 na] 67)).cell? ((⟨Wd.heap.size, 0, none⟩ : Addr).add j) = some u) := hcn
    have y3 : (Wd.alloc (.cells #[.int .i64 nb, .int .i64 na] 67)).cell? ⟨w.heap.size, 0, none⟩ = some v := (World.cell?_alloc_lt _ _ _ hbd).trans y2
    clear hcn
    refine wpAnyH_ready (rs := [0, 8]) (by kernel_rfl) (by simp) ?_
    refine AllReadyH.cons (o := { dst := some 8, op := Op.load 35 (Operand.tmp 3), type := 35, pos := "frame.go:57", after := #[], guard := none }) rfl (fun K hK => ?_) (AllReadyH.cons (o := { dst := some 16, op := Op.buildSlice 35 1 #[(0, Operand.tmp 15)], type := 35, pos := "frame.go:57", after := #[{ on := 7, ground := Ground.data }], guard := none }) rfl (fun K hK => ?_) AllReadyH.nil)
    · go_simp
      refine hK.out _ _ hHeld (fun hHeld => ?_)
      clear hK K
      try simp only [Act.put, List.setIfInBounds_toArray, List.set_cons_zero, List.set_cons_succ]
      refine wpAnyH_ready (rs := [8]) (by kernel_rfl) (by simp) ?_
      refine AllReadyH.cons (o := { dst := some 16, op := Op.buildSlice 35 1 #[(0, Operand.tmp 15)], type := 35, pos := "frame.go:57", after := #[{ on := 7, ground := Ground.data }], guard := none }) rfl (fun K hK => ?_) AllReadyH.nil
      go_simp
      refine hK.out _ _ ?_ (fun hHeld => ?_)
      · exact ⟨(World.cell?_alloc_lt _ _ _ hgd).trans hHeld.1, (World.cell?_alloc_lt _ _ _ hgd).trans hHeld.2⟩
      clear hK K
      try simp only [Act.put, List.setIfInBounds_toArray, List.set_cons_zero, List.set_cons_succ]
      refine wpAnyH_ready (rs := [9]) (by kernel_rfl) (by simp) ?_
      refine AllReadyH.cons (o := { dst := some 17, op := Op.call { callee := Callee.builtin Builtin.append, args := #[Operand.tmp 8, Operand.tmp 16], argTypes := #[35, 35] }, type := 35, pos := "frame.go:57", after := #[{ on := 0, ground := Ground.data }, { on := 8, ground := Ground.data }], guard := none }) rfl (fun K hK => ?_) AllReadyH.nil
      refine step_append_own rfl (.tmp 8) (.tmp 16) 35 rfl w.heap.size 67 i0 _ 2 16 Tryd.underlying35 HI.out.1 HI.out.2.1 HI.out.2.2.1 HI.out.2.2.2 rfl (by decide) v pre.length _ (by simp [Act.eval]) (krd.alloc _) ⟨Wd.heap.size, 0, none⟩ 1 1 [Value.int .i64 nb, Value.int .i64 na] (by simp [Act.eval]) rfl CS.out (by intro u hu; simp at hu; rcases hu with rfl | rfl <;> rfl) (by have := HPL.out; unfold maxLen; omega) (by have := HPL.out; omega) (by simp; omega) ?_
      intro v' w4 hown' hgrow
      obtain ⟨hv1, hv2, hr2, hk2, hb2⟩ := kOd.appended (by decide) krd (Nat.le_of_lt hbd) (Nat.le_refl _) hown' hgrow
      have hc1 := hv1.cell
      have hf1 := hv1.frozen
      have hng : some g ≠ v.ownBlock := fun e => by have := (krd.lt g e.symm).1; have := Hg.out; omega
      have hga : g < (Wd.alloc (.cells #[.int .i64 nb, .int .i64 na] 67)).heap.size := by simp; omega
      refine hK.out _ _ ?_ (fun hHeld => ?_)
      · exact ⟨cell_grown_ne hHeld.1 hgrow hga hng, cell_grown_ne hHeld.2 hgrow hga hng⟩
      clear hK K
      try simp only [Act.put, List.setIfInBounds_toArray, List.set_cons_zero, List.set_cons_succ]
      have kS4 := ((kSd.alloc (.cells #[.int .i64 nb, .int .i64 na] 67)).kept hgrow (kSd.not_row (by decide) krd)).other (B' := w.heap.size) (by omega) v'
      have kN4 := ((kNd.alloc (.cells #[.int .i64 nb, .int .i64 na] 67)).kept hgrow (kNd.not_row (by decide) krd)).other (B' := w.heap.size) (by omega) v'
      have hgne : w.heap.size ≠ g := by have := Hg.out; omega
      refine wpAnyH_ready (rs := [10]) (by kernel_rfl) (by simp) ?_
      refine AllReadyH.cons (o := { dst := none, op := Op.store 35 (Operand.tmp 3) (Operand.tmp 17), type := 0, pos := "frame.go:57", after := #[{ on := 9, ground := Ground.data }, { on := 9, ground := Ground.chain }, { on := 0, ground := Ground.phase }, { on := 1, ground := Ground.phase }, { on := 2, ground := Ground.phase }, { on := 3, ground := Ground.phase }, { on := 4, ground := Ground.phase }, { on := 5, ground := Ground.phase }, { on := 6, ground := Ground.phase }, { on := 7, ground := Ground.phase }, { on := 8, ground := Ground.phase }, { on := 9, ground := Ground.phase }], guard := none }) rfl (fun K hK => ?_) AllReadyH.nil
      obtain ⟨av, nv, cv, rfl⟩ : ∃ a n c, v' = .slice a n c := by
        rcases hown'.2 with ⟨e, _⟩ | ⟨g', cap, cur, e, _⟩
        · exact ⟨_, _, _, e⟩
        · exact ⟨_, _, _, e⟩
      go_simp
      refine hK.out _ _ ⟨(World.cell?_setCell_far _ _ _ _ hgne).trans hHeld.1, (World.cell?_setCell_far _ _ _ _ hgne).trans hHeld.2⟩ (fun hHeld => ?_)
      clear hK K
      refine wpAnyH_done (by kernel_rfl) (Quiet.normal ?_) _
      clear hHeld
      refine ⟨(KOd.trans hk2).from _, fun _ => ⟨kS4.cell, kN4.cell⟩, ⟨_, hv2, ?_, trivial⟩, kS4, kN4, hBd.trans hb2⟩
      rw [HS.out, List.length_append, flat_append]; exact hr2
    · go_simp
      refine hK.out _ _ ?_ (fun hHeld => ?_)
      · exact ⟨(World.cell?_alloc_lt _ _ _ hgd).trans hHeld.1, (World.cell?_alloc_lt _ _ _ hgd).trans hHeld.2⟩
      clear hK K
      try simp only [Act.put, List.setIfInBounds_toArray, List.set_cons_zero, List.set_cons_succ]
      refine wpAnyH_ready (rs := [0]) (by kernel_rfl) (by simp) ?_
      refine AllReadyH.cons (o := { dst := some 8, op := Op.load 35 (Operand.tmp 3), type := 35, pos := "frame.go:57", after := #[], guard := none }) rfl (fun K hK => ?_) AllReadyH.nil
      go_simp
      refine hK.out _ _ ?_ (fun hHeld => ?_)
      · exact hHeld
      clear hK K
      try simp only [Act.put, List.setIfInBounds_toArray, List.set_cons_zero, List.set_cons_succ]
      refine wpAnyH_ready (rs := [9]) (by kernel_rfl) (by simp) ?_
      refine AllReadyH.cons (o := { dst := some 17, op := Op.call { callee := Callee.builtin Builtin.append, args := #[Operand.tmp 8, Operand.tmp 16], argTypes := #[35, 35] }, type := 35, pos := "frame.go:57", after := #[{ on := 0, ground := Ground.data }, { on := 8, ground := Ground.data }], guard := none }) rfl (fun K hK => ?_) AllReadyH.nil
      refine step_append_own rfl (.tmp 8) (.tmp 16) 35 rfl w.heap.size 67 i0 _ 2 16 Tryd.underlying35 HI.out.1 HI.out.2.1 HI.out.2.2.1 HI.out.2.2.2 rfl (by decide) v pre.length _ (by simp [Act.eval]) (krd.alloc _) ⟨Wd.heap.size, 0, none⟩ 1 1 [Value.int .i64 nb, Value.int .i64 na] (by simp [Act.eval]) rfl CS.out (by intro u hu; simp at hu; rcases hu with rfl | rfl <;> rfl) (by have := HPL.out; unfold maxLen; omega) (by have := HPL.out; omega) (by simp; omega) ?_
      intro v' w4 hown' hgrow
      obtain ⟨hv1, hv2, hr2, hk2, hb2⟩ := kOd.appended (by decide) krd (Nat.le_of_lt hbd) (Nat.le_refl _) hown' hgrow
      have hc1 := hv1.cell
      have hf1 := hv1.frozen
      have hng : some g ≠ v.ownBlock := fun e => by have := (krd.lt g e.symm).1; have := Hg.out; omega
      have hga : g < (Wd.alloc (.cells #[.int .i64 nb, .int .i64 na] 67)).heap.size := by simp; omega
      refine hK.out _ _ ?_ (fun hHeld => ?_)
      · exact ⟨cell_grown_ne hHeld.1 hgrow hga hng, cell_grown_ne hHeld.2 hgrow hga hng⟩
      clear hK K
      try simp only [Act.put, List.setIfInBounds_toArray, List.set_cons_zero, List.set_cons_succ]
      have kS4 := ((kSd.alloc (.cells #[.int .i64 nb, .int .i64 na] 67)).kept hgrow (kSd.not_row (by decide) krd)).other (B' := w.heap.size) (by omega) v'
      have kN4 := ((kNd.alloc (.cells #[.int .i64 nb, .int .i64 na] 67)).kept hgrow (kNd.not_row (by decide) krd)).other (B' := w.heap.size) (by omega) v'
      have hgne : w.heap.size ≠ g := by have := Hg.out; omega
      refine wpAnyH_ready (rs := [10]) (by kernel_rfl) (by simp) ?_
      refine AllReadyH.cons (o := { dst := none, op := Op.store 35 (Operand.tmp 3) (Operand.tmp 17), type := 0, pos := "frame.go:57", after := #[{ on := 9, ground := Ground.data }, { on := 9, ground := Ground.chain }, { on := 0, ground := Ground.phase }, { on := 1, ground := Ground.phase }, { on := 2, ground := Ground.phase }, { on := 3, ground := Ground.phase }, { on := 4, ground := Ground.phase }, { on := 5, ground := Ground.phase }, { on := 6, ground := Ground.phase }, { on := 7, ground := Ground.phase }, { on := 8, ground := Ground.phase }, { on := 9, ground := Ground.phase }], guard := none }) rfl (fun K hK => ?_) AllReadyH.nil
      obtain ⟨av, nv, cv, rfl⟩ : ∃ a n c, v' = .slice a n c := by
        rcases hown'.2 with ⟨e, _⟩ | ⟨g', cap, cur, e, _⟩
        · exact ⟨_, _, _, e⟩
        · exact ⟨_, _, _, e⟩
      go_simp
      refine hK.out _ _ ⟨(World.cell?_setCell_far _ _ _ _ hgne).trans hHeld.1, (World.cell?_setCell_far _ _ _ _ hgne).trans hHeld.2⟩ (fun hHeld => ?_)
      clear hK K
      refine wpAnyH_done (by kernel_rfl) (Quiet.normal ?_) _
      clear hHeld
      refine ⟨(KOd.trans hk2).from _, fun _ => ⟨kS4.cell, kN4.cell⟩, ⟨_, hv2, ?_, trivial⟩, kS4, kN4, hBd.trans hb2⟩
      rw [HS.out, List.length_append, flat_append]; exact hr2
  case done =>
    rintro D ys W hD hys ⟨⟨v, kO, kr, _⟩, kS, kN, hB⟩ hK
    rw [show ys.map (fun y => rgAt ns y.1) = rgs ns by rw [← rgs_range M ns (by have := HLen.out; have := HLM.out; omega), ← hys, List.map_map]; rfl] at kr
    have hyl : ys.length = M := by have := congrArg List.length hys; simpa using this
    rw [hyl] at kr
    have kOc := kO.cell
    have hDw : Hid (w.heap.size ≤ D) := by show _ ≤ _; omega
    have hBw : Hid (Below w.heap.size w W) := hB
    have hRow : Hid (Row (W.putObj D (.deferred none)) v (rgs ns)) := row_of_own (ownsRow_putObj kr _ hK rfl) (by
      have := own_length (zs := rgs ns) kr
      have := HM12.out
      omega)
    have hFit : Hid (Fits v) := fits_own kr
    clear hys kr kS kN hyl sz3 hB
    gi_wp2
    refine ⟨by simp, .inl ⟨_, _, rfl, run_takeDeferred hK, ?_⟩⟩
    exact ⟨_, results_tmp rfl _ _ _, v, rfl, hRow.out, hFit.out, hBw.out.trans (belowK_b (w := w) (Nat.le_refl _) W D _ _ hDw.out hK rfl rfl)⟩
  case stop =>
    rintro D c pre W _ _ h _
    exact h.elim

theorem rangesOf_calls (v : Value) (ns : List Int) (M : Nat) (w : World) (hR : IRow w v ns) (hM : ns.length = 2 * M) (h1 : 1 ≤ M) (h12 : M ≤ 12) :
    Calls Tryd.prog 52 #[v] w fun e w' => ∃ v', e = .returned v' ∧ Row w' v' (rgs ns) ∧ Fits v' ∧ Below w.heap.size w w' := by
  obtain ⟨ao, c, rfl, hl, hc, hz⟩ := hR
  rcases hz with h | ⟨b, off, rfl, hb, hC⟩
  · subst h; simp at hM; omega
  · exact rangesOf_some b off M _ c ns w hM h12 hc rfl hb hC

set_option maxRecDepth 100000 in
set_option maxHeartbeats 4000000 in
theorem numsOf_some (b off len cap : Nat) (zs : List R) (w : World) (hlen : zs.length = len) (h12 : len ≤ 12) (hb : b < w.heap.size) (hc : Cells w b off zs) :
    Calls Tryd.prog 46 #[.slice (some ⟨b, off, none⟩) len cap] w fun e w' => ∃ v', e = .returned v' ∧ OwnI w' w.heap.size v' (unr zs) ∧ Below w.heap.size w w' := by
  have HL : Hid (zs.length = len) := hlen
  have HC : Hid (Cells w b off zs) := hc
  clear hlen hc
  go_enter Tryd.func46, Tryd.ntmps46
  go_wp2_with fail
  go_loopw [3, 8] (fun v i wr => ∃ k : Nat, k ≤ len ∧ i = .int .i64 k ∧ OwnI wr w.heap.size v (unr (zs.take k)) ∧ Below w.heap.size w wr) (fun _ i _ => len - (intOf i).toNat)
  case atStart => exact ⟨0, Nat.zero_le _, rfl, World.ownsRow_nil _ _ _ _, Below.refl _ _⟩
  case round =>
    obtain ⟨k, hk, rfl, hown, hB⟩ := hrel
    by_cases hlt : k < len
    · have g1 : (k : Int) < (len : Int) := by omega
      have hkr : k < zs.length := by have := HL.out; omega
      obtain ⟨c0, c1⟩ := HC.out.below hb hB k hkr
      have HN : Hid (unr (zs.take (k + 1)) = unr (zs.take k) ++ [(at' zs k).2, (at' zs k).1]) := by
        show _ = _
        rw [take_at hkr, unr_append]; rfl
      have hul : (unr (zs.take k)).length ≤ 24 := by rw [unr_length, List.length_take]; omega
      clear hkr
      generalize at' zs k = y at *
      obtain ⟨lo, hi⟩ := y
      simp only at c0 c1 HN
      have bel1 : Below w.heap.size w (wr.alloc (.cells #[.int .i64 lo, .int .i64 hi] 67)) := hB.alloc hB.size _
      have own1 := hown.alloc (.cells #[.int .i64 lo, .int .i64 hi] 67)
      have HO : Hid (OwnI (wr.alloc (.cells #[.int .i64 lo, .int .i64 hi] 67)) w.heap.size u3 (unr (zs.take k))) := own1
      have hBs := hB.size
      have cs := cells_two (wr.alloc (.cells #[.int .i64 lo, .int .i64 hi] 67)) hi lo
      rw [World.size_alloc] at cs
      have CS : Hid (∀ j u, (ivs [hi, lo])[j]? = some u → ((wr.alloc (.cells #[.int .i64 lo, .int .i64 hi] 67)).alloc (.cells #[.int .i64 hi, .int .i64 lo] 3)).cell? ((⟨wr.heap.size + 1, 0, none⟩ : Addr).add j) = some u) := cs
      clear own1 hown cs
      go_wp2_with (at_builtin; refine append_ints rfl (.tmp 12) (.tmp 17) rfl w.heap.size _ (unr (zs.take k)) rfl (HO.out.alloc _) ⟨wr.heap.size + 1, 0, none⟩ 2 2 [hi, lo] rfl rfl CS.out (by simp; omega) (by simp; omega) ?_; intro v' w' hown' hgr)
      exact ⟨⟨k + 1, by omega, by go_num, by rw [HN.out]; exact hown', (bel1.alloc (by simp; omega) _).grown hgr (by simp; omega) (fun j e => (HO.out.lt j e).1)⟩, by simp [intOf]; omega⟩
    · have g1 : ¬ (k : Int) < (len : Int) := by omega
      obtain rfl : k = len := by omega
      have HE : Hid (zs.take k = zs) := by show _ = _; rw [← HL.out, List.take_length]
      rw [HE.out] at hown
      obtain ⟨a, c, rfl⟩ := hown.shape
      clear HE
      go_wp2_with fail
      go_ret
      exact ⟨_, rfl, hown, hB⟩
theorem numsOf_calls (v : Value) (zs : List R) (w : World) (hR : Row w v zs) (h12 : zs.length ≤ 12) (h0 : zs ≠ []) :
    Calls Tryd.prog 46 #[v] w fun e w' => ∃ v', e = .returned v' ∧ OwnI w' w.heap.size v' (unr zs) ∧ Below w.heap.size w w' := by
  obtain ⟨ao, c, rfl, hl, hn, hz⟩ := hR
  rcases hz with h | ⟨b, off, rfl, hb, hC⟩
  · exact absurd h h0
  · exact numsOf_some b off _ c zs w rfl h12 hb hC
end Go.Proofs.YtoabfilliiopmaaDoor
