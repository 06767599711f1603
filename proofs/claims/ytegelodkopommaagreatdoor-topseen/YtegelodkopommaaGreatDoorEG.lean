/- What keep leaves. -/
import Derived.Test.YtegelodkopommaaGreatDoorEF
import Derived.Laws.OwnMore
import Derived.Deep.AppendLies
import Derived.Great.Walk
import Derived.Deep.RegionHeld3
namespace Go.Proofs.YtegelodkopommaaGreatDoor
open Go.RowKit Go.Lib Go.Sort
set_option linter.unusedVariables false
set_option linter.unusedSimpArgs false


theorem keepL_nil (m a b : Nat) : keepL [] m a b = [] ++ [⟨m, m, a, b⟩] := rfl
theorem keepL_same {ls : List Ld} {x : Ld} {m a b : Nat} (h1 : x.a = a) (h2 : x.b = b) : keepL (ls ++ [x]) m a b = ls ++ [⟨x.lo, m, a, b⟩] := by
  unfold keepL
  rw [List.getLast?_concat]
  simp only [h1, h2, and_self, if_true, List.dropLast_concat]
theorem keepL_new {ls : List Ld} {x : Ld} {m a b : Nat} (h : ¬ (x.a = a ∧ x.b = b)) : keepL (ls ++ [x]) m a b = (ls ++ [x]) ++ [⟨m, m, a, b⟩] := by
  unfold keepL
  rw [List.getLast?_concat]
  simp only [h, if_false]
def hadF (a b : Nat) (i : Nat) : Bool := decide (a ≤ i ∧ i < b)
theorem lds1_brow (lo hi a b : Nat) : lds1 ⟨lo, hi, a, b⟩ = .int .i64 lo :: .int .i64 hi :: brow (hadF a b) := rfl
theorem had_same {a b c d : Nat} (h1 : a < b ∨ (a = 0 ∧ b = 0)) (h2 : c < d ∨ (c = 0 ∧ d = 0)) (hb : b ≤ 60) (hd : d ≤ 60) : ((List.range 60).all fun i => hadF a b i == hadF c d i) = decide (a = c ∧ b = d) := by
  by_cases h : a = c ∧ b = d
  · rw [decide_eq_true h, List.all_eq_true]
    obtain ⟨rfl, rfl⟩ := h
    intro i _
    simp
  · rw [decide_eq_false h, List.all_eq_false]
    have key : ∃ i, i < 60 ∧ hadF a b i ≠ hadF c d i := by
      rcases h1 with h1 | ⟨rfl, rfl⟩
      · rcases h2 with h2 | ⟨rfl, rfl⟩
        · by_cases e : a = c
          · subst e
            by_cases e2 : b < d
            · exact ⟨b, by omega, by unfold hadF; rw [decide_eq_false (by omega), decide_eq_true (by omega)]; decide⟩
            · exact ⟨d, by omega, by unfold hadF; rw [decide_eq_true (by omega), decide_eq_false (by omega)]; decide⟩
          · by_cases e2 : a < c
            · exact ⟨a, by omega, by unfold hadF; rw [decide_eq_true (by omega), decide_eq_false (by omega)]; decide⟩
            · exact ⟨c, by omega, by unfold hadF; rw [decide_eq_false (by omega), decide_eq_true (by omega)]; decide⟩
        · exact ⟨a, by omega, by unfold hadF; rw [decide_eq_true (by omega), decide_eq_false (by omega)]; decide⟩
      · rcases h2 with h2 | ⟨rfl, rfl⟩
        · exact ⟨c, by omega, by unfold hadF; rw [decide_eq_false (by omega), decide_eq_true (by omega)]; decide⟩
        · exact absurd ⟨rfl, rfl⟩ h
    obtain ⟨i, hi, hne⟩ := key
    exact ⟨i, by simpa using hi, by simpa using hne⟩
theorem yields_load {ops : Array Oper} {S : World → Prop} {op : Oper} {a : Act} {L : Array Value} {m : Int} {f : Nat → Bool} (hw : Region.wanted op (yielded ops a.tmps) = true) (x y : Operand) (ho : op.op = .build 116 #[(0, x), (1, y)]) (hx : a.eval x = .agg #[.int .i64 m, .int .i64 m]) (hy : a.eval y = .agg (brow f).toArray)
    (hb : ∀ W : World, (Instr.build 116 #[(0, .agg #[.int .i64 m, .int .i64 m]), (1, .agg (brow f).toArray)]).run Tryz.prog W = .ok (.agg L) W) : YieldsIf Tryz.prog ops S op (.agg L) a :=
  .inl ⟨hw, fun w _ => by
    unfold execOp
    simp only [ho, List.map_toArray, List.map_cons, List.map_nil, hx, hy, Sem.run_bind, hb, Result.andThen_ok, Sem.run_pure]⟩
theorem step_loads {ops : Array Oper} {o : Oper} {a : Act} {w : World} {K : Act → World → Prop} {Q : Exit → Act → World → Prop} {E : Prop} {L : Array Value} (hgd : o.guard = none) (x : Operand) (ho : o.op = .buildSlice 80 1 #[(0, x)]) (hx : a.eval x = .agg L)
    (hb : ∀ W : World, (Instr.buildSlice 80 1 #[(0, .agg L)]).run Tryz.prog W = .ok (.slice (some ⟨W.heap.size, 0, none⟩) 1 1) (W.alloc (.cells L 116))) (h : K (a.put o.dst (.slice (some ⟨w.heap.size, 0, none⟩) 1 1)) (w.alloc (.cells L 116))) :
    if Region.wanted o (yielded ops a.tmps) = true then Oper.wp Tryz.prog o a w K Q else E := by
  have hw : Region.wanted o (yielded ops a.tmps) = true := by simp [Region.wanted, hgd]
  rw [if_pos hw]
  unfold Oper.wp execOp
  simp only [ho, List.map_toArray, List.map_cons, List.map_nil, hx, Sem.run_bind, hb, Result.andThen_ok, Sem.run_pure]
  exact h
/-- What keep leaves: the loads are now ls. -/
structure KeepPost (w w' : World) (B eb : Nat) (vl vc : Value) (e : En) (vl' : Value) (ls : List Ld) : Prop where
  cl : ∀ i, i < 251 → w'.cell? ⟨eb, i, none⟩ = some (ecell e vl' vc i)
  fz : ∀ i, w'.frozen? ⟨eb, i, none⟩ = false
  ld : w'.ownsRow B 116 62 vl' ls.length (lds ls)
  cm : w'.ownsRow B 66 2 vc e.cm.length (flat e.cm)
  ap : vl'.ownBlock ≠ some eb
  off : Off (OwnE eb vl vc) w w'
  own : ∀ k, vl'.ownBlock = some k → vl.ownBlock = some k ∨ w.heap.size ≤ k
theorem ecell_vl {e : En} {vl vl' vc : Value} {i : Nat} (h : i ≠ 124) : ecell e vl' vc i = ecell e vl vc i := by
  unfold ecell
  simp only [h, if_false]
theorem loads_apart {w : World} {B B' n m : Nat} {u v : Value} {xs ys : List Value} (h : w.ownsRow B 116 62 u n xs) (h' : w.ownsRow B' 66 2 v m ys) : ∀ k, v.ownBlock = some k → u.ownBlock ≠ some k := by
  intro k hk hu
  rcases h.2 with ⟨rfl, _⟩ | ⟨g, cap, cur, rfl, _, hg, _⟩
  · cases hu
  · rcases h'.2 with ⟨rfl, _⟩ | ⟨g', cap', cur', rfl, _, hg', _⟩
    · cases hk
    · obtain rfl : g = k := by simpa [Value.ownBlock] using hu
      obtain rfl : g' = g := by simpa [Value.ownBlock] using hk
      rw [hg] at hg'
      cases hg'
theorem infoL : (Tryz.prog.info? 116).map (fun i => (i.zero, i.size, i.bytes)) = some (some (.agg (lds1 ⟨0, 0, 0, 0⟩).toArray), 62, 80) := by kernel_rfl
theorem build_load (m : Int) (f : Nat → Bool) (W : World) : (Instr.build 116 #[(0, .agg #[.int .i64 m, .int .i64 m]), (1, .agg (brow f).toArray)]).run Tryz.prog W = .ok (.agg (.int .i64 m :: .int .i64 m :: brow f).toArray) W := by kernel_rfl
theorem build_loads (m : Int) (f : Nat → Bool) (W : World) : (Instr.buildSlice 80 1 #[(0, .agg (.int .i64 m :: .int .i64 m :: brow f).toArray)]).run Tryz.prog W = .ok (.slice (some ⟨W.heap.size, 0, none⟩) 1 1) (W.alloc (.cells (.int .i64 m :: .int .i64 m :: brow f).toArray 116)) := by kernel_rfl
theorem KeepPost.grown {w X Y w' : World} {B eb n : Nat} {vl vc : Value} {e : En} {g cap m a b : Nat} (h : EO w B eb vl vc e) (hX : Below w.heap.size w X) (hg : X.grownBy Y vl.ownBlock)
    (ho : Y.ownsRow B 116 62 (.slice (some ⟨g, 0, none⟩) (n + 1) cap) (n + 1) (lds e.ls ++ lds1 ⟨m, m, a, b⟩)) (hn : n = e.ls.length) (hat : vl.ownBlock = some g ∨ g = X.heap.size) (hw : w' = Y.setCell ⟨eb, 124, none⟩ (.slice (some ⟨g, 0, none⟩) (n + 1) cap)) :
    KeepPost w w' B eb vl vc e (.slice (some ⟨g, 0, none⟩) (n + 1) cap) (e.ls ++ [⟨m, m, a, b⟩]) := by
  subst hn hw
  have hlt := h.lt
  have hltX : eb < X.heap.size := Nat.lt_of_lt_of_le hlt hX.size
  have hne : some eb ≠ vl.ownBlock := fun e => h.ap.1 e.symm
  have hgeb : g ≠ eb := by
    rcases hat with e | e
    · intro e'; subst e'; exact h.ap.1 e
    · omega
  have oY : Off (OwnE eb vl vc) w Y := (Off.of_below hX).trans (Off.of_grown hg fun k e => .inr (.inl e))
  refine ⟨fun i hi => ?_, fun i => ?_, ?_, ?_, ?_, oY.setCell (.inl rfl) _, ?_⟩
  · by_cases e1 : i = 124
    · subst e1
      rw [ecell_loads]
      refine World.cell?_setCell_same _ _ _ (show Y.cell? ⟨eb, 124, none⟩ = some vl from ?_)
      rw [hg.cell_far ⟨eb, 124, none⟩ hltX hne, hX.cell (p := ⟨eb, 124, none⟩) hlt, h.cl 124 (by omega), ecell_loads]
    · rw [ecell_vl (vl := vl) e1, World.cell?_setCell_other _ _ _ _ (fun e' => by injection e' with _ e' _; exact e1 e'.symm), hg.cell_far ⟨eb, i, none⟩ hltX hne, hX.cell (p := ⟨eb, i, none⟩) hlt]
      exact h.cl i hi
  · rw [World.frozen?_setCell, hg.frozen_far ⟨eb, i, none⟩ hltX hne, World.frozen?_of_block (hX.block eb hlt)]
    exact h.fz i
  · have h3 := ((Off.refl (fun k => k = eb) Y).setCell (a := ⟨eb, 124, none⟩) rfl (.slice (some ⟨g, 0, none⟩) (e.ls.length + 1) cap)).row ho (fun k hk e' => by
      subst e'
      simp [Value.ownBlock] at hk
      exact hgeb hk)
    have e5 : lds (e.ls ++ [⟨m, m, a, b⟩]) = lds e.ls ++ lds1 ⟨m, m, a, b⟩ := by simp [lds]
    rw [List.length_append, e5]
    exact h3
  · have h1 := own_below h.cm hX
    have h2 : Y.ownsRow B 66 2 vc e.cm.length (flat e.cm) := (Off.of_grown (K := fun k => vl.ownBlock = some k) hg fun k e => e).row h1 fun k hk => loads_apart h.ld h.cm k hk
    refine ((Off.refl (fun k => k = eb) Y).setCell (a := ⟨eb, 124, none⟩) rfl _).row h2 fun k hk e' => ?_
    subst e'
    exact h.ap.2 hk
  · intro e'
    simp [Value.ownBlock] at e'
    exact hgeb e'
  · intro k hk
    simp [Value.ownBlock] at hk
    subst hk
    rcases hat with e | e
    · exact .inl e
    · exact .inr (by rw [e]; exact hX.size)

set_option maxRecDepth 100000 in
set_option maxHeartbeats 4000000 in
theorem keep_nil {w : World} {B eb : Nat} {vl vc : Value} {e : En} (h : EO w B eb vl vc e) {a b m : Nat} (hm : e.m = m) (hl1000 : e.ls.length ≤ 1073741824) (h0 : e.ls = []) :
    Calls Tryz.prog 36 #[.pointer (some ⟨eb, 0, none⟩), .agg (brow (hadF a b)).toArray] w fun ex w' => ex = .returned (.tuple #[]) ∧ ∃ vl', KeepPost w w' B eb vl vc e vl' (e.ls ++ [⟨e.m, e.m, a, b⟩]) := by
  rw [hm]
  obtain ⟨f, hf⟩ : ∃ f, hadF a b = f := ⟨_, rfl⟩
  have HF : Hid (hadF a b = f) := hf
  rw [hf]
  clear hf
  obtain ⟨i0, hi0, hz0, hz1, hz2⟩ := info_parts infoL
  have HO : Hid (EO w B eb vl vc e) := h
  obtain ⟨ao, c, hvl⟩ := own_sh h.ld
  have HVL : Hid (vl = .slice ao e.ls.length c) := hvl
  have HLN : Hid (e.ls.length = 0) := by show _ = _; rw [h0]; rfl
  have hX0 : Below w.heap.size w (w.alloc (.cells (brow f).toArray 79)) := (Below.refl _ _).alloc (Nat.le_refl _) _
  have hra0 : (w.alloc (.cells (brow f).toArray 79)).rangeAt w.heap.size 0 (brow f) := range_new w 79 60 _
  have k124 := (hX0.cell (p := ⟨eb, 124, none⟩) h.lt).trans (h.cl 124 (by omega))
  rw [ecell_loads, hvl, h0] at k124
  simp only [List.length_nil] at k124
  have HNL : Hid (e.ls.length ≤ 1073741824) := hl1000
  rw [HLN.out] at HNL
  clear h hvl hl1000
  generalize hA : (brow f).toArray = arr at hX0 hra0 k124 ⊢
  go_enter Tryz.func36, Tryz.ntmps36
  go_wp2_with fail
  go_quiet (fail)
  have hXB : Below w.heap.size w ((w.alloc (.cells arr 79)).drewN nq) := below_drewN hX0 nq
  have hra : ((w.alloc (.cells arr 79)).drewN nq).rangeAt w.heap.size 0 (brow f) := hra0
  generalize (w.alloc (.cells arr 79)).drewN nq = X at *
  clear hX0 hra0 k124 hA
  have HXB : Hid (Below w.heap.size w X) := hXB
  have c124 := (HXB.out.cell (p := ⟨eb, 124, none⟩) HO.out.lt).trans (HO.out.cl 124 (by omega))
  have c122 := (HXB.out.cell (p := ⟨eb, 122, none⟩) HO.out.lt).trans (HO.out.cl 122 (by omega))
  have f124 : X.frozen? ⟨eb, 124, none⟩ = false := (World.frozen?_of_block (HXB.out.block eb HO.out.lt)).trans (HO.out.fz 124)
  rw [ecell_loads, HVL.out, HLN.out] at c124
  rw [ecell_made, hm] at c122
  have hown := own_below HO.out.ld HXB.out
  rw [HVL.out, HLN.out] at hown
  have HOW : Hid (X.drew.ownsRow B 116 62 (.slice ao 0 c) 0 (lds e.ls)) := hown
  have d124 : X.drew.cell? ⟨eb, 124, none⟩ = some (.slice ao 0 c) := c124
  have d122 : X.drew.cell? ⟨eb, 122, none⟩ = some (.int .i64 m) := c122
  have dra : X.drew.rangeAt w.heap.size 0 (brow f) := hra
  have e124 : X.drew.frozen? ⟨eb, 124, none⟩ = false := f124
  have hbl : eb < X.drew.heap.size := Nat.lt_of_lt_of_le HO.out.lt HXB.out.size
  have hap : some eb ≠ (Value.slice ao 0 c).ownBlock := by rw [← HLN.out, ← HVL.out]; exact fun e => HO.out.ap.1 e.symm
  have hbL := fun W => build_load (m : Int) f W
  have hbS := fun W => build_loads (m : Int) f W
  have hlen : ((Value.int .i64 (m : Int)) :: .int .i64 (m : Int) :: brow f).length = 1 * 62 := by simp [brow_length]
  have hone : ∀ u ∈ ((Value.int .i64 (m : Int)) :: .int .i64 (m : Int) :: brow f), u.oneCell' = true := fun u hu => by
    rcases List.mem_cons.1 hu with rfl | hu
    · rfl
    rcases List.mem_cons.1 hu with rfl | hu
    · rfl
    obtain ⟨i, _, rfl⟩ := List.mem_map.1 hu
    rfl
  have hu := Tryz.underlying79
  have hi : (Tryz.prog.info? 79).map (·.size) = some (brow f).length := by rw [brow_length]; exact size_places
  have hl60 : (brow f).length = 60 := brow_length f
  have hBX : B ≤ X.drew.heap.size := Nat.le_trans HO.out.le HXB.out.size
  have HBX : Hid (B ≤ X.drew.heap.size) := hBX
  clear c124 c122 hown f124 hra hXB
  generalize hL : (((Value.int .i64 (m : Int)) :: .int .i64 (m : Int) :: brow f)).toArray = L at *
  have HL : Hid ((((Value.int .i64 (m : Int)) :: .int .i64 (m : Int) :: brow f)).toArray = L) := hL
  clear hL
  have HNW : Hid (∀ W : World, ∀ j u, L.toList[j]? = some u → (W.alloc (.cells L 116)).cell? ((⟨W.heap.size, 0, none⟩ : Addr).add j) = some u) := fun W => World.news_of_block (heap_alloc_new W _)
  have hlen2 : L.toList.length = 1 * 62 := by rw [← HL.out]; simpa using hlen
  have hone2 : ∀ u ∈ L.toList, u.oneCell' = true := by rw [← HL.out]; simpa using hone
  have HLO : Hid (L.toList.length = 1 * 62 ∧ ∀ u ∈ L.toList, u.oneCell' = true) := ⟨hlen2, hone2⟩
  have HZS : Hid ((Value.agg (lds1 ⟨0, 0, 0, 0⟩).toArray).cells.size = 62) := by show _ = _; simp [Value.cells, lds1_length]
  have HNB : Hid (some w.heap.size ≠ (Value.slice ao 0 c).ownBlock) := by
    show _ ≠ _
    rw [← HLN.out, ← HVL.out]
    exact fun e' => by have := (HO.out.ld.lt _ e'.symm).2; omega
  have HEW : Hid (eb ≠ w.heap.size) := by have := HO.out.lt; show _ ≠ _; omega
  have HKP : Hid (∀ (w1 : World) (g cap : Nat), (X.drew.alloc (.cells L 116)).grownBy w1 (Value.slice ao 0 c).ownBlock → w1.ownsRow B 116 62 (.slice (some ⟨g, 0, none⟩) (0 + 1) cap) (0 + 1) (lds e.ls ++ L.toList) → ((Value.slice ao 0 c).ownBlock = some g ∨ g = X.drew.heap.size + 1) → KeepPost w (w1.setCell ⟨eb, 124, none⟩ (.slice (some ⟨g, 0, none⟩) (0 + 1) cap)) B eb vl vc e (.slice (some ⟨g, 0, none⟩) (0 + 1) cap) (e.ls ++ [⟨m, m, a, b⟩])) := by
    show ∀ w1 g cap, _ → _ → _ → _
    intro w1 g cap h1 h2 h3
    have eL : L.toList = lds1 ⟨m, m, a, b⟩ := by rw [← HL.out, lds1_brow, HF.out]
    rw [eL] at h2
    have ev : Value.slice ao 0 c = vl := by rw [HVL.out, HLN.out]
    rw [ev] at h1 h3
    have bX : Below w.heap.size w (X.drew.alloc (.cells L 116)) := (HXB.out.drew).alloc HXB.out.size _
    exact KeepPost.grown HO.out bX h1 h2 HLN.out.symm (by rw [World.size_alloc]; exact h3) rfl
  clear hlen hone hlen2 hone2
  go_wp2_with fail
  refine wp_region_noPanic ?_
  refine wp_region_held_drew (S := fun w' => w'.cell? ⟨eb, 122, none⟩ = some (.int .i64 (m : Int)) ∧ w'.rangeAt w.heap.size 0 (brow f)) (by kernel_rfl) ⟨d122, dra⟩ (fun hHeld => ?_)
  refine wpAnyH_take (i := 0) (oi := { dst := some 37, op := Op.move (Operand.tmp 0), type := 44, pos := "end.go:163", after := #[], guard := none }) (v := (.pointer (some ⟨eb, 0, none⟩))) rfl (by kernel_rfl) (by kernel_rfl) (by kernel_rfl) (fun _ _ _ h => h) (Or.inl ⟨by rfl, ?_⟩) (by assumption) ?_
  · intro wx hSw
    obtain ⟨s0, s1⟩ := hSw
    go_simp
  try simp only [Act.put, List.setIfInBounds_toArray, List.set_cons_zero, List.set_cons_succ]
  refine wpAnyH_take (i := 1) (oi := { dst := some 38, op := Op.move (Operand.tmp 0), type := 44, pos := "end.go:163", after := #[], guard := none }) (v := (.pointer (some ⟨eb, 0, none⟩))) rfl (by kernel_rfl) (by kernel_rfl) (by kernel_rfl) (fun _ _ _ h => h) (Or.inl ⟨by rfl, ?_⟩) (by assumption) ?_
  · intro wx hSw
    obtain ⟨s0, s1⟩ := hSw
    go_simp
  try simp only [Act.put, List.setIfInBounds_toArray, List.set_cons_zero, List.set_cons_succ]
  refine wpAnyH_take (i := 2) (oi := { dst := some 39, op := Op.nilCheck (Operand.tmp 38), type := 0, pos := "end.go:163", after := #[{ on := 1, ground := Ground.data }], guard := none }) (v := (.pointer (some ⟨eb, 0, none⟩))) rfl (by kernel_rfl) (by kernel_rfl) (by kernel_rfl) (fun _ _ _ h => h) (Or.inl ⟨by rfl, ?_⟩) (by assumption) ?_
  · intro wx hSw
    obtain ⟨s0, s1⟩ := hSw
    go_simp
  try simp only [Act.put, List.setIfInBounds_toArray, List.set_cons_zero, List.set_cons_succ]
  refine wpAnyH_take (i := 3) (oi := { dst := some 40, op := Op.fieldAddr 82 (Operand.tmp 39) 6, type := 0, pos := "end.go:163", after := #[{ on := 2, ground := Ground.data }], guard := none }) (v := (.pointer (some ⟨eb, 124, none⟩))) rfl (by kernel_rfl) (by kernel_rfl) (by kernel_rfl) (fun _ _ _ h => h) (Or.inl ⟨by rfl, ?_⟩) (by assumption) ?_
  · intro wx hSw
    obtain ⟨s0, s1⟩ := hSw
    go_simp
  try simp only [Act.put, List.setIfInBounds_toArray, List.set_cons_zero, List.set_cons_succ]
  refine wpAnyH_take (i := 5) (oi := { dst := some 42, op := Op.move (Operand.tmp 0), type := 44, pos := "end.go:163", after := #[], guard := none }) (v := (.pointer (some ⟨eb, 0, none⟩))) rfl (by kernel_rfl) (by kernel_rfl) (by kernel_rfl) (fun _ _ _ h => h) (Or.inl ⟨by rfl, ?_⟩) (by assumption) ?_
  · intro wx hSw
    obtain ⟨s0, s1⟩ := hSw
    go_simp
  try simp only [Act.put, List.setIfInBounds_toArray, List.set_cons_zero, List.set_cons_succ]
  refine wpAnyH_take (i := 6) (oi := { dst := some 43, op := Op.nilCheck (Operand.tmp 42), type := 0, pos := "end.go:163", after := #[{ on := 5, ground := Ground.data }], guard := none }) (v := (.pointer (some ⟨eb, 0, none⟩))) rfl (by kernel_rfl) (by kernel_rfl) (by kernel_rfl) (fun _ _ _ h => h) (Or.inl ⟨by rfl, ?_⟩) (by assumption) ?_
  · intro wx hSw
    obtain ⟨s0, s1⟩ := hSw
    go_simp
  try simp only [Act.put, List.setIfInBounds_toArray, List.set_cons_zero, List.set_cons_succ]
  refine wpAnyH_take (i := 7) (oi := { dst := some 44, op := Op.fieldAddr 82 (Operand.tmp 43) 4, type := 0, pos := "end.go:163", after := #[{ on := 6, ground := Ground.data }], guard := none }) (v := (.pointer (some ⟨eb, 122, none⟩))) rfl (by kernel_rfl) (by kernel_rfl) (by kernel_rfl) (fun _ _ _ h => h) (Or.inl ⟨by rfl, ?_⟩) (by assumption) ?_
  · intro wx hSw
    obtain ⟨s0, s1⟩ := hSw
    go_simp
  try simp only [Act.put, List.setIfInBounds_toArray, List.set_cons_zero, List.set_cons_succ]
  refine wpAnyH_take (i := 8) (oi := { dst := some 45, op := Op.load 3 (Operand.tmp 44), type := 3, pos := "end.go:163", after := #[{ on := 7, ground := Ground.data }], guard := none }) (v := (.int .i64 (m : Int))) rfl (by kernel_rfl) (by kernel_rfl) (by kernel_rfl) (fun _ _ _ h => h) (Or.inl ⟨by rfl, ?_⟩) (by assumption) ?_
  · intro wx hSw
    obtain ⟨s0, s1⟩ := hSw
    go_simp
  try simp only [Act.put, List.setIfInBounds_toArray, List.set_cons_zero, List.set_cons_succ]
  refine wpAnyH_take (i := 9) (oi := { dst := some 46, op := Op.move (Operand.tmp 0), type := 44, pos := "end.go:163", after := #[], guard := none }) (v := (.pointer (some ⟨eb, 0, none⟩))) rfl (by kernel_rfl) (by kernel_rfl) (by kernel_rfl) (fun _ _ _ h => h) (Or.inl ⟨by rfl, ?_⟩) (by assumption) ?_
  · intro wx hSw
    obtain ⟨s0, s1⟩ := hSw
    go_simp
  try simp only [Act.put, List.setIfInBounds_toArray, List.set_cons_zero, List.set_cons_succ]
  refine wpAnyH_take (i := 10) (oi := { dst := some 47, op := Op.nilCheck (Operand.tmp 46), type := 0, pos := "end.go:163", after := #[{ on := 9, ground := Ground.data }], guard := none }) (v := (.pointer (some ⟨eb, 0, none⟩))) rfl (by kernel_rfl) (by kernel_rfl) (by kernel_rfl) (fun _ _ _ h => h) (Or.inl ⟨by rfl, ?_⟩) (by assumption) ?_
  · intro wx hSw
    obtain ⟨s0, s1⟩ := hSw
    go_simp
  try simp only [Act.put, List.setIfInBounds_toArray, List.set_cons_zero, List.set_cons_succ]
  refine wpAnyH_take (i := 11) (oi := { dst := some 48, op := Op.fieldAddr 82 (Operand.tmp 47) 4, type := 0, pos := "end.go:163", after := #[{ on := 10, ground := Ground.data }], guard := none }) (v := (.pointer (some ⟨eb, 122, none⟩))) rfl (by kernel_rfl) (by kernel_rfl) (by kernel_rfl) (fun _ _ _ h => h) (Or.inl ⟨by rfl, ?_⟩) (by assumption) ?_
  · intro wx hSw
    obtain ⟨s0, s1⟩ := hSw
    go_simp
  try simp only [Act.put, List.setIfInBounds_toArray, List.set_cons_zero, List.set_cons_succ]
  refine wpAnyH_take (i := 12) (oi := { dst := some 49, op := Op.load 3 (Operand.tmp 48), type := 3, pos := "end.go:163", after := #[{ on := 11, ground := Ground.data }], guard := none }) (v := (.int .i64 (m : Int))) rfl (by kernel_rfl) (by kernel_rfl) (by kernel_rfl) (fun _ _ _ h => h) (Or.inl ⟨by rfl, ?_⟩) (by assumption) ?_
  · intro wx hSw
    obtain ⟨s0, s1⟩ := hSw
    go_simp
  try simp only [Act.put, List.setIfInBounds_toArray, List.set_cons_zero, List.set_cons_succ]
  refine wpAnyH_take (i := 13) (oi := { dst := some 50, op := Op.build 66 #[(0, Operand.tmp 45), (1, Operand.tmp 49)], type := 66, pos := "end.go:163", after := #[{ on := 8, ground := Ground.data }, { on := 12, ground := Ground.data }], guard := none }) (v := (.agg #[.int .i64 (m : Int), .int .i64 (m : Int)])) rfl (by kernel_rfl) (by kernel_rfl) (by kernel_rfl) (fun _ _ _ h => h) (Or.inl ⟨by rfl, ?_⟩) (by assumption) ?_
  · intro wx hSw
    obtain ⟨s0, s1⟩ := hSw
    go_simp
  try simp only [Act.put, List.setIfInBounds_toArray, List.set_cons_zero, List.set_cons_succ]
  refine wpAnyH_take (i := 14) (oi := { dst := some 51, op := Op.load 79 (Operand.tmp 3), type := 79, pos := "end.go:163", after := #[], guard := none }) (v := .agg (brow f).toArray) rfl (by kernel_rfl) (by kernel_rfl) (by kernel_rfl) (fun _ _ _ h => h) (yieldsIf_load_mid (by rfl) 79 (.tmp 3) rfl w.heap.size 0 rfl (brow f) (.array 60 4) (fun _ h => h.2) hu rfl hi) (by assumption) ?_
  try simp only [Act.put, List.setIfInBounds_toArray, List.set_cons_zero, List.set_cons_succ]
  refine wpAnyH_take (i := 15) (oi := { dst := some 52, op := Op.build 116 #[(0, Operand.tmp 50), (1, Operand.tmp 51)], type := 116, pos := "end.go:163", after := #[{ on := 13, ground := Ground.data }, { on := 14, ground := Ground.data }], guard := none }) (v := .agg L) rfl (by kernel_rfl) (by kernel_rfl) (by kernel_rfl) (fun _ _ _ h => h) (yields_load (m := (m : Int)) (f := f) (by rfl) (.tmp 50) (.tmp 51) rfl rfl rfl hbL) (by assumption) ?_
  try simp only [Act.put, List.setIfInBounds_toArray, List.set_cons_zero, List.set_cons_succ]
  have a124 : (X.drew.alloc (.cells L 116)).cell? ⟨eb, 124, none⟩ = some (.slice ao 0 c) := (World.cell?_alloc_lt _ _ _ hbl).trans d124
  have b124 : (X.alloc (.cells L 116)).cell? ⟨eb, 124, none⟩ = some (.slice ao 0 c) := a124
  have hbl2 : eb < (X.drew.alloc (.cells L 116)).heap.size := by rw [World.size_alloc]; omega
  refine wpAnyH_ready (rs := [4, 16]) (by kernel_rfl) (by simp) ?_
  refine AllReadyH.cons (o := { dst := some 41, op := Op.load 80 (Operand.tmp 40), type := 80, pos := "end.go:163", after := #[{ on := 3, ground := Ground.data }], guard := none }) rfl (fun K hK => ?_) (AllReadyH.cons (o := { dst := some 53, op := Op.buildSlice 80 1 #[(0, Operand.tmp 52)], type := 80, pos := "end.go:163", after := #[{ on := 15, ground := Ground.data }], guard := none }) rfl (fun K hK => ?_) AllReadyH.nil)
  · clear a124 b124
    go_simp
    refine hK.out _ _ hHeld (fun hHeld => ?_)
    clear hK K
    try simp only [Act.put, List.setIfInBounds_toArray, List.set_cons_zero, List.set_cons_succ]
    refine wpAnyH_ready (rs := [16]) (by kernel_rfl) (by simp) ?_
    refine AllReadyH.cons (o := { dst := some 53, op := Op.buildSlice 80 1 #[(0, Operand.tmp 52)], type := 80, pos := "end.go:163", after := #[{ on := 15, ground := Ground.data }], guard := none }) rfl (fun K hK => ?_) AllReadyH.nil
    refine step_loads rfl (.tmp 52) rfl (by rfl) hbS ?_
    refine hK.out _ _ ⟨(World.cell?_alloc_lt _ _ _ hbl).trans hHeld.1, World.rangeAt_alloc hHeld.2 _⟩ (fun hHeld => ?_)
    clear hK K
    try simp only [Act.put, List.setIfInBounds_toArray, List.set_cons_zero, List.set_cons_succ]
    refine wpAnyH_ready (rs := [17]) (by kernel_rfl) (by simp) ?_
    refine AllReadyH.cons (o := { dst := some 54, op := Op.call { callee := Callee.builtin Builtin.append, args := #[Operand.tmp 41, Operand.tmp 53], argTypes := #[80, 80] }, type := 80, pos := "end.go:163", after := #[{ on := 4, ground := Ground.data }, { on := 16, ground := Ground.data }], guard := none }) rfl (fun K hK => ?_) AllReadyH.nil
    refine step_append_lies _ (by rfl) (.tmp 41) (.tmp 53) 80 (by rfl) B 116 i0 _ 62 80 Tryz.underlying80 hi0 hz0 hz1 hz2 HZS.out (by decide) (.slice ao 0 c) 0 (lds e.ls) (by rfl) (HOW.out.alloc _) ⟨X.drew.heap.size, 0, none⟩ 1 1 L.toList (by rfl) HLO.out.1 (HNW.out _) HLO.out.2 (by decide) (by have := HNL.out; unfold maxLen; omega) (by have := HNL.out; omega) (by rw [World.size_alloc]; have := HBX.out; omega) (X.drew.heap.size + 1) (by rw [World.size_alloc]) ?_
    intro g cap w1 hown1 hgrow hat hlt
    have g124 : w1.cell? ⟨eb, 124, none⟩ = some (.slice ao 0 c) := (hgrow.cell_far ⟨eb, 124, none⟩ hbl2 hap).trans ((World.cell?_alloc_lt _ _ _ hbl).trans d124)
    have gf : w1.frozen? ⟨eb, 124, none⟩ = false := (hgrow.frozen_far ⟨eb, 124, none⟩ hbl2 hap).trans ((World.frozen?_alloc_past _ _ _ hbl).trans e124)
    have S1 : w1.cell? ⟨eb, 122, none⟩ = some (.int .i64 (m : Int)) := (hgrow.cell_far ⟨eb, 122, none⟩ hbl2 hap).trans hHeld.1
    have S2 : w1.rangeAt w.heap.size 0 (brow f) := fun j v hv => by
      have hh := hHeld.2 j v hv
      exact (hgrow.cell_far ⟨w.heap.size, 0 + j, none⟩ (World.block_lt_of_cell? _ _ hh) HNB.out).trans hh
    refine hK.out _ _ ⟨S1, S2⟩ (fun hHeld => ?_)
    clear hK K
    try simp only [Act.put, List.setIfInBounds_toArray, List.set_cons_zero, List.set_cons_succ]
    refine wpAnyH_take (i := 18) (oi := { dst := some 55, op := Op.nilCheck (Operand.tmp 37), type := 0, pos := "end.go:163", after := #[{ on := 0, ground := Ground.data }, { on := 0, ground := Ground.phase }, { on := 1, ground := Ground.phase }, { on := 2, ground := Ground.phase }, { on := 3, ground := Ground.phase }, { on := 4, ground := Ground.phase }, { on := 5, ground := Ground.phase }, { on := 6, ground := Ground.phase }, { on := 7, ground := Ground.phase }, { on := 8, ground := Ground.phase }, { on := 9, ground := Ground.phase }, { on := 10, ground := Ground.phase }, { on := 11, ground := Ground.phase }, { on := 12, ground := Ground.phase }, { on := 13, ground := Ground.phase }, { on := 14, ground := Ground.phase }, { on := 15, ground := Ground.phase }, { on := 16, ground := Ground.phase }, { on := 17, ground := Ground.phase }], guard := none }) (v := (.pointer (some ⟨eb, 0, none⟩))) rfl (by kernel_rfl) (by kernel_rfl) (by kernel_rfl) (fun _ _ _ h => h) (Or.inl ⟨by rfl, ?_⟩) (by assumption) ?_
    · intro wx hSw
      obtain ⟨s0, s1⟩ := hSw
      go_simp
    try simp only [Act.put, List.setIfInBounds_toArray, List.set_cons_zero, List.set_cons_succ]
    refine wpAnyH_take (i := 19) (oi := { dst := some 56, op := Op.fieldAddr 82 (Operand.tmp 55) 6, type := 0, pos := "end.go:163", after := #[{ on := 18, ground := Ground.data }, { on := 0, ground := Ground.phase }, { on := 1, ground := Ground.phase }, { on := 2, ground := Ground.phase }, { on := 3, ground := Ground.phase }, { on := 4, ground := Ground.phase }, { on := 5, ground := Ground.phase }, { on := 6, ground := Ground.phase }, { on := 7, ground := Ground.phase }, { on := 8, ground := Ground.phase }, { on := 9, ground := Ground.phase }, { on := 10, ground := Ground.phase }, { on := 11, ground := Ground.phase }, { on := 12, ground := Ground.phase }, { on := 13, ground := Ground.phase }, { on := 14, ground := Ground.phase }, { on := 15, ground := Ground.phase }, { on := 16, ground := Ground.phase }, { on := 17, ground := Ground.phase }], guard := none }) (v := (.pointer (some ⟨eb, 124, none⟩))) rfl (by kernel_rfl) (by kernel_rfl) (by kernel_rfl) (fun _ _ _ h => h) (Or.inl ⟨by rfl, ?_⟩) (by assumption) ?_
    · intro wx hSw
      obtain ⟨s0, s1⟩ := hSw
      go_simp
    try simp only [Act.put, List.setIfInBounds_toArray, List.set_cons_zero, List.set_cons_succ]
    refine wpAnyH_ready (rs := [20]) (by kernel_rfl) (by simp) ?_
    refine AllReadyH.cons (o := { dst := none, op := Op.store 80 (Operand.tmp 56) (Operand.tmp 54), type := 0, pos := "end.go:163", after := #[{ on := 19, ground := Ground.data }, { on := 17, ground := Ground.data }, { on := 17, ground := Ground.chain }, { on := 0, ground := Ground.phase }, { on := 1, ground := Ground.phase }, { on := 2, ground := Ground.phase }, { on := 3, ground := Ground.phase }, { on := 4, ground := Ground.phase }, { on := 5, ground := Ground.phase }, { on := 6, ground := Ground.phase }, { on := 7, ground := Ground.phase }, { on := 8, ground := Ground.phase }, { on := 9, ground := Ground.phase }, { on := 10, ground := Ground.phase }, { on := 11, ground := Ground.phase }, { on := 12, ground := Ground.phase }, { on := 13, ground := Ground.phase }, { on := 14, ground := Ground.phase }, { on := 15, ground := Ground.phase }, { on := 16, ground := Ground.phase }, { on := 17, ground := Ground.phase }], guard := none }) rfl (fun K hK => ?_) AllReadyH.nil
    go_simp
    refine hK.out _ _ ⟨(World.cell?_setCell_other _ _ _ _ (fun e' => by injection e' with _ e' _; cases e')).trans S1, fun j v hv => (World.cell?_setCell_other _ _ _ _ (fun e' => by injection e' with e' _ _; exact HEW.out e')).trans (S2 j v hv)⟩ (fun hHeld => ?_)
    clear hK K
    refine wpAnyH_done (by kernel_rfl) (NoPanic.normal ?_) _
    go_wp2_with fail
    refine Go.Great.bodyPost_end0 rfl rfl ⟨rfl, _, HKP.out w1 g cap hgrow hown1 hat⟩
  · refine step_loads rfl (.tmp 52) rfl (by rfl) hbS ?_
    refine hK.out _ _ ⟨(World.cell?_alloc_lt _ _ _ hbl).trans hHeld.1, World.rangeAt_alloc hHeld.2 _⟩ (fun hHeld => ?_)
    clear hK K
    try simp only [Act.put, List.setIfInBounds_toArray, List.set_cons_zero, List.set_cons_succ]
    refine wpAnyH_ready (rs := [4]) (by kernel_rfl) (by simp) ?_
    refine AllReadyH.cons (o := { dst := some 41, op := Op.load 80 (Operand.tmp 40), type := 80, pos := "end.go:163", after := #[{ on := 3, ground := Ground.data }], guard := none }) rfl (fun K hK => ?_) AllReadyH.nil
    go_simp
    refine hK.out _ (X.drew.alloc (.cells L 116)) hHeld (fun hHeld => ?_)
    clear hK K
    try simp only [Act.put, List.setIfInBounds_toArray, List.set_cons_zero, List.set_cons_succ]
    refine wpAnyH_ready (rs := [17]) (by kernel_rfl) (by simp) ?_
    refine AllReadyH.cons (o := { dst := some 54, op := Op.call { callee := Callee.builtin Builtin.append, args := #[Operand.tmp 41, Operand.tmp 53], argTypes := #[80, 80] }, type := 80, pos := "end.go:163", after := #[{ on := 4, ground := Ground.data }, { on := 16, ground := Ground.data }], guard := none }) rfl (fun K hK => ?_) AllReadyH.nil
    refine step_append_lies _ (by rfl) (.tmp 41) (.tmp 53) 80 (by rfl) B 116 i0 _ 62 80 Tryz.underlying80 hi0 hz0 hz1 hz2 HZS.out (by decide) (.slice ao 0 c) 0 (lds e.ls) (by rfl) (HOW.out.alloc _) ⟨X.drew.heap.size, 0, none⟩ 1 1 L.toList (by rfl) HLO.out.1 (HNW.out _) HLO.out.2 (by decide) (by have := HNL.out; unfold maxLen; omega) (by have := HNL.out; omega) (by rw [World.size_alloc]; have := HBX.out; omega) (X.drew.heap.size + 1) (by rw [World.size_alloc]) ?_
    intro g cap w1 hown1 hgrow hat hlt
    have g124 : w1.cell? ⟨eb, 124, none⟩ = some (.slice ao 0 c) := (hgrow.cell_far ⟨eb, 124, none⟩ hbl2 hap).trans ((World.cell?_alloc_lt _ _ _ hbl).trans d124)
    have gf : w1.frozen? ⟨eb, 124, none⟩ = false := (hgrow.frozen_far ⟨eb, 124, none⟩ hbl2 hap).trans ((World.frozen?_alloc_past _ _ _ hbl).trans e124)
    have S1 : w1.cell? ⟨eb, 122, none⟩ = some (.int .i64 (m : Int)) := (hgrow.cell_far ⟨eb, 122, none⟩ hbl2 hap).trans hHeld.1
    have S2 : w1.rangeAt w.heap.size 0 (brow f) := fun j v hv => by
      have hh := hHeld.2 j v hv
      exact (hgrow.cell_far ⟨w.heap.size, 0 + j, none⟩ (World.block_lt_of_cell? _ _ hh) HNB.out).trans hh
    refine hK.out _ _ ⟨S1, S2⟩ (fun hHeld => ?_)
    clear hK K
    try simp only [Act.put, List.setIfInBounds_toArray, List.set_cons_zero, List.set_cons_succ]
    refine wpAnyH_take (i := 18) (oi := { dst := some 55, op := Op.nilCheck (Operand.tmp 37), type := 0, pos := "end.go:163", after := #[{ on := 0, ground := Ground.data }, { on := 0, ground := Ground.phase }, { on := 1, ground := Ground.phase }, { on := 2, ground := Ground.phase }, { on := 3, ground := Ground.phase }, { on := 4, ground := Ground.phase }, { on := 5, ground := Ground.phase }, { on := 6, ground := Ground.phase }, { on := 7, ground := Ground.phase }, { on := 8, ground := Ground.phase }, { on := 9, ground := Ground.phase }, { on := 10, ground := Ground.phase }, { on := 11, ground := Ground.phase }, { on := 12, ground := Ground.phase }, { on := 13, ground := Ground.phase }, { on := 14, ground := Ground.phase }, { on := 15, ground := Ground.phase }, { on := 16, ground := Ground.phase }, { on := 17, ground := Ground.phase }], guard := none }) (v := (.pointer (some ⟨eb, 0, none⟩))) rfl (by kernel_rfl) (by kernel_rfl) (by kernel_rfl) (fun _ _ _ h => h) (Or.inl ⟨by rfl, ?_⟩) (by assumption) ?_
    · intro wx hSw
      obtain ⟨s0, s1⟩ := hSw
      go_simp
    try simp only [Act.put, List.setIfInBounds_toArray, List.set_cons_zero, List.set_cons_succ]
    refine wpAnyH_take (i := 19) (oi := { dst := some 56, op := Op.fieldAddr 82 (Operand.tmp 55) 6, type := 0, pos := "end.go:163", after := #[{ on := 18, ground := Ground.data }, { on := 0, ground := Ground.phase }, { on := 1, ground := Ground.phase }, { on := 2, ground := Ground.phase }, { on := 3, ground := Ground.phase }, { on := 4, ground := Ground.phase }, { on := 5, ground := Ground.phase }, { on := 6, ground := Ground.phase }, { on := 7, ground := Ground.phase }, { on := 8, ground := Ground.phase }, { on := 9, ground := Ground.phase }, { on := 10, ground := Ground.phase }, { on := 11, ground := Ground.phase }, { on := 12, ground := Ground.phase }, { on := 13, ground := Ground.phase }, { on := 14, ground := Ground.phase }, { on := 15, ground := Ground.phase }, { on := 16, ground := Ground.phase }, { on := 17, ground := Ground.phase }], guard := none }) (v := (.pointer (some ⟨eb, 124, none⟩))) rfl (by kernel_rfl) (by kernel_rfl) (by kernel_rfl) (fun _ _ _ h => h) (Or.inl ⟨by rfl, ?_⟩) (by assumption) ?_
    · intro wx hSw
      obtain ⟨s0, s1⟩ := hSw
      go_simp
    try simp only [Act.put, List.setIfInBounds_toArray, List.set_cons_zero, List.set_cons_succ]
    refine wpAnyH_ready (rs := [20]) (by kernel_rfl) (by simp) ?_
    refine AllReadyH.cons (o := { dst := none, op := Op.store 80 (Operand.tmp 56) (Operand.tmp 54), type := 0, pos := "end.go:163", after := #[{ on := 19, ground := Ground.data }, { on := 17, ground := Ground.data }, { on := 17, ground := Ground.chain }, { on := 0, ground := Ground.phase }, { on := 1, ground := Ground.phase }, { on := 2, ground := Ground.phase }, { on := 3, ground := Ground.phase }, { on := 4, ground := Ground.phase }, { on := 5, ground := Ground.phase }, { on := 6, ground := Ground.phase }, { on := 7, ground := Ground.phase }, { on := 8, ground := Ground.phase }, { on := 9, ground := Ground.phase }, { on := 10, ground := Ground.phase }, { on := 11, ground := Ground.phase }, { on := 12, ground := Ground.phase }, { on := 13, ground := Ground.phase }, { on := 14, ground := Ground.phase }, { on := 15, ground := Ground.phase }, { on := 16, ground := Ground.phase }, { on := 17, ground := Ground.phase }], guard := none }) rfl (fun K hK => ?_) AllReadyH.nil
    go_simp
    refine hK.out _ _ ⟨(World.cell?_setCell_other _ _ _ _ (fun e' => by injection e' with _ e' _; cases e')).trans S1, fun j v hv => (World.cell?_setCell_other _ _ _ _ (fun e' => by injection e' with e' _ _; exact HEW.out e')).trans (S2 j v hv)⟩ (fun hHeld => ?_)
    clear hK K
    refine wpAnyH_done (by kernel_rfl) (NoPanic.normal ?_) _
    go_wp2_with fail
    refine Go.Great.bodyPost_end0 rfl rfl ⟨rfl, _, HKP.out w1 g cap hgrow hown1 hat⟩
end Go.Proofs.YtegelodkopommaaGreatDoor
