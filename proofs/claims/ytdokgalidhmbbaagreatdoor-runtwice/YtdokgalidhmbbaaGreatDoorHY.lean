/- What the laws of package run need. -/
import Derived.Test.YtdokgalidhmbbaaGreatDoorHG
import Derived.Test.YtdokgalidhmbbaaGreatDoorHZ
set_option linter.unusedVariables false
set_option linter.unusedSimpArgs false
set_option maxRecDepth 100000
set_option maxHeartbeats 8000000
namespace Go.Proofs.YtdokgalidhmbbaaGreatDoor.Ez
open Go.RowKit Go.Lib Go.Sort


open Sx (bat)
variable {pz : Nat} {Qz : Nat → Option Value}
/-- What keep leaves: the loads are now ls. -/
structure KeepP (pz : Nat) (Qz : Nat → Option Value) (w w' : World) (B eb : Nat) (vl vc : Value) (e : En) (vl' : Value) (ls : List Ld) : Prop where
  cl : ∀ i, i < 251 → w'.cell? ⟨eb, pz + i, none⟩ = some (ecell e vl' vc i)
  fz : ∀ i, w'.frozen? ⟨eb, i, none⟩ = false
  rs : ∀ i, (i < pz ∨ pz + 251 ≤ i) → w'.cell? ⟨eb, i, none⟩ = Qz i
  ld : w'.ownsRow B 241 62 vl' ls.length (lds ls)
  cm : w'.ownsRow B 143 2 vc e.cm.length (flat e.cm)
  ap : vl'.ownBlock ≠ some eb
  off : Off (OwnE eb vl vc) w w'
  own : ∀ k, vl'.ownBlock = some k → vl.ownBlock = some k ∨ w.heap.size ≤ k
theorem KeepP.grown {w X Y w' : World} {B eb n : Nat} {vl vc : Value} {e : En} {g cap m a b : Nat} (h : EP pz Qz w B eb vl vc e) (hX : Below w.heap.size w X) (hg : X.grownBy Y vl.ownBlock)
    (ho : Y.ownsRow B 241 62 (.slice (some ⟨g, 0, none⟩) (n + 1) cap) (n + 1) (lds e.ls ++ lds1 ⟨m, m, a, b⟩)) (hn : n = e.ls.length) (hat : vl.ownBlock = some g ∨ g = X.heap.size) (hw : w' = Y.setCell ⟨eb, pz + 124, none⟩ (.slice (some ⟨g, 0, none⟩) (n + 1) cap)) :
    KeepP pz Qz w w' B eb vl vc e (.slice (some ⟨g, 0, none⟩) (n + 1) cap) (e.ls ++ [⟨m, m, a, b⟩]) := by
  subst hn hw
  have hlt := h.lt
  have hltX : eb < X.heap.size := Nat.lt_of_lt_of_le hlt hX.size
  have hne : some eb ≠ vl.ownBlock := fun e => h.ap.1 e.symm
  have hgeb : g ≠ eb := by
    rcases hat with e | e
    · intro e'; subst e'; exact h.ap.1 e
    · omega
  have oY : Off (OwnE eb vl vc) w Y := (Off.of_below hX).trans (Off.of_grown hg fun k e => .inr (.inl e))
  refine ⟨fun i hi => ?_, fun i => ?_, fun i hi => (World.cell?_setCell_other _ _ _ _ (fun e' => by injection e' with _ e' _; omega)).trans ((hg.cell_far ⟨eb, i, none⟩ hltX hne).trans ((hX.cell (p := ⟨eb, i, none⟩) hlt).trans (h.rs i hi))), ?_, ?_, ?_, oY.setCell (.inl rfl) _, ?_⟩
  · by_cases e1 : i = 124
    · subst e1
      rw [ecell_loads]
      refine World.cell?_setCell_same _ _ _ (show Y.cell? ⟨eb, pz + 124, none⟩ = some vl from ?_)
      rw [hg.cell_far ⟨eb, pz + 124, none⟩ hltX hne, hX.cell (p := ⟨eb, pz + 124, none⟩) hlt, h.cl 124 (by omega), ecell_loads]
    · rw [ecell_vl (vl := vl) e1, World.cell?_setCell_other _ _ _ _ (fun e' => by injection e' with _ e' _; omega), hg.cell_far ⟨eb, pz + i, none⟩ hltX hne, hX.cell (p := ⟨eb, pz + i, none⟩) hlt]
      exact h.cl i hi
  · rw [World.frozen?_setCell, hg.frozen_far ⟨eb, i, none⟩ hltX hne, World.frozen?_of_block (hX.block eb hlt)]
    exact h.fz i
  · have h3 := ((Off.refl (fun k => k = eb) Y).setCell (a := ⟨eb, pz + 124, none⟩) rfl (.slice (some ⟨g, 0, none⟩) (e.ls.length + 1) cap)).row ho (fun k hk e' => by
      subst e'
      simp [Value.ownBlock] at hk
      exact hgeb hk)
    have e5 : lds (e.ls ++ [⟨m, m, a, b⟩]) = lds e.ls ++ lds1 ⟨m, m, a, b⟩ := by simp [lds]
    rw [List.length_append, e5]
    exact h3
  · have h1 := own_below h.cm hX
    have h2 : Y.ownsRow B 143 2 vc e.cm.length (flat e.cm) := (Off.of_grown (K := fun k => vl.ownBlock = some k) hg fun k e => e).row h1 fun k hk => loads_apart h.ld h.cm k hk
    refine ((Off.refl (fun k => k = eb) Y).setCell (a := ⟨eb, pz + 124, none⟩) rfl _).row h2 fun k hk e' => ?_
    subst e'
    exact h.ap.2 hk
  · intro e'
    simp [Value.ownBlock] at e'
    exact hgeb e'
  · intro k hk
    simp [Value.ownBlock] at hk
    subst hk
    rcases hat with e | e
    · exact .inl e
    · exact .inr (by rw [e]; exact hX.size)

set_option maxRecDepth 100000 in
set_option maxHeartbeats 4000000 in
theorem keep_nil {w : World} {B eb : Nat} {vl vc : Value} {e : En} (h : EP pz Qz w B eb vl vc e) {a b m : Nat} (hm : e.m = m) (hl1000 : e.ls.length ≤ 1073741824) (h0 : e.ls = []) :
    Calls Tryz.prog 127 #[.pointer (some ⟨eb, pz, none⟩), .agg (brow (hadF a b)).toArray] w fun ex w' => ex = .returned (.tuple #[]) ∧ ∃ vl', KeepP pz Qz w w' B eb vl vc e vl' (e.ls ++ [⟨e.m, e.m, a, b⟩]) := by
  rw [hm]
  obtain ⟨f, hf⟩ : ∃ f, hadF a b = f := ⟨_, rfl⟩
  have HF : Hid (hadF a b = f) := hf
  rw [hf]
  clear hf
  obtain ⟨i0, hi0, hz0, hz1, hz2⟩ := info_parts infoL
  have HO : Hid (EP pz Qz w B eb vl vc e) := h
  obtain ⟨ao, c, hvl⟩ := own_sh h.ld
  have HVL : Hid (vl = .slice ao e.ls.length c) := hvl
  have HLN : Hid (e.ls.length = 0) := by show _ = _; rw [h0]; rfl
  have hX0 : Below w.heap.size w (w.alloc (.cells (brow f).toArray 97)) := (Below.refl _ _).alloc (Nat.le_refl _) _
  have hra0 : (w.alloc (.cells (brow f).toArray 97)).rangeAt w.heap.size 0 (brow f) := range_new w 97 60 _
  have k124 := (hX0.cell (p := ⟨eb, pz + 124, none⟩) h.lt).trans (h.cl 124 (by omega))
  rw [ecell_loads, hvl, h0] at k124
  simp only [List.length_nil] at k124
  have HNL : Hid (e.ls.length ≤ 1073741824) := hl1000
  rw [HLN.out] at HNL
  clear h hvl hl1000
  generalize hA : (brow f).toArray = arr at hX0 hra0 k124 ⊢
  go_enter Tryz.func127, Tryz.ntmps127
  go_wp2_with fail
  go_quiet (fail)
  have hXB : Below w.heap.size w ((w.alloc (.cells arr 97)).drewN nq) := below_drewN hX0 nq
  have hra : ((w.alloc (.cells arr 97)).drewN nq).rangeAt w.heap.size 0 (brow f) := hra0
  generalize (w.alloc (.cells arr 97)).drewN nq = X at *
  clear hX0 hra0 k124 hA
  have HXB : Hid (Below w.heap.size w X) := hXB
  have c124 := (HXB.out.cell (p := ⟨eb, pz + 124, none⟩) HO.out.lt).trans (HO.out.cl 124 (by omega))
  have c122 := (HXB.out.cell (p := ⟨eb, pz + 122, none⟩) HO.out.lt).trans (HO.out.cl 122 (by omega))
  have f124 : X.frozen? ⟨eb, pz + 124, none⟩ = false := (World.frozen?_of_block (HXB.out.block eb HO.out.lt)).trans (HO.out.fz (pz + 124))
  rw [ecell_loads, HVL.out, HLN.out] at c124
  rw [ecell_made, hm] at c122
  have hown := own_below HO.out.ld HXB.out
  rw [HVL.out, HLN.out] at hown
  have HOW : Hid (X.drew.ownsRow B 241 62 (.slice ao 0 c) 0 (lds e.ls)) := hown
  have d124 : X.drew.cell? ⟨eb, pz + 124, none⟩ = some (.slice ao 0 c) := c124
  have d122 : X.drew.cell? ⟨eb, pz + 122, none⟩ = some (.int .i64 m) := c122
  have dra : X.drew.rangeAt w.heap.size 0 (brow f) := hra
  have e124 : X.drew.frozen? ⟨eb, pz + 124, none⟩ = false := f124
  have hbl : eb < X.drew.heap.size := Nat.lt_of_lt_of_le HO.out.lt HXB.out.size
  have hap : some eb ≠ (Value.slice ao 0 c).ownBlock := by rw [← HLN.out, ← HVL.out]; exact fun e => HO.out.ap.1 e.symm
  have hbL := fun W => build_load (m : Int) f W
  have hbS := fun W => build_loads (m : Int) f W
  have hlen : ((Value.int .i64 (m : Int)) :: .int .i64 (m : Int) :: brow f).length = 1 * 62 := by simp [brow_length]
  have hone : ∀ u ∈ ((Value.int .i64 (m : Int)) :: .int .i64 (m : Int) :: brow f), u.oneCell' = true := fun u hu => by
    rcases List.mem_cons.1 hu with rfl | hu
    · rfl
    rcases List.mem_cons.1 hu with rfl | hu
    · rfl
    obtain ⟨i, _, rfl⟩ := List.mem_map.1 hu
    rfl
  have hu := Tryz.underlying97
  have hi : (Tryz.prog.info? 97).map (·.size) = some (brow f).length := by rw [brow_length]; exact size_places
  have hl60 : (brow f).length = 60 := brow_length f
  have hBX : B ≤ X.drew.heap.size := Nat.le_trans HO.out.le HXB.out.size
  have HBX : Hid (B ≤ X.drew.heap.size) := hBX
  clear c124 c122 hown f124 hra hXB
  generalize hL : (((Value.int .i64 (m : Int)) :: .int .i64 (m : Int) :: brow f)).toArray = L at *
  have HL : Hid ((((Value.int .i64 (m : Int)) :: .int .i64 (m : Int) :: brow f)).toArray = L) := hL
  clear hL
  have HNW : Hid (∀ W : World, ∀ j u, L.toList[j]? = some u → (W.alloc (.cells L 241)).cell? ((⟨W.heap.size, 0, none⟩ : Addr).add j) = some u) := fun W => World.news_of_block (heap_alloc_new W _)
  have hlen2 : L.toList.length = 1 * 62 := by rw [← HL.out]; simpa using hlen
  have hone2 : ∀ u ∈ L.toList, u.oneCell' = true := by rw [← HL.out]; simpa using hone
  have HLO : Hid (L.toList.length = 1 * 62 ∧ ∀ u ∈ L.toList, u.oneCell' = true) := ⟨hlen2, hone2⟩
  have HZS : Hid ((Value.agg (lds1 ⟨0, 0, 0, 0⟩).toArray).cells.size = 62) := by show _ = _; simp [Value.cells, lds1_length]
  have HNB : Hid (some w.heap.size ≠ (Value.slice ao 0 c).ownBlock) := by
    show _ ≠ _
    rw [← HLN.out, ← HVL.out]
    exact fun e' => by have := (HO.out.ld.lt _ e'.symm).2; omega
  have HEW : Hid (eb ≠ w.heap.size) := by have := HO.out.lt; show _ ≠ _; omega
  have HKP : Hid (∀ (w1 : World) (g cap : Nat), (X.drew.alloc (.cells L 241)).grownBy w1 (Value.slice ao 0 c).ownBlock → w1.ownsRow B 241 62 (.slice (some ⟨g, 0, none⟩) (0 + 1) cap) (0 + 1) (lds e.ls ++ L.toList) → ((Value.slice ao 0 c).ownBlock = some g ∨ g = X.drew.heap.size + 1) → KeepP pz Qz w (w1.setCell ⟨eb, pz + 124, none⟩ (.slice (some ⟨g, 0, none⟩) (0 + 1) cap)) B eb vl vc e (.slice (some ⟨g, 0, none⟩) (0 + 1) cap) (e.ls ++ [⟨m, m, a, b⟩])) := by
    show ∀ w1 g cap, _ → _ → _ → _
    intro w1 g cap h1 h2 h3
    have eL : L.toList = lds1 ⟨m, m, a, b⟩ := by rw [← HL.out, lds1_brow, HF.out]
    rw [eL] at h2
    have ev : Value.slice ao 0 c = vl := by rw [HVL.out, HLN.out]
    rw [ev] at h1 h3
    have bX : Below w.heap.size w (X.drew.alloc (.cells L 241)) := (HXB.out.drew).alloc HXB.out.size _
    exact KeepP.grown HO.out bX h1 h2 HLN.out.symm (by rw [World.size_alloc]; exact h3) rfl
  clear hlen hone hlen2 hone2
  go_wp2_with fail
  refine wp_region_noPanic ?_
  refine wp_region_held_drew (S := fun w' => w'.cell? ⟨eb, pz + 122, none⟩ = some (.int .i64 (m : Int)) ∧ w'.rangeAt w.heap.size 0 (brow f)) (by kernel_rfl) ⟨d122, dra⟩ (fun hHeld => ?_)
  refine wpAnyH_take (i := 0) (oi := { dst := some 37, op := Op.move (Operand.tmp 0), type := 108, pos := "end.go:163", after := #[], guard := none }) (v := (.pointer (some ⟨eb, pz, none⟩))) rfl (by kernel_rfl) (by kernel_rfl) (by kernel_rfl) (fun _ _ _ h => h) (Or.inl ⟨by rfl, ?_⟩) (by assumption) ?_
  · intro wx hSw
    obtain ⟨s0, s1⟩ := hSw
    go_simp
  try simp only [Act.put, List.setIfInBounds_toArray, List.set_cons_zero, List.set_cons_succ]
  refine wpAnyH_take (i := 1) (oi := { dst := some 38, op := Op.move (Operand.tmp 0), type := 108, pos := "end.go:163", after := #[], guard := none }) (v := (.pointer (some ⟨eb, pz, none⟩))) rfl (by kernel_rfl) (by kernel_rfl) (by kernel_rfl) (fun _ _ _ h => h) (Or.inl ⟨by rfl, ?_⟩) (by assumption) ?_
  · intro wx hSw
    obtain ⟨s0, s1⟩ := hSw
    go_simp
  try simp only [Act.put, List.setIfInBounds_toArray, List.set_cons_zero, List.set_cons_succ]
  refine wpAnyH_take (i := 2) (oi := { dst := some 39, op := Op.nilCheck (Operand.tmp 38), type := 0, pos := "end.go:163", after := #[{ on := 1, ground := Ground.data }], guard := none }) (v := (.pointer (some ⟨eb, pz, none⟩))) rfl (by kernel_rfl) (by kernel_rfl) (by kernel_rfl) (fun _ _ _ h => h) (Or.inl ⟨by rfl, ?_⟩) (by assumption) ?_
  · intro wx hSw
    obtain ⟨s0, s1⟩ := hSw
    go_simp
  try simp only [Act.put, List.setIfInBounds_toArray, List.set_cons_zero, List.set_cons_succ]
  refine wpAnyH_take (i := 3) (oi := { dst := some 40, op := Op.fieldAddr 104 (Operand.tmp 39) 6, type := 0, pos := "end.go:163", after := #[{ on := 2, ground := Ground.data }], guard := none }) (v := (.pointer (some ⟨eb, pz + 124, none⟩))) rfl (by kernel_rfl) (by kernel_rfl) (by kernel_rfl) (fun _ _ _ h => h) (Or.inl ⟨by rfl, ?_⟩) (by assumption) ?_
  · intro wx hSw
    obtain ⟨s0, s1⟩ := hSw
    go_simp
  try simp only [Act.put, List.setIfInBounds_toArray, List.set_cons_zero, List.set_cons_succ]
  refine wpAnyH_take (i := 5) (oi := { dst := some 42, op := Op.move (Operand.tmp 0), type := 108, pos := "end.go:163", after := #[], guard := none }) (v := (.pointer (some ⟨eb, pz, none⟩))) rfl (by kernel_rfl) (by kernel_rfl) (by kernel_rfl) (fun _ _ _ h => h) (Or.inl ⟨by rfl, ?_⟩) (by assumption) ?_
  · intro wx hSw
    obtain ⟨s0, s1⟩ := hSw
    go_simp
  try simp only [Act.put, List.setIfInBounds_toArray, List.set_cons_zero, List.set_cons_succ]
  refine wpAnyH_take (i := 6) (oi := { dst := some 43, op := Op.nilCheck (Operand.tmp 42), type := 0, pos := "end.go:163", after := #[{ on := 5, ground := Ground.data }], guard := none }) (v := (.pointer (some ⟨eb, pz, none⟩))) rfl (by kernel_rfl) (by kernel_rfl) (by kernel_rfl) (fun _ _ _ h => h) (Or.inl ⟨by rfl, ?_⟩) (by assumption) ?_
  · intro wx hSw
    obtain ⟨s0, s1⟩ := hSw
    go_simp
  try simp only [Act.put, List.setIfInBounds_toArray, List.set_cons_zero, List.set_cons_succ]
  refine wpAnyH_take (i := 7) (oi := { dst := some 44, op := Op.fieldAddr 104 (Operand.tmp 43) 4, type := 0, pos := "end.go:163", after := #[{ on := 6, ground := Ground.data }], guard := none }) (v := (.pointer (some ⟨eb, pz + 122, none⟩))) rfl (by kernel_rfl) (by kernel_rfl) (by kernel_rfl) (fun _ _ _ h => h) (Or.inl ⟨by rfl, ?_⟩) (by assumption) ?_
  · intro wx hSw
    obtain ⟨s0, s1⟩ := hSw
    go_simp
  try simp only [Act.put, List.setIfInBounds_toArray, List.set_cons_zero, List.set_cons_succ]
  refine wpAnyH_take (i := 8) (oi := { dst := some 45, op := Op.load 3 (Operand.tmp 44), type := 3, pos := "end.go:163", after := #[{ on := 7, ground := Ground.data }], guard := none }) (v := (.int .i64 (m : Int))) rfl (by kernel_rfl) (by kernel_rfl) (by kernel_rfl) (fun _ _ _ h => h) (Or.inl ⟨by rfl, ?_⟩) (by assumption) ?_
  · intro wx hSw
    obtain ⟨s0, s1⟩ := hSw
    go_simp
  try simp only [Act.put, List.setIfInBounds_toArray, List.set_cons_zero, List.set_cons_succ]
  refine wpAnyH_take (i := 9) (oi := { dst := some 46, op := Op.move (Operand.tmp 0), type := 108, pos := "end.go:163", after := #[], guard := none }) (v := (.pointer (some ⟨eb, pz, none⟩))) rfl (by kernel_rfl) (by kernel_rfl) (by kernel_rfl) (fun _ _ _ h => h) (Or.inl ⟨by rfl, ?_⟩) (by assumption) ?_
  · intro wx hSw
    obtain ⟨s0, s1⟩ := hSw
    go_simp
  try simp only [Act.put, List.setIfInBounds_toArray, List.set_cons_zero, List.set_cons_succ]
  refine wpAnyH_take (i := 10) (oi := { dst := some 47, op := Op.nilCheck (Operand.tmp 46), type := 0, pos := "end.go:163", after := #[{ on := 9, ground := Ground.data }], guard := none }) (v := (.pointer (some ⟨eb, pz, none⟩))) rfl (by kernel_rfl) (by kernel_rfl) (by kernel_rfl) (fun _ _ _ h => h) (Or.inl ⟨by rfl, ?_⟩) (by assumption) ?_
  · intro wx hSw
    obtain ⟨s0, s1⟩ := hSw
    go_simp
  try simp only [Act.put, List.setIfInBounds_toArray, List.set_cons_zero, List.set_cons_succ]
  refine wpAnyH_take (i := 11) (oi := { dst := some 48, op := Op.fieldAddr 104 (Operand.tmp 47) 4, type := 0, pos := "end.go:163", after := #[{ on := 10, ground := Ground.data }], guard := none }) (v := (.pointer (some ⟨eb, pz + 122, none⟩))) rfl (by kernel_rfl) (by kernel_rfl) (by kernel_rfl) (fun _ _ _ h => h) (Or.inl ⟨by rfl, ?_⟩) (by assumption) ?_
  · intro wx hSw
    obtain ⟨s0, s1⟩ := hSw
    go_simp
  try simp only [Act.put, List.setIfInBounds_toArray, List.set_cons_zero, List.set_cons_succ]
  refine wpAnyH_take (i := 12) (oi := { dst := some 49, op := Op.load 3 (Operand.tmp 48), type := 3, pos := "end.go:163", after := #[{ on := 11, ground := Ground.data }], guard := none }) (v := (.int .i64 (m : Int))) rfl (by kernel_rfl) (by kernel_rfl) (by kernel_rfl) (fun _ _ _ h => h) (Or.inl ⟨by rfl, ?_⟩) (by assumption) ?_
  · intro wx hSw
    obtain ⟨s0, s1⟩ := hSw
    go_simp
  try simp only [Act.put, List.setIfInBounds_toArray, List.set_cons_zero, List.set_cons_succ]
  refine wpAnyH_take (i := 13) (oi := { dst := some 50, op := Op.build 143 #[(0, Operand.tmp 45), (1, Operand.tmp 49)], type := 143, pos := "end.go:163", after := #[{ on := 8, ground := Ground.data }, { on := 12, ground := Ground.data }], guard := none }) (v := (.agg #[.int .i64 (m : Int), .int .i64 (m : Int)])) rfl (by kernel_rfl) (by kernel_rfl) (by kernel_rfl) (fun _ _ _ h => h) (Or.inl ⟨by rfl, ?_⟩) (by assumption) ?_
  · intro wx hSw
    obtain ⟨s0, s1⟩ := hSw
    go_simp
  try simp only [Act.put, List.setIfInBounds_toArray, List.set_cons_zero, List.set_cons_succ]
  refine wpAnyH_take (i := 14) (oi := { dst := some 51, op := Op.load 97 (Operand.tmp 3), type := 97, pos := "end.go:163", after := #[], guard := none }) (v := .agg (brow f).toArray) rfl (by kernel_rfl) (by kernel_rfl) (by kernel_rfl) (fun _ _ _ h => h) (yieldsIf_load_mid (by rfl) 97 (.tmp 3) rfl w.heap.size 0 rfl (brow f) (.array 60 4) (fun _ h => h.2) hu rfl hi) (by assumption) ?_
  try simp only [Act.put, List.setIfInBounds_toArray, List.set_cons_zero, List.set_cons_succ]
  refine wpAnyH_take (i := 15) (oi := { dst := some 52, op := Op.build 241 #[(0, Operand.tmp 50), (1, Operand.tmp 51)], type := 241, pos := "end.go:163", after := #[{ on := 13, ground := Ground.data }, { on := 14, ground := Ground.data }], guard := none }) (v := .agg L) rfl (by kernel_rfl) (by kernel_rfl) (by kernel_rfl) (fun _ _ _ h => h) (yields_load (m := (m : Int)) (f := f) (by rfl) (.tmp 50) (.tmp 51) rfl rfl rfl hbL) (by assumption) ?_
  try simp only [Act.put, List.setIfInBounds_toArray, List.set_cons_zero, List.set_cons_succ]
  have a124 : (X.drew.alloc (.cells L 241)).cell? ⟨eb, pz + 124, none⟩ = some (.slice ao 0 c) := (World.cell?_alloc_lt _ _ _ hbl).trans d124
  have b124 : (X.alloc (.cells L 241)).cell? ⟨eb, pz + 124, none⟩ = some (.slice ao 0 c) := a124
  have hbl2 : eb < (X.drew.alloc (.cells L 241)).heap.size := by rw [World.size_alloc]; omega
  refine wpAnyH_ready (rs := [4, 16]) (by kernel_rfl) (by simp) ?_
  refine AllReadyH.cons (o := { dst := some 41, op := Op.load 98 (Operand.tmp 40), type := 98, pos := "end.go:163", after := #[{ on := 3, ground := Ground.data }], guard := none }) rfl (fun K hK => ?_) (AllReadyH.cons (o := { dst := some 53, op := Op.buildSlice 98 1 #[(0, Operand.tmp 52)], type := 98, pos := "end.go:163", after := #[{ on := 15, ground := Ground.data }], guard := none }) rfl (fun K hK => ?_) AllReadyH.nil)
  · clear a124 b124
    go_simp
    refine hK.out _ _ hHeld (fun hHeld => ?_)
    clear hK K
    try simp only [Act.put, List.setIfInBounds_toArray, List.set_cons_zero, List.set_cons_succ]
    refine wpAnyH_ready (rs := [16]) (by kernel_rfl) (by simp) ?_
    refine AllReadyH.cons (o := { dst := some 53, op := Op.buildSlice 98 1 #[(0, Operand.tmp 52)], type := 98, pos := "end.go:163", after := #[{ on := 15, ground := Ground.data }], guard := none }) rfl (fun K hK => ?_) AllReadyH.nil
    refine step_loads rfl (.tmp 52) rfl (by rfl) hbS ?_
    refine hK.out _ _ ⟨(World.cell?_alloc_lt _ _ _ hbl).trans hHeld.1, World.rangeAt_alloc hHeld.2 _⟩ (fun hHeld => ?_)
    clear hK K
    try simp only [Act.put, List.setIfInBounds_toArray, List.set_cons_zero, List.set_cons_succ]
    refine wpAnyH_ready (rs := [17]) (by kernel_rfl) (by simp) ?_
    refine AllReadyH.cons (o := { dst := some 54, op := Op.call { callee := Callee.builtin Builtin.append, args := #[Operand.tmp 41, Operand.tmp 53], argTypes := #[98, 98] }, type := 98, pos := "end.go:163", after := #[{ on := 4, ground := Ground.data }, { on := 16, ground := Ground.data }], guard := none }) rfl (fun K hK => ?_) AllReadyH.nil
    refine step_append_lies _ (by rfl) (.tmp 41) (.tmp 53) 98 (by rfl) B 241 i0 _ 62 80 Tryz.underlying98 hi0 hz0 hz1 hz2 HZS.out (by decide) (.slice ao 0 c) 0 (lds e.ls) (by rfl) (HOW.out.alloc _) ⟨X.drew.heap.size, 0, none⟩ 1 1 L.toList (by rfl) HLO.out.1 (HNW.out _) HLO.out.2 (by decide) (by have := HNL.out; unfold maxLen; omega) (by have := HNL.out; omega) (by rw [World.size_alloc]; have := HBX.out; omega) (X.drew.heap.size + 1) (by rw [World.size_alloc]) ?_
    intro g cap w1 hown1 hgrow hat hlt
    have g124 : w1.cell? ⟨eb, pz + 124, none⟩ = some (.slice ao 0 c) := (hgrow.cell_far ⟨eb, pz + 124, none⟩ hbl2 hap).trans ((World.cell?_alloc_lt _ _ _ hbl).trans d124)
    have gf : w1.frozen? ⟨eb, pz + 124, none⟩ = false := (hgrow.frozen_far ⟨eb, pz + 124, none⟩ hbl2 hap).trans ((World.frozen?_alloc_past _ _ _ hbl).trans e124)
    have S1 : w1.cell? ⟨eb, pz + 122, none⟩ = some (.int .i64 (m : Int)) := (hgrow.cell_far ⟨eb, pz + 122, none⟩ hbl2 hap).trans hHeld.1
    have S2 : w1.rangeAt w.heap.size 0 (brow f) := fun j v hv => by
      have hh := hHeld.2 j v hv
      exact (hgrow.cell_far ⟨w.heap.size, 0 + j, none⟩ (World.block_lt_of_cell? _ _ hh) HNB.out).trans hh
    refine hK.out _ _ ⟨S1, S2⟩ (fun hHeld => ?_)
    clear hK K
    try simp only [Act.put, List.setIfInBounds_toArray, List.set_cons_zero, List.set_cons_succ]
    refine wpAnyH_take (i := 18) (oi := { dst := some 55, op := Op.nilCheck (Operand.tmp 37), type := 0, pos := "end.go:163", after := #[{ on := 0, ground := Ground.data }, { on := 0, ground := Ground.phase }, { on := 1, ground := Ground.phase }, { on := 2, ground := Ground.phase }, { on := 3, ground := Ground.phase }, { on := 4, ground := Ground.phase }, { on := 5, ground := Ground.phase }, { on := 6, ground := Ground.phase }, { on := 7, ground := Ground.phase }, { on := 8, ground := Ground.phase }, { on := 9, ground := Ground.phase }, { on := 10, ground := Ground.phase }, { on := 11, ground := Ground.phase }, { on := 12, ground := Ground.phase }, { on := 13, ground := Ground.phase }, { on := 14, ground := Ground.phase }, { on := 15, ground := Ground.phase }, { on := 16, ground := Ground.phase }, { on := 17, ground := Ground.phase }], guard := none }) (v := (.pointer (some ⟨eb, pz, none⟩))) rfl (by kernel_rfl) (by kernel_rfl) (by kernel_rfl) (fun _ _ _ h => h) (Or.inl ⟨by rfl, ?_⟩) (by assumption) ?_
    · intro wx hSw
      obtain ⟨s0, s1⟩ := hSw
      go_simp
    try simp only [Act.put, List.setIfInBounds_toArray, List.set_cons_zero, List.set_cons_succ]
    refine wpAnyH_take (i := 19) (oi := { dst := some 56, op := Op.fieldAddr 104 (Operand.tmp 55) 6, type := 0, pos := "end.go:163", after := #[{ on := 18, ground := Ground.data }, { on := 0, ground := Ground.phase }, { on := 1, ground := Ground.phase }, { on := 2, ground := Ground.phase }, { on := 3, ground := Ground.phase }, { on := 4, ground := Ground.phase }, { on := 5, ground := Ground.phase }, { on := 6, ground := Ground.phase }, { on := 7, ground := Ground.phase }, { on := 8, ground := Ground.phase }, { on := 9, ground := Ground.phase }, { on := 10, ground := Ground.phase }, { on := 11, ground := Ground.phase }, { on := 12, ground := Ground.phase }, { on := 13, ground := Ground.phase }, { on := 14, ground := Ground.phase }, { on := 15, ground := Ground.phase }, { on := 16, ground := Ground.phase }, { on := 17, ground := Ground.phase }], guard := none }) (v := (.pointer (some ⟨eb, pz + 124, none⟩))) rfl (by kernel_rfl) (by kernel_rfl) (by kernel_rfl) (fun _ _ _ h => h) (Or.inl ⟨by rfl, ?_⟩) (by assumption) ?_
    · intro wx hSw
      obtain ⟨s0, s1⟩ := hSw
      go_simp
    try simp only [Act.put, List.setIfInBounds_toArray, List.set_cons_zero, List.set_cons_succ]
    refine wpAnyH_ready (rs := [20]) (by kernel_rfl) (by simp) ?_
    refine AllReadyH.cons (o := { dst := none, op := Op.store 98 (Operand.tmp 56) (Operand.tmp 54), type := 0, pos := "end.go:163", after := #[{ on := 19, ground := Ground.data }, { on := 17, ground := Ground.data }, { on := 17, ground := Ground.chain }, { on := 0, ground := Ground.phase }, { on := 1, ground := Ground.phase }, { on := 2, ground := Ground.phase }, { on := 3, ground := Ground.phase }, { on := 4, ground := Ground.phase }, { on := 5, ground := Ground.phase }, { on := 6, ground := Ground.phase }, { on := 7, ground := Ground.phase }, { on := 8, ground := Ground.phase }, { on := 9, ground := Ground.phase }, { on := 10, ground := Ground.phase }, { on := 11, ground := Ground.phase }, { on := 12, ground := Ground.phase }, { on := 13, ground := Ground.phase }, { on := 14, ground := Ground.phase }, { on := 15, ground := Ground.phase }, { on := 16, ground := Ground.phase }, { on := 17, ground := Ground.phase }], guard := none }) rfl (fun K hK => ?_) AllReadyH.nil
    go_simp
    refine hK.out _ _ ⟨(World.cell?_setCell_other _ _ _ _ (fun e' => by injection e' with _ e' _; omega)).trans S1, fun j v hv => (World.cell?_setCell_other _ _ _ _ (fun e' => by injection e' with e' _ _; exact HEW.out e')).trans (S2 j v hv)⟩ (fun hHeld => ?_)
    clear hK K
    refine wpAnyH_done (by kernel_rfl) (NoPanic.normal ?_) _
    go_wp2_with fail
    refine Go.Great.bodyPost_end0 rfl rfl ⟨rfl, _, HKP.out w1 g cap hgrow hown1 hat⟩
  · refine step_loads rfl (.tmp 52) rfl (by rfl) hbS ?_
    refine hK.out _ _ ⟨(World.cell?_alloc_lt _ _ _ hbl).trans hHeld.1, World.rangeAt_alloc hHeld.2 _⟩ (fun hHeld => ?_)
    clear hK K
    try simp only [Act.put, List.setIfInBounds_toArray, List.set_cons_zero, List.set_cons_succ]
    refine wpAnyH_ready (rs := [4]) (by kernel_rfl) (by simp) ?_
    refine AllReadyH.cons (o := { dst := some 41, op := Op.load 98 (Operand.tmp 40), type := 98, pos := "end.go:163", after := #[{ on := 3, ground := Ground.data }], guard := none }) rfl (fun K hK => ?_) AllReadyH.nil
    go_simp
    refine hK.out _ (X.drew.alloc (.cells L 241)) hHeld (fun hHeld => ?_)
    clear hK K
    try simp only [Act.put, List.setIfInBounds_toArray, List.set_cons_zero, List.set_cons_succ]
    refine wpAnyH_ready (rs := [17]) (by kernel_rfl) (by simp) ?_
    refine AllReadyH.cons (o := { dst := some 54, op := Op.call { callee := Callee.builtin Builtin.append, args := #[Operand.tmp 41, Operand.tmp 53], argTypes := #[98, 98] }, type := 98, pos := "end.go:163", after := #[{ on := 4, ground := Ground.data }, { on := 16, ground := Ground.data }], guard := none }) rfl (fun K hK => ?_) AllReadyH.nil
    refine step_append_lies _ (by rfl) (.tmp 41) (.tmp 53) 98 (by rfl) B 241 i0 _ 62 80 Tryz.underlying98 hi0 hz0 hz1 hz2 HZS.out (by decide) (.slice ao 0 c) 0 (lds e.ls) (by rfl) (HOW.out.alloc _) ⟨X.drew.heap.size, 0, none⟩ 1 1 L.toList (by rfl) HLO.out.1 (HNW.out _) HLO.out.2 (by decide) (by have := HNL.out; unfold maxLen; omega) (by have := HNL.out; omega) (by rw [World.size_alloc]; have := HBX.out; omega) (X.drew.heap.size + 1) (by rw [World.size_alloc]) ?_
    intro g cap w1 hown1 hgrow hat hlt
    have g124 : w1.cell? ⟨eb, pz + 124, none⟩ = some (.slice ao 0 c) := (hgrow.cell_far ⟨eb, pz + 124, none⟩ hbl2 hap).trans ((World.cell?_alloc_lt _ _ _ hbl).trans d124)
    have gf : w1.frozen? ⟨eb, pz + 124, none⟩ = false := (hgrow.frozen_far ⟨eb, pz + 124, none⟩ hbl2 hap).trans ((World.frozen?_alloc_past _ _ _ hbl).trans e124)
    have S1 : w1.cell? ⟨eb, pz + 122, none⟩ = some (.int .i64 (m : Int)) := (hgrow.cell_far ⟨eb, pz + 122, none⟩ hbl2 hap).trans hHeld.1
    have S2 : w1.rangeAt w.heap.size 0 (brow f) := fun j v hv => by
      have hh := hHeld.2 j v hv
      exact (hgrow.cell_far ⟨w.heap.size, 0 + j, none⟩ (World.block_lt_of_cell? _ _ hh) HNB.out).trans hh
    refine hK.out _ _ ⟨S1, S2⟩ (fun hHeld => ?_)
    clear hK K
    try simp only [Act.put, List.setIfInBounds_toArray, List.set_cons_zero, List.set_cons_succ]
    refine wpAnyH_take (i := 18) (oi := { dst := some 55, op := Op.nilCheck (Operand.tmp 37), type := 0, pos := "end.go:163", after := #[{ on := 0, ground := Ground.data }, { on := 0, ground := Ground.phase }, { on := 1, ground := Ground.phase }, { on := 2, ground := Ground.phase }, { on := 3, ground := Ground.phase }, { on := 4, ground := Ground.phase }, { on := 5, ground := Ground.phase }, { on := 6, ground := Ground.phase }, { on := 7, ground := Ground.phase }, { on := 8, ground := Ground.phase }, { on := 9, ground := Ground.phase }, { on := 10, ground := Ground.phase }, { on := 11, ground := Ground.phase }, { on := 12, ground := Ground.phase }, { on := 13, ground := Ground.phase }, { on := 14, ground := Ground.phase }, { on := 15, ground := Ground.phase }, { on := 16, ground := Ground.phase }, { on := 17, ground := Ground.phase }], guard := none }) (v := (.pointer (some ⟨eb, pz, none⟩))) rfl (by kernel_rfl) (by kernel_rfl) (by kernel_rfl) (fun _ _ _ h => h) (Or.inl ⟨by rfl, ?_⟩) (by assumption) ?_
    · intro wx hSw
      obtain ⟨s0, s1⟩ := hSw
      go_simp
    try simp only [Act.put, List.setIfInBounds_toArray, List.set_cons_zero, List.set_cons_succ]
    refine wpAnyH_take (i := 19) (oi := { dst := some 56, op := Op.fieldAddr 104 (Operand.tmp 55) 6, type := 0, pos := "end.go:163", after := #[{ on := 18, ground := Ground.data }, { on := 0, ground := Ground.phase }, { on := 1, ground := Ground.phase }, { on := 2, ground := Ground.phase }, { on := 3, ground := Ground.phase }, { on := 4, ground := Ground.phase }, { on := 5, ground := Ground.phase }, { on := 6, ground := Ground.phase }, { on := 7, ground := Ground.phase }, { on := 8, ground := Ground.phase }, { on := 9, ground := Ground.phase }, { on := 10, ground := Ground.phase }, { on := 11, ground := Ground.phase }, { on := 12, ground := Ground.phase }, { on := 13, ground := Ground.phase }, { on := 14, ground := Ground.phase }, { on := 15, ground := Ground.phase }, { on := 16, ground := Ground.phase }, { on := 17, ground := Ground.phase }], guard := none }) (v := (.pointer (some ⟨eb, pz + 124, none⟩))) rfl (by kernel_rfl) (by kernel_rfl) (by kernel_rfl) (fun _ _ _ h => h) (Or.inl ⟨by rfl, ?_⟩) (by assumption) ?_
    · intro wx hSw
      obtain ⟨s0, s1⟩ := hSw
      go_simp
    try simp only [Act.put, List.setIfInBounds_toArray, List.set_cons_zero, List.set_cons_succ]
    refine wpAnyH_ready (rs := [20]) (by kernel_rfl) (by simp) ?_
    refine AllReadyH.cons (o := { dst := none, op := Op.store 98 (Operand.tmp 56) (Operand.tmp 54), type := 0, pos := "end.go:163", after := #[{ on := 19, ground := Ground.data }, { on := 17, ground := Ground.data }, { on := 17, ground := Ground.chain }, { on := 0, ground := Ground.phase }, { on := 1, ground := Ground.phase }, { on := 2, ground := Ground.phase }, { on := 3, ground := Ground.phase }, { on := 4, ground := Ground.phase }, { on := 5, ground := Ground.phase }, { on := 6, ground := Ground.phase }, { on := 7, ground := Ground.phase }, { on := 8, ground := Ground.phase }, { on := 9, ground := Ground.phase }, { on := 10, ground := Ground.phase }, { on := 11, ground := Ground.phase }, { on := 12, ground := Ground.phase }, { on := 13, ground := Ground.phase }, { on := 14, ground := Ground.phase }, { on := 15, ground := Ground.phase }, { on := 16, ground := Ground.phase }, { on := 17, ground := Ground.phase }], guard := none }) rfl (fun K hK => ?_) AllReadyH.nil
    go_simp
    refine hK.out _ _ ⟨(World.cell?_setCell_other _ _ _ _ (fun e' => by injection e' with _ e' _; omega)).trans S1, fun j v hv => (World.cell?_setCell_other _ _ _ _ (fun e' => by injection e' with e' _ _; exact HEW.out e')).trans (S2 j v hv)⟩ (fun hHeld => ?_)
    clear hK K
    refine wpAnyH_done (by kernel_rfl) (NoPanic.normal ?_) _
    go_wp2_with fail
    refine Go.Great.bodyPost_end0 rfl rfl ⟨rfl, _, HKP.out w1 g cap hgrow hown1 hat⟩

end Go.Proofs.YtdokgalidhmbbaaGreatDoor.Ez
namespace Go.Proofs.YtdokgalidhmbbaaGreatDoor.Ez
open Go.RowKit Go.Lib Go.Sort


open Sx (bat)
variable {pz : Nat} {Qz : Nat → Option Value}
/-- keep, of the packet that is being made. -/
def KeepPK (pz : Nat) (Qz : Nat → Option Value) (e : En) : Prop := ∀ (w : World) (B eb : Nat) (vl vc : Value), EP pz Qz w B eb vl vc e → Calls Tryz.prog 127 #[.pointer (some ⟨eb, pz, none⟩), .agg (brow (hadF (pk e).1 (pk e).2)).toArray] w fun ex w' => ex = .returned (.tuple #[]) ∧ ∃ vl', KeepP pz Qz w w' B eb vl vc e vl' (keepL e.ls e.m (pk e).1 (pk e).2)
theorem keepOK_nil {e : En} (h0 : e.ls = []) : KeepPK pz Qz e := fun w B eb vl vc h => by
  rw [h0]
  have := keep_nil h (a := (pk e).1) (b := (pk e).2) rfl (by rw [h0]; simp) h0
  rw [h0] at this
  exact this
theorem TurnP.made {w w' : World} {B eb : Nat} {vl vc vl' : Value} {e : En} (h : EP pz Qz w B eb vl vc e) (h0 : makeF e = 0) (hk : KeepP pz Qz w w' B eb vl vc e vl' (keepL e.ls e.m (pk e).1 (pk e).2)) {z : Int} (hz : z = ((e.m + 1 : Nat) : Int)) :
    TurnP pz Qz w (w'.setCell ⟨eb, pz + 122, none⟩ (.int .i64 z)) B eb vl vc (makeS e) := by
  subst hz
  have hi := h.inv.make
  have hs : makeS e = { e with ls := keepL e.ls e.m (pk e).1 (pk e).2, m := e.m + 1 } := by unfold makeS; rw [if_pos h0]
  rw [hs] at hi ⊢
  refine ⟨vl', vc, ⟨hi, fun i hi => ?_, fun i => by simpa using hk.fz i, fun i hi => (World.cell?_setCell_other _ _ _ _ (fun e' => by injection e' with _ e' _; omega)).trans (hk.rs i hi), h.hs, ?_, ?_, hk.ap, h.ap.2⟩, hk.off.setCell (a := ⟨eb, pz + 122, none⟩) (.inl rfl) _, fun k hk' => ?_⟩
  · by_cases e1 : i = 122
    · subst e1
      rw [ecell_made]
      exact World.cell?_setCell_same _ _ _ (hk.cl 122 (by omega))
    · rw [ecell_m e1, World.cell?_setCell_other _ _ _ _ (fun e' => by injection e' with _ e' _; omega)]
      exact hk.cl i hi
  · exact ((Off.refl (fun k => k = eb) w').setCell (a := ⟨eb, pz + 122, none⟩) rfl _).row hk.ld (fun k hk' e' => by subst e'; exact hk.ap hk')
  · exact ((Off.refl (fun k => k = eb) w').setCell (a := ⟨eb, pz + 122, none⟩) rfl _).row hk.cm (fun k hk' e' => by subst e'; exact h.ap.2 hk')
  · rcases hk' with rfl | hk' | hk'
    · exact .inl (.inl rfl)
    · rcases hk.own k hk' with h | h
      · exact .inl (.inr (.inl h))
      · exact .inr h
    · exact .inl (.inr (.inr hk'))
set_option maxRecDepth 100000 in
set_option maxHeartbeats 4000000 in
theorem make_calls {w : World} {B eb : Nat} {vl vc : Value} {e : En} (h : EP pz Qz w B eb vl vc e) (hK : KeepPK pz Qz e) (hF : V.Forms w) (hC : Cnts w) :
    Calls Tryz.prog 100 #[.pointer (some ⟨eb, pz, none⟩)] w fun ex w' => ex = .returned (.string (makeB e)) ∧ TurnP pz Qz w w' B eb vl vc (makeS e) := by
  have HO : Hid (EP pz Qz w B eb vl vc e) := h
  have HV : Hid (V.Forms w ∧ Cnts w) := ⟨hF, hC⟩
  have HKO : Hid (KeepPK pz Qz e) := hK
  have HPI := pieces_calls h
  have hpb : ∀ p ∈ pieces e, p.1 + p.2.size ≤ 60 := fun p hp => by
    have := pcs_each e.d (en e) (en_le e) 3 e.t p hp
    have := h.inv.en60
    omega
  have HPB : Hid (∀ p ∈ pieces e, p.1 + p.2.size ≤ 60) := hpb
  have c122 := h.cl 122 (by omega)
  have c123 := h.cl 123 (by omega)
  rw [ecell_made] at c122
  rw [ecell_known] at c123
  have heb := h.lt
  have hfl : (frs e).length ≤ 1000000 := by
    have := pcs_length e.d (en e) 3 e.t
    unfold frs pieces
    split <;> simp <;> omega
  have HP : Hid (∀ b1 w2 v2 us, FOwn w2 b1 v2 us (frs e) → Below w.heap.size w w2 → Calls Tryz.prog 125 #[.int .i64 e.m, .int .i64 e.k, v2] w2 fun ex w' => ex = .returned (.tuple #[.string (makeB e), errV (makeF e)]) ∧ Below w2.heap.size w2 w') := by
    show ∀ b1 w2 v2 us, _ → _ → _
    intro b1 w2 v2 us h1 h2
    by_cases h0 : makeF e = 0
    · rw [h0, errV_0]
      have e1 : makeB e = pkS e.m e.k (frs e) := by unfold makeB; rw [if_pos h0]
      rw [e1]
      exact pkt_print_ok e.m e.k v2 (frs e) w2 (HV.out.1.below h2) (HV.out.2.below h2) (h1.row hfl) h0
    · have e1 : makeB e = nilB := by unfold makeB; rw [if_neg h0]
      rw [e1]
      exact pkt_print_no e.m e.k v2 (frs e) w2 (HV.out.1.below h2) (HV.out.2.below h2) (h1.row hfl) h0
  have HM : Hid (makeF e = 0 → (e.m : Int) ≤ 1073741823) := fun h0 => by have := makeF_m h0; omega
  clear hfl
  obtain ⟨ff, hff⟩ : ∃ ff, makeF e = ff := ⟨_, rfl⟩
  obtain ⟨bb, hbb⟩ : ∃ bb, makeB e = bb := ⟨_, rfl⟩
  have HFF : Hid (makeF e = ff) := hff
  rw [hff] at HP
  rw [hbb] at HP ⊢
  rw [hff] at HM
  have HBB : Hid (ff ≠ 0 → bb = { data := #[] }) := fun h0 => by rw [← hbb]; unfold makeB; rw [if_neg (by rw [hff]; exact h0)]; rfl
  clear hff hbb
  generalize hm : (e.m : Int) = m at *
  have HMM : Hid ((e.m : Int) = m) := hm
  generalize e.k = kk at *
  clear hm
  clear h hK hF hC hpb
  go_enter Tryz.func100, Tryz.ntmps100
  go_wp2_with fail
  refine HPI.mono ?_
  rintro ex w1 ⟨v1, rfl, hv1, hb1⟩
  clear HPI
  have k122 : w1.drew.cell? ⟨eb, pz + 122, none⟩ = some (.int .i64 m) := (hb1.cell (p := ⟨eb, pz + 122, none⟩) heb).trans c122
  have k123 : w1.drew.cell? ⟨eb, pz + 123, none⟩ = some (.int .i64 kk) := (hb1.cell (p := ⟨eb, pz + 123, none⟩) heb).trans c123
  have hb1d : Below w.heap.size w w1.drew := hb1.drew
  have heb1 : eb < w1.drew.heap.size := Nat.lt_of_lt_of_le heb hb1.size
  have HFR := frames_calls (HO.out.below hb1d) (show w1.drew.ownsRow w.heap.size 146 2 v1 (pieces e).length (pcell (pieces e)) from hv1)
  have HV1 : Hid (w1.ownsRow w.heap.size 146 2 v1 (pieces e).length (pcell (pieces e))) := hv1
  have HB1D : Hid (Below w.heap.size w w1.drew) := hb1d
  go_wp2_with fail
  go_region_held3 (fun w' => w'.cell? ⟨eb, pz + 122, none⟩ = some (.int .i64 m) ∧ w'.cell? ⟨eb, pz + 123, none⟩ = some (.int .i64 kk)) (go_keep) (first | (go_at_call 126; refine HFR.mono ?_; rintro ex w2 ⟨v2, us, rfl, ho2, hb2⟩; obtain ⟨a2, c2, hv2⟩ := own_sh ho2.own; subst hv2; have q0 := (hb2.cell (p := ⟨eb, pz + 122, none⟩) heb1).trans k122; have q1 := (hb2.cell (p := ⟨eb, pz + 123, none⟩) heb1).trans k123; have hB2 := HB1D.out.trans (hb2.mono HB1D.out.size); have heb2 := Nat.lt_of_lt_of_le heb1 hb2.size) | (go_at_call 125; refine (HP.out _ _ _ _ ho2 hB2).mono ?_; rintro ex w3 ⟨rfl, hb3⟩; have r0 := (hb3.cell (p := ⟨eb, pz + 122, none⟩) heb2).trans q0; have r1 := (hb3.cell (p := ⟨eb, pz + 123, none⟩) heb2).trans q1; have hB3 := hB2.trans (hb3.mono hB2.size)))
  have HB3 : Hid (Below w.heap.size w w3) := hB3
  have hw13 : Below w1.heap.size w1 w3 := (show Below w1.heap.size w1 w2 from ⟨hb2.os, hb2.tape, hb2.output, hb2.size, hb2.block⟩).trans (hb3.mono hb2.size)
  have HW13 : Hid (Below w1.heap.size w1 w3) := hw13
  clear hb2 hb3 hB2 hB3 ho2 hw13 q0 q1 r1 k122 k123 HFR HP c122 c123 hb1 hb1d heb2 heb1
  by_cases h0 : ff = 0
  · subst h0
    rw [errV_0]
    have HPL := placesOf_calls (own_below HV1.out HW13.out) (pcs_length _ _ _ _) HPB.out
    have HPK : Hid (brow (hadB (pieces e)) = brow (hadF (pk e).1 (pk e).2)) := brow_ext fun i _ => hadB_pieces HO.out.inv i
    rw [HPK.out] at HPL
    generalize hA : (brow (hadF (pk e).1 (pk e).2)).toArray = arr at HPL
    have hm2 := HM.out rfl
    have hm0 : 0 ≤ m := by have := HMM.out; omega
    have u1 := Sx.wrap_small (m + 1) (by omega) (by omega)
    go_wp2_with (first | (go_at_call 128; refine HPL.mono ?_; rintro ex w4 ⟨rfl, hb4⟩; have hB4 := HB3.out.trans (hb4.mono HB3.out.size); have HKE := HKO.out w4 B eb vl vc (HO.out.below hB4); rw [hA] at HKE) | (go_at_call 127; refine HKE.mono ?_; rintro ex w5 ⟨rfl, vl', kp⟩; have d122 := kp.cl 122 (by omega); rw [ecell_made, HMM.out] at d122; have f122 := kp.fz (pz + 122)))
    go_ret
    refine ⟨rfl, ?_⟩
    have h1 : TurnP pz Qz w4 _ B eb vl vc (makeS e) := TurnP.made (HO.out.below hB4) HFF.out kp (z := m + 1) (by rw [← HMM.out]; omega)
    exact TurnP.trans (HO.out.below hB4) (Off.of_below hB4) (fun k hk => .inl hk) h1
  · have hbb := HBB.out h0
    subst hbb
    have hs : makeS e = e := by unfold makeS; rw [if_neg (by rw [HFF.out]; exact h0)]
    rw [errV_f h0]
    go_wp2_with fail
    go_ret
    exact ⟨rfl, TurnP.below HO.out HB3.out⟩

end Go.Proofs.YtdokgalidhmbbaaGreatDoor.Ez
namespace Go.Proofs.YtdokgalidhmbbaaGreatDoor.Ez
open Go.RowKit Go.Lib Go.Sort


open Sx (bat)
variable {pz : Nat} {Qz : Nat → Option Value}
/-- The last load has one packet more. -/
theorem KeepP.same {w X : World} {B eb k g cap m a b : Nat} {vl vc : Value} {e : En} {front : List Ld} {y : Ld} (h : EP pz Qz w B eb vl vc e) (hX : Below w.heap.size w X) (hls : e.ls = front ++ [y]) (hk : k = front.length) (ha : y.a = a) (hb : y.b = b) (hvl : vl = .slice (some ⟨g, 0, none⟩) (k + 1) cap) :
    KeepP pz Qz w (X.setCell ⟨g, k * 62 + 1, none⟩ (.int .i64 (m : Int))).drew B eb vl vc e vl (front ++ [⟨y.lo, m, a, b⟩]) := by
  subst hk hvl
  have hX1 := h.below hX
  have hne : g ≠ eb := fun e' => h.ap.1 (by rw [e']; rfl)
  have o : Off (fun j => j = g) X (X.setCell ⟨g, front.length * 62 + 1, none⟩ (.int .i64 (m : Int))) := (Off.refl _ _).setCell (K := fun j => j = g) (a := ⟨g, front.length * 62 + 1, none⟩) rfl _
  have o2 : Off (OwnE eb (.slice (some ⟨g, 0, none⟩) (front.length + 1) cap) vc) w (X.setCell ⟨g, front.length * 62 + 1, none⟩ (.int .i64 (m : Int))).drew := ((Off.of_below hX).trans (o.mono fun j _ hj => .inr (.inl (by rw [hj]; rfl)))).drew
  have hld := hX1.ld
  rw [hls] at hld
  have hl1 : (front ++ [y]).length = front.length + 1 := by simp
  rw [hl1] at hld
  have hst := (hld.stored (front.length * 62 + 1) (.int .i64 (m : Int))).1
  have e5 : (lds (front ++ [y])).set (front.length * 62 + 1) (.int .i64 (m : Int)) = lds (front ++ [⟨y.lo, m, a, b⟩]) := by
    rw [lds_append, lds_append, List.set_append, lds_length, if_neg (by omega)]
    have : front.length * 62 + 1 - front.length * 62 = 1 := by omega
    rw [this]
    simp [lds, lds1, ha, hb]
  rw [e5] at hst
  refine ⟨fun i hi => ?_, fun i => ?_, fun i hi => by show (X.setCell _ _).cell? _ = _; rw [World.cell?_setCell_other _ _ _ _ (fun e' => by injection e' with e' _ _; exact hne e')]; exact hX1.rs i hi, ?_, ?_, h.ap.1, o2, fun j hj => .inl hj⟩
  · show (X.setCell _ _).cell? _ = _
    rw [World.cell?_setCell_other _ _ _ _ (fun e' => by injection e' with e' _ _; exact hne e')]
    exact hX1.cl i hi
  · show (X.setCell _ _).frozen? _ = _
    rw [World.frozen?_setCell]
    exact hX1.fz i
  · rw [List.length_append]
    exact hst
  · exact o.row hX1.cm fun j hj e' => by
      subst e'
      exact loads_apart h.ld h.cm j hj rfl

set_option maxRecDepth 100000 in
set_option maxHeartbeats 4000000 in
theorem keep_same {w : World} {B eb : Nat} {vl vc : Value} {e : En} (h : EP pz Qz w B eb vl vc e) {a b m : Nat} (hm : e.m = m) (hl1000 : e.ls.length ≤ 1073741824) {front : List Ld} {y : Ld} (hls : e.ls = front ++ [y]) (hab : a < b ∨ (a = 0 ∧ b = 0)) (hb60 : b ≤ 60) (hsame : y.a = a ∧ y.b = b) :
    Calls Tryz.prog 127 #[.pointer (some ⟨eb, pz, none⟩), .agg (brow (hadF a b)).toArray] w fun ex w' => ex = .returned (.tuple #[]) ∧ ∃ vl', KeepP pz Qz w w' B eb vl vc e vl' (front ++ [⟨y.lo, m, a, b⟩]) := by
  obtain ⟨f, hf⟩ : ∃ f, hadF a b = f := ⟨_, rfl⟩
  have HF : Hid (hadF a b = f) := hf
  have hy := h.inv.ls y (by rw [hls]; simp)
  have HEQ : Hid (((List.range 60).all fun i => hadF y.a y.b i == f i) = true) := by
    show _ = _
    rw [← hf, had_same hy.2.1 hab (Nat.le_trans hy.2.2.2 h.inv.en60) hb60]
    exact decide_eq_true hsame
  rw [hf]
  obtain ⟨f0, hf0⟩ : ∃ f0, hadF y.a y.b = f0 := ⟨_, rfl⟩
  rw [hf0] at HEQ
  obtain ⟨k, hk⟩ : ∃ k, front.length = k := ⟨_, rfl⟩
  have hlen : e.ls.length = k + 1 := by rw [hls, List.length_append, hk]; rfl
  have hld := h.ld
  obtain ⟨g, cap, hvl, _, _⟩ := hld.form (by omega)
  rw [hlen] at hvl
  obtain ⟨n, hn⟩ : ∃ n, k + 1 = n := ⟨_, rfl⟩
  rw [hn] at hvl hlen
  have HO : Hid (EP pz Qz w B eb vl vc e) := h
  have HVL : Hid (vl = .slice (some ⟨g, 0, none⟩) e.ls.length cap) := by show _ = _; rw [hvl, hlen]
  have HLN : Hid (e.ls.length = n) := hlen
  have HNL : Hid (n ≤ 1073741824) := by rw [← hlen]; exact hl1000
  obtain ⟨i0, hi0, hz0, hz1, hz2⟩ := info_parts infoL
  have hX0 : Below w.heap.size w (w.alloc (.cells (brow f).toArray 97)) := (Below.refl _ _).alloc (Nat.le_refl _) _
  have dr1 : (w.alloc (.cells (brow f).toArray 97)).drew.rangeAt w.heap.size 0 (brow f) := range_new w 97 60 _
  have k124 := (hX0.cell (p := ⟨eb, pz + 124, none⟩) h.lt).trans (h.cl 124 (by omega))
  rw [ecell_loads, hvl] at k124
  have d124 : (w.alloc (.cells (brow f).toArray 97)).drew.cell? ⟨eb, pz + 124, none⟩ = some (.slice (some ⟨g, 0, none⟩) n cap) := k124
  have dr0 : (w.alloc (.cells (brow f).toArray 97)).drew.rangeAt g (k * 62 + 2) (brow f0) := row_at_mid fun i hi => by
    have h1 := own_below hld hX0
    rw [hvl, hlen] at h1
    have h2 := h1.cellAt (k * 62 + 2 + i) (by omega)
    have h3 := lds_at e.ls k (2 + i) (by omega) (by omega)
    have h4 : e.ls[k]'(by omega) = y := by simp [hls, ← hk]
    rw [h4, lds1_brow] at h3
    rw [show k * 62 + 2 + i = k * 62 + (2 + i) by omega, h3] at h2
    rw [show k * 62 + 2 + i = k * 62 + (2 + i) by omega]
    refine Eq.trans h2 ?_
    rw [show 2 + i = i + 1 + 1 by omega]
    simp only [List.getElem?_cons_succ]
    rw [brow_get hi, ← hf0]
  have hu : Tryz.prog.underlying 97 = some (.array 60 4) := by kernel_rfl
  have gn : (n : Int) - 1 = (k : Int) := by omega
  have gk0 : (0 : Int) ≤ (k : Int) := by omega
  have gk1 : (k : Int) < (n : Int) := by omega
  have gk2 : (k : Int) ≤ 1073741824 := by omega
  have hXd : Below w.heap.size w (w.alloc (.cells (brow f).toArray 97)).drew := hX0.drew
  have HKN : Hid (front.length = k ∧ k + 1 = n ∧ e.ls = front ++ [y] ∧ vl = .slice (some ⟨g, 0, none⟩) n cap) := ⟨hk, hn, hls, hvl⟩
  clear h hld hk hn hls hvl hl1000 hf hf0 hlen hy
  generalize hA : (brow f).toArray = arr at hX0 dr0 dr1 k124 d124 hXd ⊢
  go_enter Tryz.func127, Tryz.ntmps127
  go_wp2_with fail
  refine wp_region_noPanic ?_
  refine wp_region_held_drew (S := fun w' => w'.cell? ⟨eb, pz + 124, none⟩ = some (.slice (some ⟨g, 0, none⟩) n cap) ∧ w'.rangeAt g (k * 62 + 2) (brow f0) ∧ w'.rangeAt w.heap.size 0 (brow f)) (by kernel_rfl) ⟨d124, dr0, dr1⟩ (fun hHeld => ?_)
  refine wpAnyH_take (i := 0) (oi := { dst := some 11, op := Op.move (Operand.tmp 4), type := 3, pos := "end.go:159", after := #[], guard := none }) (v := (.int .i64 (k : Int))) rfl (by kernel_rfl) (by kernel_rfl) (by kernel_rfl) (fun _ _ _ h => h) (Or.inl ⟨by rfl, ?_⟩) (by assumption) ?_
  · intro wx hSw
    obtain ⟨s0, s1, s2⟩ := hSw
    go_simp
  try simp only [Act.put, List.setIfInBounds_toArray, List.set_cons_zero, List.set_cons_succ]
  refine wpAnyH_take (i := 1) (oi := { dst := some 12, op := Op.binOp BinOp.geq 3 (Operand.tmp 11) (Operand.const (Value.int IntKind.i64 0)) 3, type := 4, pos := "end.go:159", after := #[{ on := 0, ground := Ground.data }], guard := none }) (v := (.bool true)) rfl (by kernel_rfl) (by kernel_rfl) (by kernel_rfl) (fun _ _ _ h => h) (Or.inl ⟨by rfl, ?_⟩) (by assumption) ?_
  · intro wx hSw
    obtain ⟨s0, s1, s2⟩ := hSw
    go_simp
  try simp only [Act.put, List.setIfInBounds_toArray, List.set_cons_zero, List.set_cons_succ]
  refine wpAnyH_take (i := 2) (oi := { dst := some 13, op := Op.move (Operand.tmp 12), type := 4, pos := "end.go:159", after := #[{ on := 1, ground := Ground.data }], guard := none }) (v := (.bool true)) rfl (by kernel_rfl) (by kernel_rfl) (by kernel_rfl) (fun _ _ _ h => h) (Or.inl ⟨by rfl, ?_⟩) (by assumption) ?_
  · intro wx hSw
    obtain ⟨s0, s1, s2⟩ := hSw
    go_simp
  try simp only [Act.put, List.setIfInBounds_toArray, List.set_cons_zero, List.set_cons_succ]
  refine wpAnyH_take (i := 3) (oi := { dst := some 14, op := Op.move (Operand.tmp 0), type := 108, pos := "end.go:159", after := #[{ on := 2, ground := Ground.guard }], guard := some (2, true) }) (v := (.pointer (some ⟨eb, pz, none⟩))) rfl (by kernel_rfl) (by kernel_rfl) (by kernel_rfl) (fun _ _ _ h => h) (Or.inl ⟨by rfl, ?_⟩) (by assumption) ?_
  · intro wx hSw
    obtain ⟨s0, s1, s2⟩ := hSw
    go_simp
  try simp only [Act.put, List.setIfInBounds_toArray, List.set_cons_zero, List.set_cons_succ]
  refine wpAnyH_take (i := 4) (oi := { dst := some 15, op := Op.nilCheck (Operand.tmp 14), type := 0, pos := "end.go:159", after := #[{ on := 3, ground := Ground.data }, { on := 2, ground := Ground.guard }], guard := some (2, true) }) (v := (.pointer (some ⟨eb, pz, none⟩))) rfl (by kernel_rfl) (by kernel_rfl) (by kernel_rfl) (fun _ _ _ h => h) (Or.inl ⟨by rfl, ?_⟩) (by assumption) ?_
  · intro wx hSw
    obtain ⟨s0, s1, s2⟩ := hSw
    go_simp
  try simp only [Act.put, List.setIfInBounds_toArray, List.set_cons_zero, List.set_cons_succ]
  refine wpAnyH_take (i := 5) (oi := { dst := some 16, op := Op.fieldAddr 104 (Operand.tmp 15) 6, type := 0, pos := "end.go:159", after := #[{ on := 4, ground := Ground.data }, { on := 2, ground := Ground.guard }], guard := some (2, true) }) (v := (.pointer (some ⟨eb, pz + 124, none⟩))) rfl (by kernel_rfl) (by kernel_rfl) (by kernel_rfl) (fun _ _ _ h => h) (Or.inl ⟨by rfl, ?_⟩) (by assumption) ?_
  · intro wx hSw
    obtain ⟨s0, s1, s2⟩ := hSw
    go_simp
  try simp only [Act.put, List.setIfInBounds_toArray, List.set_cons_zero, List.set_cons_succ]
  refine wpAnyH_take (i := 6) (oi := { dst := some 17, op := Op.load 98 (Operand.tmp 16), type := 98, pos := "end.go:159", after := #[{ on := 5, ground := Ground.data }, { on := 2, ground := Ground.guard }], guard := some (2, true) }) (v := (.slice (some ⟨g, 0, none⟩) n cap)) rfl (by kernel_rfl) (by kernel_rfl) (by kernel_rfl) (fun _ _ _ h => h) (Or.inl ⟨by rfl, ?_⟩) (by assumption) ?_
  · intro wx hSw
    obtain ⟨s0, s1, s2⟩ := hSw
    go_simp
  try simp only [Act.put, List.setIfInBounds_toArray, List.set_cons_zero, List.set_cons_succ]
  refine wpAnyH_take (i := 7) (oi := { dst := some 18, op := Op.move (Operand.tmp 4), type := 3, pos := "end.go:159", after := #[{ on := 2, ground := Ground.guard }], guard := some (2, true) }) (v := (.int .i64 (k : Int))) rfl (by kernel_rfl) (by kernel_rfl) (by kernel_rfl) (fun _ _ _ h => h) (Or.inl ⟨by rfl, ?_⟩) (by assumption) ?_
  · intro wx hSw
    obtain ⟨s0, s1, s2⟩ := hSw
    go_simp
  try simp only [Act.put, List.setIfInBounds_toArray, List.set_cons_zero, List.set_cons_succ]
  refine wpAnyH_take (i := 8) (oi := { dst := some 19, op := Op.indexAddr 98 (Operand.tmp 17) (Operand.tmp 18), type := 0, pos := "end.go:159", after := #[{ on := 6, ground := Ground.data }, { on := 7, ground := Ground.data }, { on := 2, ground := Ground.guard }], guard := some (2, true) }) (v := (.pointer (some ⟨g, k * 62, none⟩))) rfl (by kernel_rfl) (by kernel_rfl) (by kernel_rfl) (fun _ _ _ h => h) (Or.inl ⟨by rfl, ?_⟩) (by assumption) ?_
  · intro wx hSw
    obtain ⟨s0, s1, s2⟩ := hSw
    go_simp
  try simp only [Act.put, List.setIfInBounds_toArray, List.set_cons_zero, List.set_cons_succ]
  refine wpAnyH_take (i := 9) (oi := { dst := some 20, op := Op.fieldAddr 241 (Operand.tmp 19) 1, type := 0, pos := "end.go:159", after := #[{ on := 8, ground := Ground.data }, { on := 2, ground := Ground.guard }], guard := some (2, true) }) (v := (.pointer (some ⟨g, k * 62 + 2, none⟩))) rfl (by kernel_rfl) (by kernel_rfl) (by kernel_rfl) (fun _ _ _ h => h) (Or.inl ⟨by rfl, ?_⟩) (by assumption) ?_
  · intro wx hSw
    obtain ⟨s0, s1, s2⟩ := hSw
    go_simp
  try simp only [Act.put, List.setIfInBounds_toArray, List.set_cons_zero, List.set_cons_succ]
  refine wpAnyH_take (i := 10) (oi := { dst := some 21, op := Op.load 97 (Operand.tmp 20), type := 97, pos := "end.go:159", after := #[{ on := 9, ground := Ground.data }, { on := 2, ground := Ground.guard }], guard := some (2, true) }) (v := .agg (brow f0).toArray) rfl (by kernel_rfl) (by kernel_rfl) (by kernel_rfl) (fun _ _ _ h => h) (yieldsIf_load_mid (by rfl) 97 (.tmp 20) rfl g (k * 62 + 2) rfl (brow f0) (.array 60 4) (fun _ h => h.2.1) hu rfl (by rw [brow_length]; exact size_places)) (by assumption) ?_
  try simp only [Act.put, List.setIfInBounds_toArray, List.set_cons_zero, List.set_cons_succ]
  refine wpAnyH_take (i := 11) (oi := { dst := some 22, op := Op.load 97 (Operand.tmp 3), type := 97, pos := "end.go:159", after := #[{ on := 2, ground := Ground.guard }], guard := some (2, true) }) (v := .agg (brow f).toArray) rfl (by kernel_rfl) (by kernel_rfl) (by kernel_rfl) (fun _ _ _ h => h) (yieldsIf_load_mid (by rfl) 97 (.tmp 3) rfl w.heap.size (0) rfl (brow f) (.array 60 4) (fun _ h => h.2.2) hu rfl (by rw [brow_length]; exact size_places)) (by assumption) ?_
  try simp only [Act.put, List.setIfInBounds_toArray, List.set_cons_zero, List.set_cons_succ]
  refine wpAnyH_take (i := 12) (oi := { dst := some 23, op := Op.binOp BinOp.eql 97 (Operand.tmp 21) (Operand.tmp 22) 97, type := 4, pos := "end.go:159", after := #[{ on := 10, ground := Ground.data }, { on := 11, ground := Ground.data }, { on := 2, ground := Ground.guard }], guard := some (2, true) }) (v := .bool true) rfl (by kernel_rfl) (by kernel_rfl) (by kernel_rfl) (fun _ _ _ h => h) (yields_eql (by rfl) (.tmp 21) (.tmp 22) rfl rfl rfl HEQ.out) (by assumption) ?_
  try simp only [Act.put, List.setIfInBounds_toArray, List.set_cons_zero, List.set_cons_succ]
  refine wpAnyH_take (i := 13) (oi := { dst := some 24, op := Op.pick (Operand.tmp 13) (Operand.tmp 23) (Operand.const (Value.bool false)), type := 4, pos := "end.go:159", after := #[{ on := 2, ground := Ground.data }, { on := 12, ground := Ground.data }], guard := none }) (v := (.bool true)) rfl (by kernel_rfl) (by kernel_rfl) (by kernel_rfl) (fun _ _ _ h => h) (Or.inl ⟨by rfl, ?_⟩) (by assumption) ?_
  · intro wx hSw
    obtain ⟨s0, s1, s2⟩ := hSw
    go_simp
  try simp only [Act.put, List.setIfInBounds_toArray, List.set_cons_zero, List.set_cons_succ]
  refine wpAnyH_done (by kernel_rfl) (NoPanic.normal ?_) _
  clear hHeld
  go_wp2_with fail
  have hXB : Below w.heap.size w (w.alloc (.cells arr 97)).drew := hXd
  generalize (w.alloc (.cells arr 97)).drew = X at *
  have HXB : Hid (Below w.heap.size w X) := hXB
  have x124 : X.drew.cell? ⟨eb, pz + 124, none⟩ = some (.slice (some ⟨g, 0, none⟩) n cap) := d124
  have x122 : X.drew.cell? ⟨eb, pz + 122, none⟩ = some (.int .i64 (m : Int)) := by
    have := (HXB.out.cell (p := ⟨eb, pz + 122, none⟩) HO.out.lt).trans (HO.out.cl 122 (by omega))
    rw [ecell_made, hm] at this
    exact this
  have hgX := own_below HO.out.ld HXB.out
  rw [HKN.out.2.2.2, HLN.out] at hgX
  have xc : X.drew.cell? ⟨g, k * 62 + 1, none⟩ = some (.int .i64 (y.hi : Int)) := by
    have h2 := hgX.cellAt (k * 62 + 1) (by omega)
    have h3 := lds_at e.ls k 1 (by have := HLN.out; omega) (by omega)
    have h4 : e.ls[k]'(by have := HLN.out; omega) = y := by simp [HKN.out.2.2.1, ← HKN.out.1]
    rw [h4] at h3
    rw [h3] at h2
    exact h2
  have xf : X.drew.frozen? ⟨g, k * 62 + 1, none⟩ = false := hgX.frozenAt (k * 62 + 1)
  have hge : Hid (g ≠ eb) := fun e' => HO.out.ap.1 (by rw [HKN.out.2.2.2, e']; rfl)
  have HKS : Hid (KeepP pz Qz w (X.setCell ⟨g, k * 62 + 1, none⟩ (.int .i64 (m : Int))).drew B eb vl vc e vl (front ++ [⟨y.lo, m, a, b⟩])) := KeepP.same HO.out HXB.out HKN.out.2.2.1 HKN.out.1.symm hsame.1 hsame.2 (by rw [HKN.out.2.1]; exact HKN.out.2.2.2)
  clear hgX hXB hXd dr0 dr1 k124 d124 hX0 hA
  refine wp_region_noPanic ?_
  refine wp_region_held_drew (S := fun w' => w'.cell? ⟨eb, pz + 124, none⟩ = some (.slice (some ⟨g, 0, none⟩) n cap) ∧ w'.cell? ⟨eb, pz + 122, none⟩ = some (.int .i64 (m : Int))) (by kernel_rfl) ⟨x124, x122⟩ (fun hHeld => ?_)
  refine wpAnyH_take (i := 0) (oi := { dst := some 25, op := Op.move (Operand.tmp 0), type := 108, pos := "end.go:160", after := #[], guard := none }) (v := (.pointer (some ⟨eb, pz, none⟩))) rfl (by kernel_rfl) (by kernel_rfl) (by kernel_rfl) (fun _ _ _ h => h) (Or.inl ⟨by rfl, ?_⟩) (by assumption) ?_
  · intro wx hSw
    obtain ⟨s0, s1⟩ := hSw
    go_simp
  try simp only [Act.put, List.setIfInBounds_toArray, List.set_cons_zero, List.set_cons_succ]
  refine wpAnyH_take (i := 1) (oi := { dst := some 26, op := Op.nilCheck (Operand.tmp 25), type := 0, pos := "end.go:160", after := #[{ on := 0, ground := Ground.data }], guard := none }) (v := (.pointer (some ⟨eb, pz, none⟩))) rfl (by kernel_rfl) (by kernel_rfl) (by kernel_rfl) (fun _ _ _ h => h) (Or.inl ⟨by rfl, ?_⟩) (by assumption) ?_
  · intro wx hSw
    obtain ⟨s0, s1⟩ := hSw
    go_simp
  try simp only [Act.put, List.setIfInBounds_toArray, List.set_cons_zero, List.set_cons_succ]
  refine wpAnyH_take (i := 2) (oi := { dst := some 27, op := Op.fieldAddr 104 (Operand.tmp 26) 6, type := 0, pos := "end.go:160", after := #[{ on := 1, ground := Ground.data }], guard := none }) (v := (.pointer (some ⟨eb, pz + 124, none⟩))) rfl (by kernel_rfl) (by kernel_rfl) (by kernel_rfl) (fun _ _ _ h => h) (Or.inl ⟨by rfl, ?_⟩) (by assumption) ?_
  · intro wx hSw
    obtain ⟨s0, s1⟩ := hSw
    go_simp
  try simp only [Act.put, List.setIfInBounds_toArray, List.set_cons_zero, List.set_cons_succ]
  refine wpAnyH_take (i := 3) (oi := { dst := some 28, op := Op.load 98 (Operand.tmp 27), type := 98, pos := "end.go:160", after := #[{ on := 2, ground := Ground.data }], guard := none }) (v := (.slice (some ⟨g, 0, none⟩) n cap)) rfl (by kernel_rfl) (by kernel_rfl) (by kernel_rfl) (fun _ _ _ h => h) (Or.inl ⟨by rfl, ?_⟩) (by assumption) ?_
  · intro wx hSw
    obtain ⟨s0, s1⟩ := hSw
    go_simp
  try simp only [Act.put, List.setIfInBounds_toArray, List.set_cons_zero, List.set_cons_succ]
  refine wpAnyH_take (i := 4) (oi := { dst := some 29, op := Op.move (Operand.tmp 4), type := 3, pos := "end.go:160", after := #[], guard := none }) (v := (.int .i64 (k : Int))) rfl (by kernel_rfl) (by kernel_rfl) (by kernel_rfl) (fun _ _ _ h => h) (Or.inl ⟨by rfl, ?_⟩) (by assumption) ?_
  · intro wx hSw
    obtain ⟨s0, s1⟩ := hSw
    go_simp
  try simp only [Act.put, List.setIfInBounds_toArray, List.set_cons_zero, List.set_cons_succ]
  refine wpAnyH_take (i := 5) (oi := { dst := some 30, op := Op.move (Operand.tmp 0), type := 108, pos := "end.go:160", after := #[], guard := none }) (v := (.pointer (some ⟨eb, pz, none⟩))) rfl (by kernel_rfl) (by kernel_rfl) (by kernel_rfl) (fun _ _ _ h => h) (Or.inl ⟨by rfl, ?_⟩) (by assumption) ?_
  · intro wx hSw
    obtain ⟨s0, s1⟩ := hSw
    go_simp
  try simp only [Act.put, List.setIfInBounds_toArray, List.set_cons_zero, List.set_cons_succ]
  refine wpAnyH_take (i := 6) (oi := { dst := some 31, op := Op.nilCheck (Operand.tmp 30), type := 0, pos := "end.go:160", after := #[{ on := 5, ground := Ground.data }], guard := none }) (v := (.pointer (some ⟨eb, pz, none⟩))) rfl (by kernel_rfl) (by kernel_rfl) (by kernel_rfl) (fun _ _ _ h => h) (Or.inl ⟨by rfl, ?_⟩) (by assumption) ?_
  · intro wx hSw
    obtain ⟨s0, s1⟩ := hSw
    go_simp
  try simp only [Act.put, List.setIfInBounds_toArray, List.set_cons_zero, List.set_cons_succ]
  refine wpAnyH_take (i := 7) (oi := { dst := some 32, op := Op.fieldAddr 104 (Operand.tmp 31) 4, type := 0, pos := "end.go:160", after := #[{ on := 6, ground := Ground.data }], guard := none }) (v := (.pointer (some ⟨eb, pz + 122, none⟩))) rfl (by kernel_rfl) (by kernel_rfl) (by kernel_rfl) (fun _ _ _ h => h) (Or.inl ⟨by rfl, ?_⟩) (by assumption) ?_
  · intro wx hSw
    obtain ⟨s0, s1⟩ := hSw
    go_simp
  try simp only [Act.put, List.setIfInBounds_toArray, List.set_cons_zero, List.set_cons_succ]
  refine wpAnyH_take (i := 8) (oi := { dst := some 33, op := Op.load 3 (Operand.tmp 32), type := 3, pos := "end.go:160", after := #[{ on := 7, ground := Ground.data }], guard := none }) (v := (.int .i64 (m : Int))) rfl (by kernel_rfl) (by kernel_rfl) (by kernel_rfl) (fun _ _ _ h => h) (Or.inl ⟨by rfl, ?_⟩) (by assumption) ?_
  · intro wx hSw
    obtain ⟨s0, s1⟩ := hSw
    go_simp
  try simp only [Act.put, List.setIfInBounds_toArray, List.set_cons_zero, List.set_cons_succ]
  refine wpAnyH_take (i := 9) (oi := { dst := some 34, op := Op.indexAddr 98 (Operand.tmp 28) (Operand.tmp 29), type := 0, pos := "end.go:160", after := #[{ on := 3, ground := Ground.data }, { on := 4, ground := Ground.data }, { on := 0, ground := Ground.phase }, { on := 1, ground := Ground.phase }, { on := 2, ground := Ground.phase }, { on := 3, ground := Ground.phase }, { on := 4, ground := Ground.phase }, { on := 5, ground := Ground.phase }, { on := 6, ground := Ground.phase }, { on := 7, ground := Ground.phase }, { on := 8, ground := Ground.phase }], guard := none }) (v := (.pointer (some ⟨g, k * 62, none⟩))) rfl (by kernel_rfl) (by kernel_rfl) (by kernel_rfl) (fun _ _ _ h => h) (Or.inl ⟨by rfl, ?_⟩) (by assumption) ?_
  · intro wx hSw
    obtain ⟨s0, s1⟩ := hSw
    go_simp
  try simp only [Act.put, List.setIfInBounds_toArray, List.set_cons_zero, List.set_cons_succ]
  refine wpAnyH_take (i := 10) (oi := { dst := some 35, op := Op.fieldAddr 241 (Operand.tmp 34) 0, type := 0, pos := "end.go:160", after := #[{ on := 9, ground := Ground.data }, { on := 0, ground := Ground.phase }, { on := 1, ground := Ground.phase }, { on := 2, ground := Ground.phase }, { on := 3, ground := Ground.phase }, { on := 4, ground := Ground.phase }, { on := 5, ground := Ground.phase }, { on := 6, ground := Ground.phase }, { on := 7, ground := Ground.phase }, { on := 8, ground := Ground.phase }], guard := none }) (v := (.pointer (some ⟨g, k * 62, none⟩))) rfl (by kernel_rfl) (by kernel_rfl) (by kernel_rfl) (fun _ _ _ h => h) (Or.inl ⟨by rfl, ?_⟩) (by assumption) ?_
  · intro wx hSw
    obtain ⟨s0, s1⟩ := hSw
    go_simp
  try simp only [Act.put, List.setIfInBounds_toArray, List.set_cons_zero, List.set_cons_succ]
  refine wpAnyH_take (i := 11) (oi := { dst := some 36, op := Op.fieldAddr 143 (Operand.tmp 35) 1, type := 0, pos := "end.go:160", after := #[{ on := 10, ground := Ground.data }, { on := 0, ground := Ground.phase }, { on := 1, ground := Ground.phase }, { on := 2, ground := Ground.phase }, { on := 3, ground := Ground.phase }, { on := 4, ground := Ground.phase }, { on := 5, ground := Ground.phase }, { on := 6, ground := Ground.phase }, { on := 7, ground := Ground.phase }, { on := 8, ground := Ground.phase }], guard := none }) (v := (.pointer (some ⟨g, k * 62 + 1, none⟩))) rfl (by kernel_rfl) (by kernel_rfl) (by kernel_rfl) (fun _ _ _ h => h) (Or.inl ⟨by rfl, ?_⟩) (by assumption) ?_
  · intro wx hSw
    obtain ⟨s0, s1⟩ := hSw
    go_simp
  try simp only [Act.put, List.setIfInBounds_toArray, List.set_cons_zero, List.set_cons_succ]
  refine wpAnyH_ready (rs := [12]) (by kernel_rfl) (by simp) ?_
  refine AllReadyH.cons (o := { dst := none, op := Op.store 3 (Operand.tmp 36) (Operand.tmp 33), type := 0, pos := "end.go:160", after := #[{ on := 11, ground := Ground.data }, { on := 8, ground := Ground.data }, { on := 0, ground := Ground.phase }, { on := 1, ground := Ground.phase }, { on := 2, ground := Ground.phase }, { on := 3, ground := Ground.phase }, { on := 4, ground := Ground.phase }, { on := 5, ground := Ground.phase }, { on := 6, ground := Ground.phase }, { on := 7, ground := Ground.phase }, { on := 8, ground := Ground.phase }], guard := none }) rfl (fun K hK => ?_) AllReadyH.nil
  go_simp
  refine hK.out _ _ ⟨(World.cell?_setCell_other _ _ _ _ (fun e' => by injection e' with e' _ _; exact hge.out e')).trans x124, (World.cell?_setCell_other _ _ _ _ (fun e' => by injection e' with e' _ _; exact hge.out e')).trans x122⟩ (fun hHeld => ?_)
  clear hK K
  refine wpAnyH_done (by kernel_rfl) (NoPanic.normal ?_) _
  go_wp2_with fail
  refine bodyPost_ret (results_none rfl _ _) rfl ⟨rfl, _, HKS.out⟩

set_option maxRecDepth 100000 in
set_option maxHeartbeats 4000000 in
theorem keep_new {w : World} {B eb : Nat} {vl vc : Value} {e : En} (h : EP pz Qz w B eb vl vc e) {a b m : Nat} (hm : e.m = m) (hl1000 : e.ls.length ≤ 1073741824) {front : List Ld} {y : Ld} (hls : e.ls = front ++ [y]) (hab : a < b ∨ (a = 0 ∧ b = 0)) (hb60 : b ≤ 60) (hsame : ¬ (y.a = a ∧ y.b = b)) :
    Calls Tryz.prog 127 #[.pointer (some ⟨eb, pz, none⟩), .agg (brow (hadF a b)).toArray] w fun ex w' => ex = .returned (.tuple #[]) ∧ ∃ vl', KeepP pz Qz w w' B eb vl vc e vl' (e.ls ++ [⟨m, m, a, b⟩]) := by
  obtain ⟨f, hf⟩ : ∃ f, hadF a b = f := ⟨_, rfl⟩
  have HF : Hid (hadF a b = f) := hf
  have hy := h.inv.ls y (by rw [hls]; simp)
  have HEQ : Hid (((List.range 60).all fun i => hadF y.a y.b i == f i) = false) := by
    show _ = _
    rw [← hf, had_same hy.2.1 hab (Nat.le_trans hy.2.2.2 h.inv.en60) hb60]
    exact decide_eq_false hsame
  rw [hf]
  obtain ⟨f0, hf0⟩ : ∃ f0, hadF y.a y.b = f0 := ⟨_, rfl⟩
  rw [hf0] at HEQ
  obtain ⟨k, hk⟩ : ∃ k, front.length = k := ⟨_, rfl⟩
  have hlen : e.ls.length = k + 1 := by rw [hls, List.length_append, hk]; rfl
  have hld := h.ld
  obtain ⟨g, cap, hvl, _, _⟩ := hld.form (by omega)
  rw [hlen] at hvl
  obtain ⟨n, hn⟩ : ∃ n, k + 1 = n := ⟨_, rfl⟩
  rw [hn] at hvl hlen
  have HO : Hid (EP pz Qz w B eb vl vc e) := h
  have HVL : Hid (vl = .slice (some ⟨g, 0, none⟩) e.ls.length cap) := by show _ = _; rw [hvl, hlen]
  have HLN : Hid (e.ls.length = n) := hlen
  have HNL : Hid (n ≤ 1073741824) := by rw [← hlen]; exact hl1000
  obtain ⟨i0, hi0, hz0, hz1, hz2⟩ := info_parts infoL
  have hX0 : Below w.heap.size w (w.alloc (.cells (brow f).toArray 97)) := (Below.refl _ _).alloc (Nat.le_refl _) _
  have dr1 : (w.alloc (.cells (brow f).toArray 97)).drew.rangeAt w.heap.size 0 (brow f) := range_new w 97 60 _
  have k124 := (hX0.cell (p := ⟨eb, pz + 124, none⟩) h.lt).trans (h.cl 124 (by omega))
  rw [ecell_loads, hvl] at k124
  have d124 : (w.alloc (.cells (brow f).toArray 97)).drew.cell? ⟨eb, pz + 124, none⟩ = some (.slice (some ⟨g, 0, none⟩) n cap) := k124
  have dr0 : (w.alloc (.cells (brow f).toArray 97)).drew.rangeAt g (k * 62 + 2) (brow f0) := row_at_mid fun i hi => by
    have h1 := own_below hld hX0
    rw [hvl, hlen] at h1
    have h2 := h1.cellAt (k * 62 + 2 + i) (by omega)
    have h3 := lds_at e.ls k (2 + i) (by omega) (by omega)
    have h4 : e.ls[k]'(by omega) = y := by simp [hls, ← hk]
    rw [h4, lds1_brow] at h3
    rw [show k * 62 + 2 + i = k * 62 + (2 + i) by omega, h3] at h2
    rw [show k * 62 + 2 + i = k * 62 + (2 + i) by omega]
    refine Eq.trans h2 ?_
    rw [show 2 + i = i + 1 + 1 by omega]
    simp only [List.getElem?_cons_succ]
    rw [brow_get hi, ← hf0]
  have hu : Tryz.prog.underlying 97 = some (.array 60 4) := by kernel_rfl
  have gn : (n : Int) - 1 = (k : Int) := by omega
  have gk0 : (0 : Int) ≤ (k : Int) := by omega
  have gk1 : (k : Int) < (n : Int) := by omega
  have gk2 : (k : Int) ≤ 1073741824 := by omega
  have hXd : Below w.heap.size w (w.alloc (.cells (brow f).toArray 97)).drew := hX0.drew
  have HKN : Hid (front.length = k ∧ k + 1 = n ∧ e.ls = front ++ [y] ∧ vl = .slice (some ⟨g, 0, none⟩) n cap) := ⟨hk, hn, hls, hvl⟩
  clear h hld hk hn hls hvl hl1000 hf hf0 hlen hy
  generalize hA : (brow f).toArray = arr at hX0 dr0 dr1 k124 d124 hXd ⊢
  go_enter Tryz.func127, Tryz.ntmps127
  go_wp2_with fail
  refine wp_region_noPanic ?_
  refine wp_region_held_drew (S := fun w' => w'.cell? ⟨eb, pz + 124, none⟩ = some (.slice (some ⟨g, 0, none⟩) n cap) ∧ w'.rangeAt g (k * 62 + 2) (brow f0) ∧ w'.rangeAt w.heap.size 0 (brow f)) (by kernel_rfl) ⟨d124, dr0, dr1⟩ (fun hHeld => ?_)
  refine wpAnyH_take (i := 0) (oi := { dst := some 11, op := Op.move (Operand.tmp 4), type := 3, pos := "end.go:159", after := #[], guard := none }) (v := (.int .i64 (k : Int))) rfl (by kernel_rfl) (by kernel_rfl) (by kernel_rfl) (fun _ _ _ h => h) (Or.inl ⟨by rfl, ?_⟩) (by assumption) ?_
  · intro wx hSw
    obtain ⟨s0, s1, s2⟩ := hSw
    go_simp
  try simp only [Act.put, List.setIfInBounds_toArray, List.set_cons_zero, List.set_cons_succ]
  refine wpAnyH_take (i := 1) (oi := { dst := some 12, op := Op.binOp BinOp.geq 3 (Operand.tmp 11) (Operand.const (Value.int IntKind.i64 0)) 3, type := 4, pos := "end.go:159", after := #[{ on := 0, ground := Ground.data }], guard := none }) (v := (.bool true)) rfl (by kernel_rfl) (by kernel_rfl) (by kernel_rfl) (fun _ _ _ h => h) (Or.inl ⟨by rfl, ?_⟩) (by assumption) ?_
  · intro wx hSw
    obtain ⟨s0, s1, s2⟩ := hSw
    go_simp
  try simp only [Act.put, List.setIfInBounds_toArray, List.set_cons_zero, List.set_cons_succ]
  refine wpAnyH_take (i := 2) (oi := { dst := some 13, op := Op.move (Operand.tmp 12), type := 4, pos := "end.go:159", after := #[{ on := 1, ground := Ground.data }], guard := none }) (v := (.bool true)) rfl (by kernel_rfl) (by kernel_rfl) (by kernel_rfl) (fun _ _ _ h => h) (Or.inl ⟨by rfl, ?_⟩) (by assumption) ?_
  · intro wx hSw
    obtain ⟨s0, s1, s2⟩ := hSw
    go_simp
  try simp only [Act.put, List.setIfInBounds_toArray, List.set_cons_zero, List.set_cons_succ]
  refine wpAnyH_take (i := 3) (oi := { dst := some 14, op := Op.move (Operand.tmp 0), type := 108, pos := "end.go:159", after := #[{ on := 2, ground := Ground.guard }], guard := some (2, true) }) (v := (.pointer (some ⟨eb, pz, none⟩))) rfl (by kernel_rfl) (by kernel_rfl) (by kernel_rfl) (fun _ _ _ h => h) (Or.inl ⟨by rfl, ?_⟩) (by assumption) ?_
  · intro wx hSw
    obtain ⟨s0, s1, s2⟩ := hSw
    go_simp
  try simp only [Act.put, List.setIfInBounds_toArray, List.set_cons_zero, List.set_cons_succ]
  refine wpAnyH_take (i := 4) (oi := { dst := some 15, op := Op.nilCheck (Operand.tmp 14), type := 0, pos := "end.go:159", after := #[{ on := 3, ground := Ground.data }, { on := 2, ground := Ground.guard }], guard := some (2, true) }) (v := (.pointer (some ⟨eb, pz, none⟩))) rfl (by kernel_rfl) (by kernel_rfl) (by kernel_rfl) (fun _ _ _ h => h) (Or.inl ⟨by rfl, ?_⟩) (by assumption) ?_
  · intro wx hSw
    obtain ⟨s0, s1, s2⟩ := hSw
    go_simp
  try simp only [Act.put, List.setIfInBounds_toArray, List.set_cons_zero, List.set_cons_succ]
  refine wpAnyH_take (i := 5) (oi := { dst := some 16, op := Op.fieldAddr 104 (Operand.tmp 15) 6, type := 0, pos := "end.go:159", after := #[{ on := 4, ground := Ground.data }, { on := 2, ground := Ground.guard }], guard := some (2, true) }) (v := (.pointer (some ⟨eb, pz + 124, none⟩))) rfl (by kernel_rfl) (by kernel_rfl) (by kernel_rfl) (fun _ _ _ h => h) (Or.inl ⟨by rfl, ?_⟩) (by assumption) ?_
  · intro wx hSw
    obtain ⟨s0, s1, s2⟩ := hSw
    go_simp
  try simp only [Act.put, List.setIfInBounds_toArray, List.set_cons_zero, List.set_cons_succ]
  refine wpAnyH_take (i := 6) (oi := { dst := some 17, op := Op.load 98 (Operand.tmp 16), type := 98, pos := "end.go:159", after := #[{ on := 5, ground := Ground.data }, { on := 2, ground := Ground.guard }], guard := some (2, true) }) (v := (.slice (some ⟨g, 0, none⟩) n cap)) rfl (by kernel_rfl) (by kernel_rfl) (by kernel_rfl) (fun _ _ _ h => h) (Or.inl ⟨by rfl, ?_⟩) (by assumption) ?_
  · intro wx hSw
    obtain ⟨s0, s1, s2⟩ := hSw
    go_simp
  try simp only [Act.put, List.setIfInBounds_toArray, List.set_cons_zero, List.set_cons_succ]
  refine wpAnyH_take (i := 7) (oi := { dst := some 18, op := Op.move (Operand.tmp 4), type := 3, pos := "end.go:159", after := #[{ on := 2, ground := Ground.guard }], guard := some (2, true) }) (v := (.int .i64 (k : Int))) rfl (by kernel_rfl) (by kernel_rfl) (by kernel_rfl) (fun _ _ _ h => h) (Or.inl ⟨by rfl, ?_⟩) (by assumption) ?_
  · intro wx hSw
    obtain ⟨s0, s1, s2⟩ := hSw
    go_simp
  try simp only [Act.put, List.setIfInBounds_toArray, List.set_cons_zero, List.set_cons_succ]
  refine wpAnyH_take (i := 8) (oi := { dst := some 19, op := Op.indexAddr 98 (Operand.tmp 17) (Operand.tmp 18), type := 0, pos := "end.go:159", after := #[{ on := 6, ground := Ground.data }, { on := 7, ground := Ground.data }, { on := 2, ground := Ground.guard }], guard := some (2, true) }) (v := (.pointer (some ⟨g, k * 62, none⟩))) rfl (by kernel_rfl) (by kernel_rfl) (by kernel_rfl) (fun _ _ _ h => h) (Or.inl ⟨by rfl, ?_⟩) (by assumption) ?_
  · intro wx hSw
    obtain ⟨s0, s1, s2⟩ := hSw
    go_simp
  try simp only [Act.put, List.setIfInBounds_toArray, List.set_cons_zero, List.set_cons_succ]
  refine wpAnyH_take (i := 9) (oi := { dst := some 20, op := Op.fieldAddr 241 (Operand.tmp 19) 1, type := 0, pos := "end.go:159", after := #[{ on := 8, ground := Ground.data }, { on := 2, ground := Ground.guard }], guard := some (2, true) }) (v := (.pointer (some ⟨g, k * 62 + 2, none⟩))) rfl (by kernel_rfl) (by kernel_rfl) (by kernel_rfl) (fun _ _ _ h => h) (Or.inl ⟨by rfl, ?_⟩) (by assumption) ?_
  · intro wx hSw
    obtain ⟨s0, s1, s2⟩ := hSw
    go_simp
  try simp only [Act.put, List.setIfInBounds_toArray, List.set_cons_zero, List.set_cons_succ]
  refine wpAnyH_take (i := 10) (oi := { dst := some 21, op := Op.load 97 (Operand.tmp 20), type := 97, pos := "end.go:159", after := #[{ on := 9, ground := Ground.data }, { on := 2, ground := Ground.guard }], guard := some (2, true) }) (v := .agg (brow f0).toArray) rfl (by kernel_rfl) (by kernel_rfl) (by kernel_rfl) (fun _ _ _ h => h) (yieldsIf_load_mid (by rfl) 97 (.tmp 20) rfl g (k * 62 + 2) rfl (brow f0) (.array 60 4) (fun _ h => h.2.1) hu rfl (by rw [brow_length]; exact size_places)) (by assumption) ?_
  try simp only [Act.put, List.setIfInBounds_toArray, List.set_cons_zero, List.set_cons_succ]
  refine wpAnyH_take (i := 11) (oi := { dst := some 22, op := Op.load 97 (Operand.tmp 3), type := 97, pos := "end.go:159", after := #[{ on := 2, ground := Ground.guard }], guard := some (2, true) }) (v := .agg (brow f).toArray) rfl (by kernel_rfl) (by kernel_rfl) (by kernel_rfl) (fun _ _ _ h => h) (yieldsIf_load_mid (by rfl) 97 (.tmp 3) rfl w.heap.size (0) rfl (brow f) (.array 60 4) (fun _ h => h.2.2) hu rfl (by rw [brow_length]; exact size_places)) (by assumption) ?_
  try simp only [Act.put, List.setIfInBounds_toArray, List.set_cons_zero, List.set_cons_succ]
  refine wpAnyH_take (i := 12) (oi := { dst := some 23, op := Op.binOp BinOp.eql 97 (Operand.tmp 21) (Operand.tmp 22) 97, type := 4, pos := "end.go:159", after := #[{ on := 10, ground := Ground.data }, { on := 11, ground := Ground.data }, { on := 2, ground := Ground.guard }], guard := some (2, true) }) (v := .bool false) rfl (by kernel_rfl) (by kernel_rfl) (by kernel_rfl) (fun _ _ _ h => h) (yields_eql (by rfl) (.tmp 21) (.tmp 22) rfl rfl rfl HEQ.out) (by assumption) ?_
  try simp only [Act.put, List.setIfInBounds_toArray, List.set_cons_zero, List.set_cons_succ]
  refine wpAnyH_take (i := 13) (oi := { dst := some 24, op := Op.pick (Operand.tmp 13) (Operand.tmp 23) (Operand.const (Value.bool false)), type := 4, pos := "end.go:159", after := #[{ on := 2, ground := Ground.data }, { on := 12, ground := Ground.data }], guard := none }) (v := (.bool false)) rfl (by kernel_rfl) (by kernel_rfl) (by kernel_rfl) (fun _ _ _ h => h) (Or.inl ⟨by rfl, ?_⟩) (by assumption) ?_
  · intro wx hSw
    obtain ⟨s0, s1, s2⟩ := hSw
    go_simp
  try simp only [Act.put, List.setIfInBounds_toArray, List.set_cons_zero, List.set_cons_succ]
  refine wpAnyH_done (by kernel_rfl) (NoPanic.normal ?_) _
  clear hHeld
  go_wp2_with fail
  have hXB : Below w.heap.size w (w.alloc (.cells arr 97)).drew := hXd
  have hra : (w.alloc (.cells arr 97)).drew.rangeAt w.heap.size 0 (brow f) := dr1
  generalize (w.alloc (.cells arr 97)).drew = X at hXB hra ⊢
  clear hX0 dr0 dr1 k124 d124 hXd hA HKN
  generalize (some (⟨g, 0, none⟩ : Addr)) = ao at HVL ⊢
  generalize cap = c at HVL ⊢
  have HXB : Hid (Below w.heap.size w X) := hXB
  have c124 := (HXB.out.cell (p := ⟨eb, pz + 124, none⟩) HO.out.lt).trans (HO.out.cl 124 (by omega))
  have c122 := (HXB.out.cell (p := ⟨eb, pz + 122, none⟩) HO.out.lt).trans (HO.out.cl 122 (by omega))
  have f124 : X.frozen? ⟨eb, pz + 124, none⟩ = false := (World.frozen?_of_block (HXB.out.block eb HO.out.lt)).trans (HO.out.fz (pz + 124))
  rw [ecell_loads, HVL.out, HLN.out] at c124
  rw [ecell_made, hm] at c122
  have hown := own_below HO.out.ld HXB.out
  rw [HVL.out, HLN.out] at hown
  have HOW : Hid (X.drew.ownsRow B 241 62 (.slice ao n c) n (lds e.ls)) := hown
  have d124 : X.drew.cell? ⟨eb, pz + 124, none⟩ = some (.slice ao n c) := c124
  have d122 : X.drew.cell? ⟨eb, pz + 122, none⟩ = some (.int .i64 m) := c122
  have dra : X.drew.rangeAt w.heap.size 0 (brow f) := hra
  have e124 : X.drew.frozen? ⟨eb, pz + 124, none⟩ = false := f124
  have hbl : eb < X.drew.heap.size := Nat.lt_of_lt_of_le HO.out.lt HXB.out.size
  have hap : some eb ≠ (Value.slice ao n c).ownBlock := by rw [← HLN.out, ← HVL.out]; exact fun e => HO.out.ap.1 e.symm
  have hbL := fun W => build_load (m : Int) f W
  have hbS := fun W => build_loads (m : Int) f W
  have hlen : ((Value.int .i64 (m : Int)) :: .int .i64 (m : Int) :: brow f).length = 1 * 62 := by simp [brow_length]
  have hone : ∀ u ∈ ((Value.int .i64 (m : Int)) :: .int .i64 (m : Int) :: brow f), u.oneCell' = true := fun u hu => by
    rcases List.mem_cons.1 hu with rfl | hu
    · rfl
    rcases List.mem_cons.1 hu with rfl | hu
    · rfl
    obtain ⟨i, _, rfl⟩ := List.mem_map.1 hu
    rfl
  have hi : (Tryz.prog.info? 97).map (·.size) = some (brow f).length := by rw [brow_length]; exact size_places
  have hl60 : (brow f).length = 60 := brow_length f
  have hBX : B ≤ X.drew.heap.size := Nat.le_trans HO.out.le HXB.out.size
  have HBX : Hid (B ≤ X.drew.heap.size) := hBX
  clear c124 c122 hown f124 hra hXB
  generalize hL : (((Value.int .i64 (m : Int)) :: .int .i64 (m : Int) :: brow f)).toArray = L at *
  have HL : Hid ((((Value.int .i64 (m : Int)) :: .int .i64 (m : Int) :: brow f)).toArray = L) := hL
  clear hL
  have HNW : Hid (∀ W : World, ∀ j u, L.toList[j]? = some u → (W.alloc (.cells L 241)).cell? ((⟨W.heap.size, 0, none⟩ : Addr).add j) = some u) := fun W => World.news_of_block (heap_alloc_new W _)
  have hlen2 : L.toList.length = 1 * 62 := by rw [← HL.out]; simpa using hlen
  have hone2 : ∀ u ∈ L.toList, u.oneCell' = true := by rw [← HL.out]; simpa using hone
  have HLO : Hid (L.toList.length = 1 * 62 ∧ ∀ u ∈ L.toList, u.oneCell' = true) := ⟨hlen2, hone2⟩
  have HZS : Hid ((Value.agg (lds1 ⟨0, 0, 0, 0⟩).toArray).cells.size = 62) := by show _ = _; simp [Value.cells, lds1_length]
  have HNB : Hid (some w.heap.size ≠ (Value.slice ao n c).ownBlock) := by
    show _ ≠ _
    rw [← HLN.out, ← HVL.out]
    exact fun e' => by have := (HO.out.ld.lt _ e'.symm).2; omega
  have HEW : Hid (eb ≠ w.heap.size) := by have := HO.out.lt; show _ ≠ _; omega
  have HKP : Hid (∀ (w1 : World) (g cap : Nat), (X.drew.alloc (.cells L 241)).grownBy w1 (Value.slice ao n c).ownBlock → w1.ownsRow B 241 62 (.slice (some ⟨g, 0, none⟩) (n + 1) cap) (n + 1) (lds e.ls ++ L.toList) → ((Value.slice ao n c).ownBlock = some g ∨ g = X.drew.heap.size + 1) → KeepP pz Qz w (w1.setCell ⟨eb, pz + 124, none⟩ (.slice (some ⟨g, 0, none⟩) (n + 1) cap)) B eb vl vc e (.slice (some ⟨g, 0, none⟩) (n + 1) cap) (e.ls ++ [⟨m, m, a, b⟩])) := by
    show ∀ w1 g cap, _ → _ → _ → _
    intro w1 g cap h1 h2 h3
    have eL : L.toList = lds1 ⟨m, m, a, b⟩ := by rw [← HL.out, lds1_brow, HF.out]
    rw [eL] at h2
    have ev : Value.slice ao n c = vl := by rw [HVL.out, HLN.out]
    rw [ev] at h1 h3
    have bX : Below w.heap.size w (X.drew.alloc (.cells L 241)) := (HXB.out.drew).alloc HXB.out.size _
    exact KeepP.grown HO.out bX h1 h2 HLN.out.symm (by rw [World.size_alloc]; exact h3) rfl
  clear hlen hone hlen2 hone2
  refine wp_region_noPanic ?_
  refine wp_region_held_drew (S := fun w' => w'.cell? ⟨eb, pz + 122, none⟩ = some (.int .i64 (m : Int)) ∧ w'.rangeAt w.heap.size 0 (brow f)) (by kernel_rfl) ⟨d122, dra⟩ (fun hHeld => ?_)
  refine wpAnyH_take (i := 0) (oi := { dst := some 37, op := Op.move (Operand.tmp 0), type := 108, pos := "end.go:163", after := #[], guard := none }) (v := (.pointer (some ⟨eb, pz, none⟩))) rfl (by kernel_rfl) (by kernel_rfl) (by kernel_rfl) (fun _ _ _ h => h) (Or.inl ⟨by rfl, ?_⟩) (by assumption) ?_
  · intro wx hSw
    obtain ⟨s0, s1⟩ := hSw
    go_simp
  try simp only [Act.put, List.setIfInBounds_toArray, List.set_cons_zero, List.set_cons_succ]
  refine wpAnyH_take (i := 1) (oi := { dst := some 38, op := Op.move (Operand.tmp 0), type := 108, pos := "end.go:163", after := #[], guard := none }) (v := (.pointer (some ⟨eb, pz, none⟩))) rfl (by kernel_rfl) (by kernel_rfl) (by kernel_rfl) (fun _ _ _ h => h) (Or.inl ⟨by rfl, ?_⟩) (by assumption) ?_
  · intro wx hSw
    obtain ⟨s0, s1⟩ := hSw
    go_simp
  try simp only [Act.put, List.setIfInBounds_toArray, List.set_cons_zero, List.set_cons_succ]
  refine wpAnyH_take (i := 2) (oi := { dst := some 39, op := Op.nilCheck (Operand.tmp 38), type := 0, pos := "end.go:163", after := #[{ on := 1, ground := Ground.data }], guard := none }) (v := (.pointer (some ⟨eb, pz, none⟩))) rfl (by kernel_rfl) (by kernel_rfl) (by kernel_rfl) (fun _ _ _ h => h) (Or.inl ⟨by rfl, ?_⟩) (by assumption) ?_
  · intro wx hSw
    obtain ⟨s0, s1⟩ := hSw
    go_simp
  try simp only [Act.put, List.setIfInBounds_toArray, List.set_cons_zero, List.set_cons_succ]
  refine wpAnyH_take (i := 3) (oi := { dst := some 40, op := Op.fieldAddr 104 (Operand.tmp 39) 6, type := 0, pos := "end.go:163", after := #[{ on := 2, ground := Ground.data }], guard := none }) (v := (.pointer (some ⟨eb, pz + 124, none⟩))) rfl (by kernel_rfl) (by kernel_rfl) (by kernel_rfl) (fun _ _ _ h => h) (Or.inl ⟨by rfl, ?_⟩) (by assumption) ?_
  · intro wx hSw
    obtain ⟨s0, s1⟩ := hSw
    go_simp
  try simp only [Act.put, List.setIfInBounds_toArray, List.set_cons_zero, List.set_cons_succ]
  refine wpAnyH_take (i := 5) (oi := { dst := some 42, op := Op.move (Operand.tmp 0), type := 108, pos := "end.go:163", after := #[], guard := none }) (v := (.pointer (some ⟨eb, pz, none⟩))) rfl (by kernel_rfl) (by kernel_rfl) (by kernel_rfl) (fun _ _ _ h => h) (Or.inl ⟨by rfl, ?_⟩) (by assumption) ?_
  · intro wx hSw
    obtain ⟨s0, s1⟩ := hSw
    go_simp
  try simp only [Act.put, List.setIfInBounds_toArray, List.set_cons_zero, List.set_cons_succ]
  refine wpAnyH_take (i := 6) (oi := { dst := some 43, op := Op.nilCheck (Operand.tmp 42), type := 0, pos := "end.go:163", after := #[{ on := 5, ground := Ground.data }], guard := none }) (v := (.pointer (some ⟨eb, pz, none⟩))) rfl (by kernel_rfl) (by kernel_rfl) (by kernel_rfl) (fun _ _ _ h => h) (Or.inl ⟨by rfl, ?_⟩) (by assumption) ?_
  · intro wx hSw
    obtain ⟨s0, s1⟩ := hSw
    go_simp
  try simp only [Act.put, List.setIfInBounds_toArray, List.set_cons_zero, List.set_cons_succ]
  refine wpAnyH_take (i := 7) (oi := { dst := some 44, op := Op.fieldAddr 104 (Operand.tmp 43) 4, type := 0, pos := "end.go:163", after := #[{ on := 6, ground := Ground.data }], guard := none }) (v := (.pointer (some ⟨eb, pz + 122, none⟩))) rfl (by kernel_rfl) (by kernel_rfl) (by kernel_rfl) (fun _ _ _ h => h) (Or.inl ⟨by rfl, ?_⟩) (by assumption) ?_
  · intro wx hSw
    obtain ⟨s0, s1⟩ := hSw
    go_simp
  try simp only [Act.put, List.setIfInBounds_toArray, List.set_cons_zero, List.set_cons_succ]
  refine wpAnyH_take (i := 8) (oi := { dst := some 45, op := Op.load 3 (Operand.tmp 44), type := 3, pos := "end.go:163", after := #[{ on := 7, ground := Ground.data }], guard := none }) (v := (.int .i64 (m : Int))) rfl (by kernel_rfl) (by kernel_rfl) (by kernel_rfl) (fun _ _ _ h => h) (Or.inl ⟨by rfl, ?_⟩) (by assumption) ?_
  · intro wx hSw
    obtain ⟨s0, s1⟩ := hSw
    go_simp
  try simp only [Act.put, List.setIfInBounds_toArray, List.set_cons_zero, List.set_cons_succ]
  refine wpAnyH_take (i := 9) (oi := { dst := some 46, op := Op.move (Operand.tmp 0), type := 108, pos := "end.go:163", after := #[], guard := none }) (v := (.pointer (some ⟨eb, pz, none⟩))) rfl (by kernel_rfl) (by kernel_rfl) (by kernel_rfl) (fun _ _ _ h => h) (Or.inl ⟨by rfl, ?_⟩) (by assumption) ?_
  · intro wx hSw
    obtain ⟨s0, s1⟩ := hSw
    go_simp
  try simp only [Act.put, List.setIfInBounds_toArray, List.set_cons_zero, List.set_cons_succ]
  refine wpAnyH_take (i := 10) (oi := { dst := some 47, op := Op.nilCheck (Operand.tmp 46), type := 0, pos := "end.go:163", after := #[{ on := 9, ground := Ground.data }], guard := none }) (v := (.pointer (some ⟨eb, pz, none⟩))) rfl (by kernel_rfl) (by kernel_rfl) (by kernel_rfl) (fun _ _ _ h => h) (Or.inl ⟨by rfl, ?_⟩) (by assumption) ?_
  · intro wx hSw
    obtain ⟨s0, s1⟩ := hSw
    go_simp
  try simp only [Act.put, List.setIfInBounds_toArray, List.set_cons_zero, List.set_cons_succ]
  refine wpAnyH_take (i := 11) (oi := { dst := some 48, op := Op.fieldAddr 104 (Operand.tmp 47) 4, type := 0, pos := "end.go:163", after := #[{ on := 10, ground := Ground.data }], guard := none }) (v := (.pointer (some ⟨eb, pz + 122, none⟩))) rfl (by kernel_rfl) (by kernel_rfl) (by kernel_rfl) (fun _ _ _ h => h) (Or.inl ⟨by rfl, ?_⟩) (by assumption) ?_
  · intro wx hSw
    obtain ⟨s0, s1⟩ := hSw
    go_simp
  try simp only [Act.put, List.setIfInBounds_toArray, List.set_cons_zero, List.set_cons_succ]
  refine wpAnyH_take (i := 12) (oi := { dst := some 49, op := Op.load 3 (Operand.tmp 48), type := 3, pos := "end.go:163", after := #[{ on := 11, ground := Ground.data }], guard := none }) (v := (.int .i64 (m : Int))) rfl (by kernel_rfl) (by kernel_rfl) (by kernel_rfl) (fun _ _ _ h => h) (Or.inl ⟨by rfl, ?_⟩) (by assumption) ?_
  · intro wx hSw
    obtain ⟨s0, s1⟩ := hSw
    go_simp
  try simp only [Act.put, List.setIfInBounds_toArray, List.set_cons_zero, List.set_cons_succ]
  refine wpAnyH_take (i := 13) (oi := { dst := some 50, op := Op.build 143 #[(0, Operand.tmp 45), (1, Operand.tmp 49)], type := 143, pos := "end.go:163", after := #[{ on := 8, ground := Ground.data }, { on := 12, ground := Ground.data }], guard := none }) (v := (.agg #[.int .i64 (m : Int), .int .i64 (m : Int)])) rfl (by kernel_rfl) (by kernel_rfl) (by kernel_rfl) (fun _ _ _ h => h) (Or.inl ⟨by rfl, ?_⟩) (by assumption) ?_
  · intro wx hSw
    obtain ⟨s0, s1⟩ := hSw
    go_simp
  try simp only [Act.put, List.setIfInBounds_toArray, List.set_cons_zero, List.set_cons_succ]
  refine wpAnyH_take (i := 14) (oi := { dst := some 51, op := Op.load 97 (Operand.tmp 3), type := 97, pos := "end.go:163", after := #[], guard := none }) (v := .agg (brow f).toArray) rfl (by kernel_rfl) (by kernel_rfl) (by kernel_rfl) (fun _ _ _ h => h) (yieldsIf_load_mid (by rfl) 97 (.tmp 3) rfl w.heap.size 0 rfl (brow f) (.array 60 4) (fun _ h => h.2) hu rfl hi) (by assumption) ?_
  try simp only [Act.put, List.setIfInBounds_toArray, List.set_cons_zero, List.set_cons_succ]
  refine wpAnyH_take (i := 15) (oi := { dst := some 52, op := Op.build 241 #[(0, Operand.tmp 50), (1, Operand.tmp 51)], type := 241, pos := "end.go:163", after := #[{ on := 13, ground := Ground.data }, { on := 14, ground := Ground.data }], guard := none }) (v := .agg L) rfl (by kernel_rfl) (by kernel_rfl) (by kernel_rfl) (fun _ _ _ h => h) (yields_load (m := (m : Int)) (f := f) (by rfl) (.tmp 50) (.tmp 51) rfl rfl rfl hbL) (by assumption) ?_
  try simp only [Act.put, List.setIfInBounds_toArray, List.set_cons_zero, List.set_cons_succ]
  have a124 : (X.drew.alloc (.cells L 241)).cell? ⟨eb, pz + 124, none⟩ = some (.slice ao n c) := (World.cell?_alloc_lt _ _ _ hbl).trans d124
  have b124 : (X.alloc (.cells L 241)).cell? ⟨eb, pz + 124, none⟩ = some (.slice ao n c) := a124
  have hbl2 : eb < (X.drew.alloc (.cells L 241)).heap.size := by rw [World.size_alloc]; omega
  refine wpAnyH_ready (rs := [4, 16]) (by kernel_rfl) (by simp) ?_
  refine AllReadyH.cons (o := { dst := some 41, op := Op.load 98 (Operand.tmp 40), type := 98, pos := "end.go:163", after := #[{ on := 3, ground := Ground.data }], guard := none }) rfl (fun K hK => ?_) (AllReadyH.cons (o := { dst := some 53, op := Op.buildSlice 98 1 #[(0, Operand.tmp 52)], type := 98, pos := "end.go:163", after := #[{ on := 15, ground := Ground.data }], guard := none }) rfl (fun K hK => ?_) AllReadyH.nil)
  · clear a124 b124
    go_simp
    refine hK.out _ _ hHeld (fun hHeld => ?_)
    clear hK K
    try simp only [Act.put, List.setIfInBounds_toArray, List.set_cons_zero, List.set_cons_succ]
    refine wpAnyH_ready (rs := [16]) (by kernel_rfl) (by simp) ?_
    refine AllReadyH.cons (o := { dst := some 53, op := Op.buildSlice 98 1 #[(0, Operand.tmp 52)], type := 98, pos := "end.go:163", after := #[{ on := 15, ground := Ground.data }], guard := none }) rfl (fun K hK => ?_) AllReadyH.nil
    refine step_loads rfl (.tmp 52) rfl (by rfl) hbS ?_
    refine hK.out _ _ ⟨(World.cell?_alloc_lt _ _ _ hbl).trans hHeld.1, World.rangeAt_alloc hHeld.2 _⟩ (fun hHeld => ?_)
    clear hK K
    try simp only [Act.put, List.setIfInBounds_toArray, List.set_cons_zero, List.set_cons_succ]
    refine wpAnyH_ready (rs := [17]) (by kernel_rfl) (by simp) ?_
    refine AllReadyH.cons (o := { dst := some 54, op := Op.call { callee := Callee.builtin Builtin.append, args := #[Operand.tmp 41, Operand.tmp 53], argTypes := #[98, 98] }, type := 98, pos := "end.go:163", after := #[{ on := 4, ground := Ground.data }, { on := 16, ground := Ground.data }], guard := none }) rfl (fun K hK => ?_) AllReadyH.nil
    refine step_append_lies _ (by rfl) (.tmp 41) (.tmp 53) 98 (by rfl) B 241 i0 _ 62 80 Tryz.underlying98 hi0 hz0 hz1 hz2 HZS.out (by decide) (.slice ao n c) n (lds e.ls) (by rfl) (HOW.out.alloc _) ⟨X.drew.heap.size, 0, none⟩ 1 1 L.toList (by rfl) HLO.out.1 (HNW.out _) HLO.out.2 (by decide) (by have := HNL.out; unfold maxLen; omega) (by have := HNL.out; omega) (by rw [World.size_alloc]; have := HBX.out; omega) (X.drew.heap.size + 1) (by rw [World.size_alloc]) ?_
    intro g cap w1 hown1 hgrow hat hlt
    have g124 : w1.cell? ⟨eb, pz + 124, none⟩ = some (.slice ao n c) := (hgrow.cell_far ⟨eb, pz + 124, none⟩ hbl2 hap).trans ((World.cell?_alloc_lt _ _ _ hbl).trans d124)
    have gf : w1.frozen? ⟨eb, pz + 124, none⟩ = false := (hgrow.frozen_far ⟨eb, pz + 124, none⟩ hbl2 hap).trans ((World.frozen?_alloc_past _ _ _ hbl).trans e124)
    have S1 : w1.cell? ⟨eb, pz + 122, none⟩ = some (.int .i64 (m : Int)) := (hgrow.cell_far ⟨eb, pz + 122, none⟩ hbl2 hap).trans hHeld.1
    have S2 : w1.rangeAt w.heap.size 0 (brow f) := fun j v hv => by
      have hh := hHeld.2 j v hv
      exact (hgrow.cell_far ⟨w.heap.size, 0 + j, none⟩ (World.block_lt_of_cell? _ _ hh) HNB.out).trans hh
    refine hK.out _ _ ⟨S1, S2⟩ (fun hHeld => ?_)
    clear hK K
    try simp only [Act.put, List.setIfInBounds_toArray, List.set_cons_zero, List.set_cons_succ]
    refine wpAnyH_take (i := 18) (oi := { dst := some 55, op := Op.nilCheck (Operand.tmp 37), type := 0, pos := "end.go:163", after := #[{ on := 0, ground := Ground.data }, { on := 0, ground := Ground.phase }, { on := 1, ground := Ground.phase }, { on := 2, ground := Ground.phase }, { on := 3, ground := Ground.phase }, { on := 4, ground := Ground.phase }, { on := 5, ground := Ground.phase }, { on := 6, ground := Ground.phase }, { on := 7, ground := Ground.phase }, { on := 8, ground := Ground.phase }, { on := 9, ground := Ground.phase }, { on := 10, ground := Ground.phase }, { on := 11, ground := Ground.phase }, { on := 12, ground := Ground.phase }, { on := 13, ground := Ground.phase }, { on := 14, ground := Ground.phase }, { on := 15, ground := Ground.phase }, { on := 16, ground := Ground.phase }, { on := 17, ground := Ground.phase }], guard := none }) (v := (.pointer (some ⟨eb, pz, none⟩))) rfl (by kernel_rfl) (by kernel_rfl) (by kernel_rfl) (fun _ _ _ h => h) (Or.inl ⟨by rfl, ?_⟩) (by assumption) ?_
    · intro wx hSw
      obtain ⟨s0, s1⟩ := hSw
      go_simp
    try simp only [Act.put, List.setIfInBounds_toArray, List.set_cons_zero, List.set_cons_succ]
    refine wpAnyH_take (i := 19) (oi := { dst := some 56, op := Op.fieldAddr 104 (Operand.tmp 55) 6, type := 0, pos := "end.go:163", after := #[{ on := 18, ground := Ground.data }, { on := 0, ground := Ground.phase }, { on := 1, ground := Ground.phase }, { on := 2, ground := Ground.phase }, { on := 3, ground := Ground.phase }, { on := 4, ground := Ground.phase }, { on := 5, ground := Ground.phase }, { on := 6, ground := Ground.phase }, { on := 7, ground := Ground.phase }, { on := 8, ground := Ground.phase }, { on := 9, ground := Ground.phase }, { on := 10, ground := Ground.phase }, { on := 11, ground := Ground.phase }, { on := 12, ground := Ground.phase }, { on := 13, ground := Ground.phase }, { on := 14, ground := Ground.phase }, { on := 15, ground := Ground.phase }, { on := 16, ground := Ground.phase }, { on := 17, ground := Ground.phase }], guard := none }) (v := (.pointer (some ⟨eb, pz + 124, none⟩))) rfl (by kernel_rfl) (by kernel_rfl) (by kernel_rfl) (fun _ _ _ h => h) (Or.inl ⟨by rfl, ?_⟩) (by assumption) ?_
    · intro wx hSw
      obtain ⟨s0, s1⟩ := hSw
      go_simp
    try simp only [Act.put, List.setIfInBounds_toArray, List.set_cons_zero, List.set_cons_succ]
    refine wpAnyH_ready (rs := [20]) (by kernel_rfl) (by simp) ?_
    refine AllReadyH.cons (o := { dst := none, op := Op.store 98 (Operand.tmp 56) (Operand.tmp 54), type := 0, pos := "end.go:163", after := #[{ on := 19, ground := Ground.data }, { on := 17, ground := Ground.data }, { on := 17, ground := Ground.chain }, { on := 0, ground := Ground.phase }, { on := 1, ground := Ground.phase }, { on := 2, ground := Ground.phase }, { on := 3, ground := Ground.phase }, { on := 4, ground := Ground.phase }, { on := 5, ground := Ground.phase }, { on := 6, ground := Ground.phase }, { on := 7, ground := Ground.phase }, { on := 8, ground := Ground.phase }, { on := 9, ground := Ground.phase }, { on := 10, ground := Ground.phase }, { on := 11, ground := Ground.phase }, { on := 12, ground := Ground.phase }, { on := 13, ground := Ground.phase }, { on := 14, ground := Ground.phase }, { on := 15, ground := Ground.phase }, { on := 16, ground := Ground.phase }, { on := 17, ground := Ground.phase }], guard := none }) rfl (fun K hK => ?_) AllReadyH.nil
    go_simp
    refine hK.out _ _ ⟨(World.cell?_setCell_other _ _ _ _ (fun e' => by injection e' with _ e' _; omega)).trans S1, fun j v hv => (World.cell?_setCell_other _ _ _ _ (fun e' => by injection e' with e' _ _; exact HEW.out e')).trans (S2 j v hv)⟩ (fun hHeld => ?_)
    clear hK K
    refine wpAnyH_done (by kernel_rfl) (NoPanic.normal ?_) _
    go_wp2_with fail
    refine Go.Great.bodyPost_end0 rfl rfl ⟨rfl, _, HKP.out w1 g cap hgrow hown1 hat⟩
  · refine step_loads rfl (.tmp 52) rfl (by rfl) hbS ?_
    refine hK.out _ _ ⟨(World.cell?_alloc_lt _ _ _ hbl).trans hHeld.1, World.rangeAt_alloc hHeld.2 _⟩ (fun hHeld => ?_)
    clear hK K
    try simp only [Act.put, List.setIfInBounds_toArray, List.set_cons_zero, List.set_cons_succ]
    refine wpAnyH_ready (rs := [4]) (by kernel_rfl) (by simp) ?_
    refine AllReadyH.cons (o := { dst := some 41, op := Op.load 98 (Operand.tmp 40), type := 98, pos := "end.go:163", after := #[{ on := 3, ground := Ground.data }], guard := none }) rfl (fun K hK => ?_) AllReadyH.nil
    go_simp
    refine hK.out _ (X.drew.alloc (.cells L 241)) hHeld (fun hHeld => ?_)
    clear hK K
    try simp only [Act.put, List.setIfInBounds_toArray, List.set_cons_zero, List.set_cons_succ]
    refine wpAnyH_ready (rs := [17]) (by kernel_rfl) (by simp) ?_
    refine AllReadyH.cons (o := { dst := some 54, op := Op.call { callee := Callee.builtin Builtin.append, args := #[Operand.tmp 41, Operand.tmp 53], argTypes := #[98, 98] }, type := 98, pos := "end.go:163", after := #[{ on := 4, ground := Ground.data }, { on := 16, ground := Ground.data }], guard := none }) rfl (fun K hK => ?_) AllReadyH.nil
    refine step_append_lies _ (by rfl) (.tmp 41) (.tmp 53) 98 (by rfl) B 241 i0 _ 62 80 Tryz.underlying98 hi0 hz0 hz1 hz2 HZS.out (by decide) (.slice ao n c) n (lds e.ls) (by rfl) (HOW.out.alloc _) ⟨X.drew.heap.size, 0, none⟩ 1 1 L.toList (by rfl) HLO.out.1 (HNW.out _) HLO.out.2 (by decide) (by have := HNL.out; unfold maxLen; omega) (by have := HNL.out; omega) (by rw [World.size_alloc]; have := HBX.out; omega) (X.drew.heap.size + 1) (by rw [World.size_alloc]) ?_
    intro g cap w1 hown1 hgrow hat hlt
    have g124 : w1.cell? ⟨eb, pz + 124, none⟩ = some (.slice ao n c) := (hgrow.cell_far ⟨eb, pz + 124, none⟩ hbl2 hap).trans ((World.cell?_alloc_lt _ _ _ hbl).trans d124)
    have gf : w1.frozen? ⟨eb, pz + 124, none⟩ = false := (hgrow.frozen_far ⟨eb, pz + 124, none⟩ hbl2 hap).trans ((World.frozen?_alloc_past _ _ _ hbl).trans e124)
    have S1 : w1.cell? ⟨eb, pz + 122, none⟩ = some (.int .i64 (m : Int)) := (hgrow.cell_far ⟨eb, pz + 122, none⟩ hbl2 hap).trans hHeld.1
    have S2 : w1.rangeAt w.heap.size 0 (brow f) := fun j v hv => by
      have hh := hHeld.2 j v hv
      exact (hgrow.cell_far ⟨w.heap.size, 0 + j, none⟩ (World.block_lt_of_cell? _ _ hh) HNB.out).trans hh
    refine hK.out _ _ ⟨S1, S2⟩ (fun hHeld => ?_)
    clear hK K
    try simp only [Act.put, List.setIfInBounds_toArray, List.set_cons_zero, List.set_cons_succ]
    refine wpAnyH_take (i := 18) (oi := { dst := some 55, op := Op.nilCheck (Operand.tmp 37), type := 0, pos := "end.go:163", after := #[{ on := 0, ground := Ground.data }, { on := 0, ground := Ground.phase }, { on := 1, ground := Ground.phase }, { on := 2, ground := Ground.phase }, { on := 3, ground := Ground.phase }, { on := 4, ground := Ground.phase }, { on := 5, ground := Ground.phase }, { on := 6, ground := Ground.phase }, { on := 7, ground := Ground.phase }, { on := 8, ground := Ground.phase }, { on := 9, ground := Ground.phase }, { on := 10, ground := Ground.phase }, { on := 11, ground := Ground.phase }, { on := 12, ground := Ground.phase }, { on := 13, ground := Ground.phase }, { on := 14, ground := Ground.phase }, { on := 15, ground := Ground.phase }, { on := 16, ground := Ground.phase }, { on := 17, ground := Ground.phase }], guard := none }) (v := (.pointer (some ⟨eb, pz, none⟩))) rfl (by kernel_rfl) (by kernel_rfl) (by kernel_rfl) (fun _ _ _ h => h) (Or.inl ⟨by rfl, ?_⟩) (by assumption) ?_
    · intro wx hSw
      obtain ⟨s0, s1⟩ := hSw
      go_simp
    try simp only [Act.put, List.setIfInBounds_toArray, List.set_cons_zero, List.set_cons_succ]
    refine wpAnyH_take (i := 19) (oi := { dst := some 56, op := Op.fieldAddr 104 (Operand.tmp 55) 6, type := 0, pos := "end.go:163", after := #[{ on := 18, ground := Ground.data }, { on := 0, ground := Ground.phase }, { on := 1, ground := Ground.phase }, { on := 2, ground := Ground.phase }, { on := 3, ground := Ground.phase }, { on := 4, ground := Ground.phase }, { on := 5, ground := Ground.phase }, { on := 6, ground := Ground.phase }, { on := 7, ground := Ground.phase }, { on := 8, ground := Ground.phase }, { on := 9, ground := Ground.phase }, { on := 10, ground := Ground.phase }, { on := 11, ground := Ground.phase }, { on := 12, ground := Ground.phase }, { on := 13, ground := Ground.phase }, { on := 14, ground := Ground.phase }, { on := 15, ground := Ground.phase }, { on := 16, ground := Ground.phase }, { on := 17, ground := Ground.phase }], guard := none }) (v := (.pointer (some ⟨eb, pz + 124, none⟩))) rfl (by kernel_rfl) (by kernel_rfl) (by kernel_rfl) (fun _ _ _ h => h) (Or.inl ⟨by rfl, ?_⟩) (by assumption) ?_
    · intro wx hSw
      obtain ⟨s0, s1⟩ := hSw
      go_simp
    try simp only [Act.put, List.setIfInBounds_toArray, List.set_cons_zero, List.set_cons_succ]
    refine wpAnyH_ready (rs := [20]) (by kernel_rfl) (by simp) ?_
    refine AllReadyH.cons (o := { dst := none, op := Op.store 98 (Operand.tmp 56) (Operand.tmp 54), type := 0, pos := "end.go:163", after := #[{ on := 19, ground := Ground.data }, { on := 17, ground := Ground.data }, { on := 17, ground := Ground.chain }, { on := 0, ground := Ground.phase }, { on := 1, ground := Ground.phase }, { on := 2, ground := Ground.phase }, { on := 3, ground := Ground.phase }, { on := 4, ground := Ground.phase }, { on := 5, ground := Ground.phase }, { on := 6, ground := Ground.phase }, { on := 7, ground := Ground.phase }, { on := 8, ground := Ground.phase }, { on := 9, ground := Ground.phase }, { on := 10, ground := Ground.phase }, { on := 11, ground := Ground.phase }, { on := 12, ground := Ground.phase }, { on := 13, ground := Ground.phase }, { on := 14, ground := Ground.phase }, { on := 15, ground := Ground.phase }, { on := 16, ground := Ground.phase }, { on := 17, ground := Ground.phase }], guard := none }) rfl (fun K hK => ?_) AllReadyH.nil
    go_simp
    refine hK.out _ _ ⟨(World.cell?_setCell_other _ _ _ _ (fun e' => by injection e' with _ e' _; omega)).trans S1, fun j v hv => (World.cell?_setCell_other _ _ _ _ (fun e' => by injection e' with e' _ _; exact HEW.out e')).trans (S2 j v hv)⟩ (fun hHeld => ?_)
    clear hK K
    refine wpAnyH_done (by kernel_rfl) (NoPanic.normal ?_) _
    go_wp2_with fail
    refine Go.Great.bodyPost_end0 rfl rfl ⟨rfl, _, HKP.out w1 g cap hgrow hown1 hat⟩

theorem keepOK_all {e : En} (hi : EInv e) : KeepPK pz Qz e := fun w B eb vl vc h => by
  have hp := pk_ok hi
  have h60 := hi.en60
  have hl : e.ls.length ≤ 1073741824 := by have := hi.ll; have := hi.m1; omega
  by_cases h0 : e.ls = []
  · exact keepOK_nil h0 w B eb vl vc h
  · obtain ⟨front, y, hls⟩ : ∃ front y, e.ls = front ++ [y] := ⟨e.ls.dropLast, e.ls.getLast h0, (List.dropLast_concat_getLast h0).symm⟩
    by_cases hs : y.a = (pk e).1 ∧ y.b = (pk e).2
    · have := keep_same h (m := e.m) rfl hl hls hp.1 (by omega) hs
      rw [hls, keepL_same hs.1 hs.2]
      exact this
    · have := keep_new h (m := e.m) rfl hl hls hp.1 (by omega) hs
      rw [hls, keepL_new hs]
      rw [hls] at this
      exact this

end Go.Proofs.YtdokgalidhmbbaaGreatDoor.Ez
