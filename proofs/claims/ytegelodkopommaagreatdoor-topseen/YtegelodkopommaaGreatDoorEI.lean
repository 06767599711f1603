/- What New, Acked and Ready answer. -/
import Derived.Test.YtegelodkopommaaGreatDoorEB
import Derived.Deep.RegionHeld3
import Derived.Laws.OwnMore
import Derived.Laws.AppendOwnNone
import Derived.Great.Walk
import Derived.Lib.SliceRun
namespace Go.Proofs.YtegelodkopommaaGreatDoor
open Go.RowKit Go.Lib Go.Sort
set_option linter.unusedVariables false
set_option linter.unusedSimpArgs false


theorem range_stream {w : World} {B sb : Nat} (h : Sx.Obj w B sb Sx.newS) : w.rangeAt sb 0 (row 121 (scell Sx.newS)) := fun j v hv => by
  obtain ⟨hj, rfl⟩ := row_out hv
  rw [Nat.zero_add]
  by_cases h1 : j < 60
  · rw [scell_b h1]; exact h.cb j h1
  · by_cases h2 : j < 120
    · have := h.cc (j - 60) (by omega)
      rw [show 60 + (j - 60) = j by omega] at this
      rw [this]
      have := scell_c (s := Sx.newS) (i := j - 60) (by omega)
      rw [show 60 + (j - 60) = j by omega] at this
      rw [this]
    · obtain rfl : j = 120 := by omega
      exact h.ct
theorem nilEqR (w : World) (a : Option Addr) (n c n' c' : Nat) : (binOp .eql 41 (.slice a n c) (.slice none n' c')).run Tryz.prog w = .ok (.bool a.isNone) w := Lib.run_eql_slice_nil w _ _ a n c n' c' Tryz.underlying41
theorem own_sh2 {w : World} {base e size : Nat} {v : Value} {n : Nat} {xs : List Value} (h : w.ownsRow base e size v n xs) : ∃ ao c, v = .slice ao n c := by
  rcases h.2 with ⟨rfl, h0⟩ | ⟨g, cap, cur, rfl, _⟩
  · exact ⟨none, 0, by rw [h0]⟩
  · exact ⟨_, cap, rfl⟩
theorem build_end2 (n : Int) (w : World) : (Instr.build 82 #[(3, .int .i64 n), (5, .int .i64 (-1)), (7, .agg (row 121 (scell Sx.newS)).toArray), (8, .agg #[.int .i64 n, .int .i64 n, .int .i64 0, .int .i64 0])]).run Tryz.prog w = .ok (.agg (row 251 (ecell (newE n) (.slice none 0 0) (.slice none 0 0))).toArray) w := by kernel_rfl
theorem step_end {ops : Array Oper} {o : Oper} {a : Act} {w : World} {K : Act → World → Prop} {Q : Exit → Act → World → Prop} {E : Prop} {L : Array Value} {n : Int} {u v : Value} (hgd : o.guard = none) (x y z : Operand) (ho : o.op = .build 82 #[(3, x), (5, .const (.int .i64 (-1))), (7, y), (8, z)]) (hx : a.eval x = .int .i64 n) (hy : a.eval y = u) (hz : a.eval z = v)
    (hb : ∀ W : World, (Instr.build 82 #[(3, .int .i64 n), (5, .int .i64 (-1)), (7, u), (8, v)]).run Tryz.prog W = .ok (.agg L) W) (h : K (a.put o.dst (.agg L)) w) :
    if Region.wanted o (yielded ops a.tmps) = true then Oper.wp Tryz.prog o a w K Q else E := by
  have hw : Region.wanted o (yielded ops a.tmps) = true := by simp [Region.wanted, hgd]
  have hc : a.eval (.const (.int .i64 (-1))) = .int .i64 (-1) := rfl
  rw [if_pos hw]
  unfold Oper.wp execOp
  simp only [ho, List.map_toArray, List.map_cons, List.map_nil, hx, hy, hz, hc, Sem.run_bind, hb, Result.andThen_ok, Sem.run_pure]
  exact h
theorem stream_desc : ∃ d, Tryz.prog.underlying 74 = some d ∧ d.isRow = true ∧ (Tryz.prog.info? 74).map (·.size) = some (row 121 (scell Sx.newS)).length := by
  have h : (Tryz.prog.underlying 74).map (·.isRow) = some true := by kernel_rfl
  cases hd : Tryz.prog.underlying 74 with
  | none => rw [hd] at h; cases h
  | some d =>
    rw [hd] at h
    exact ⟨d, rfl, by simpa using h, by rw [row_length]; kernel_rfl⟩
set_option maxRecDepth 100000 in
set_option maxHeartbeats 4000000 in
theorem new_no (n : Int) (w : World) (h : Cx.winB n = false) : Calls Tryz.prog 14 #[.int .i64 n] w fun ex w' => ex = .returned (.tuple #[.pointer none, .iface 55 (.int .i64 1)]) ∧ w' = w := by
  have HN := Cx.new_no n w h
  clear h
  go_enter Tryz.func14, Tryz.ntmps14
  go_wp2_with (go_at_call 29; refine HN.mono ?_; rintro ex w1 ⟨rfl, hw1⟩; obtain rfl := hw1.symm)
  go_ret2
  exact ⟨rfl, rfl⟩
set_option maxRecDepth 100000 in
set_option maxHeartbeats 4000000 in
theorem new_yes (n : Int) (w : World) (h : Cx.winB n = true) : Calls Tryz.prog 14 #[.int .i64 n] w fun ex w' => ∃ eb, ex = .returned (.tuple #[.pointer (some ⟨eb, 0, none⟩), .nilIface]) ∧ EO w' w.heap.size eb (.slice none 0 0) (.slice none 0 0) (newE n) ∧ Below w.heap.size w w' := by
  have HN := Cx.new_yes n w h
  have HWN : Hid (Cx.winB n = true) := h
  obtain ⟨SD, us, sd, is⟩ := stream_desc
  have HUS : Hid (Tryz.prog.underlying 74 = some SD) := us
  have HSD : Hid (SD.isRow = true) := sd
  have HIS : Hid ((Tryz.prog.info? 74).map (·.size) = some (row 121 (scell Sx.newS)).length) := is
  obtain ⟨L, hL⟩ : ∃ L, (row 251 (ecell (newE n) (.slice none 0 0) (.slice none 0 0))).toArray = L := ⟨_, rfl⟩
  have HEC : Hid ((row 251 (ecell (newE n) (.slice none 0 0) (.slice none 0 0))).toArray = L) := hL
  have hbe := fun W => build_end2 n W
  rw [hL] at hbe
  have HBE : Hid (∀ W : World, (Instr.build 82 #[(3, .int .i64 n), (5, .int .i64 (-1)), (7, .agg (row 121 (scell Sx.newS)).toArray), (8, .agg #[.int .i64 n, .int .i64 n, .int .i64 0, .int .i64 0])]).run Tryz.prog W = .ok (.agg L) W) := hbe
  clear h us sd is hL hbe
  go_enter Tryz.func14, Tryz.ntmps14
  go_wp2_with (go_at_call 29; refine HN.mono ?_; rintro ex w1 ⟨rfl, hC1, hb1⟩)
  have d0 : w1.drew.cell? ⟨w.heap.size, 0, none⟩ = some (.int .i64 n) := hC1.four.c0
  have d1 : w1.drew.cell? ⟨w.heap.size, 1, none⟩ = some (.int .i64 n) := hC1.four.c1
  have d2 : w1.drew.cell? ⟨w.heap.size, 2, none⟩ = some (.int .i64 0) := hC1.four.c2
  have d3 : w1.drew.cell? ⟨w.heap.size, 3, none⟩ = some (.int .i64 0) := hC1.four.c3
  have hcbd : w.heap.size < w1.drew.heap.size := World.block_lt_of_cell? _ _ d0
  obtain ⟨cb, hcb⟩ : ∃ cb, w.heap.size = cb := ⟨_, rfl⟩
  rw [hcb] at d0 d1 d2 d3 hcbd
  clear HN hC1
  rw [hcb]
  refine wp_region_noPanic ?_
  refine wp_region_held_drew (S := fun w' => w'.cell? ⟨cb, 0, none⟩ = some (.int .i64 n) ∧ w'.cell? ⟨cb, 1, none⟩ = some (.int .i64 n) ∧ w'.cell? ⟨cb, 2, none⟩ = some (.int .i64 0) ∧ w'.cell? ⟨cb, 3, none⟩ = some (.int .i64 0)) (by kernel_rfl) ⟨d0, d1, d2, d3⟩ (fun hHeld => ?_)
  refine wpAnyH_take (i := 0) (oi := { dst := some 14, op := Op.move (Operand.tmp 0), type := 3, pos := "end.go:55", after := #[], guard := none }) (v := (.int .i64 n)) rfl (by kernel_rfl) (by kernel_rfl) (by kernel_rfl) (fun _ _ _ h => h) (Or.inl ⟨by rfl, ?_⟩) (by assumption) ?_
  · intro wx hSw
    obtain ⟨s0, s1, s2, s3⟩ := hSw
    go_simp
  try simp only [Act.put, List.setIfInBounds_toArray, List.set_cons_zero, List.set_cons_succ]
  refine wpAnyH_take (i := 4) (oi := { dst := some 18, op := Op.move (Operand.tmp 4), type := 68, pos := "end.go:55", after := #[], guard := none }) (v := (.pointer (some ⟨cb, 0, none⟩))) rfl (by kernel_rfl) (by kernel_rfl) (by kernel_rfl) (fun _ _ _ h => h) (Or.inl ⟨by rfl, ?_⟩) (by assumption) ?_
  · intro wx hSw
    obtain ⟨s0, s1, s2, s3⟩ := hSw
    go_simp
  try simp only [Act.put, List.setIfInBounds_toArray, List.set_cons_zero, List.set_cons_succ]
  refine wpAnyH_take (i := 5) (oi := { dst := some 19, op := Op.nilCheck (Operand.tmp 18), type := 0, pos := "end.go:55", after := #[{ on := 4, ground := Ground.data }], guard := none }) (v := (.pointer (some ⟨cb, 0, none⟩))) rfl (by kernel_rfl) (by kernel_rfl) (by kernel_rfl) (fun _ _ _ h => h) (Or.inl ⟨by rfl, ?_⟩) (by assumption) ?_
  · intro wx hSw
    obtain ⟨s0, s1, s2, s3⟩ := hSw
    go_simp
  try simp only [Act.put, List.setIfInBounds_toArray, List.set_cons_zero, List.set_cons_succ]
  refine wpAnyH_take (i := 6) (oi := { dst := some 20, op := Op.load 78 (Operand.tmp 19), type := 78, pos := "end.go:55", after := #[{ on := 5, ground := Ground.data }], guard := none }) (v := (.agg #[.int .i64 n, .int .i64 n, .int .i64 0, .int .i64 0])) rfl (by kernel_rfl) (by kernel_rfl) (by kernel_rfl) (fun _ _ _ h => h) (Or.inl ⟨by rfl, ?_⟩) (by assumption) ?_
  · intro wx hSw
    obtain ⟨s0, s1, s2, s3⟩ := hSw
    go_simp
  try simp only [Act.put, List.setIfInBounds_toArray, List.set_cons_zero, List.set_cons_succ]
  refine wpAnyH_ready (rs := [1]) (by kernel_rfl) (by simp) ?_
  refine AllReadyH.cons (o := { dst := some 15, op := Op.call { callee := Callee.value (Operand.func 30), args := #[], argTypes := #[] }, type := 75, pos := "end.go:55", after := #[], guard := none }) rfl (fun K hK => ?_) AllReadyH.nil
  go_simp
  refine (Sx.new_calls _).mono ?_
  rintro ex w2 ⟨rfl, hO2, hb2⟩
  have e0 := (hb2.cell (p := ⟨cb, 0, none⟩) hcbd).trans hHeld.1
  have e1 := (hb2.cell (p := ⟨cb, 1, none⟩) hcbd).trans hHeld.2.1
  have e2 := (hb2.cell (p := ⟨cb, 2, none⟩) hcbd).trans hHeld.2.2.1
  have e3 := (hb2.cell (p := ⟨cb, 3, none⟩) hcbd).trans hHeld.2.2.2
  refine hK.out _ _ ⟨e0, e1, e2, e3⟩ (fun hHeld => ?_)
  clear hK K
  try simp only [Act.put, List.setIfInBounds_toArray, List.set_cons_zero, List.set_cons_succ]
  refine wpAnyH_take (i := 2) (oi := { dst := some 16, op := Op.nilCheck (Operand.tmp 15), type := 0, pos := "end.go:55", after := #[{ on := 1, ground := Ground.data }], guard := none }) (v := (.pointer (some ⟨w1.drew.heap.size, 0, none⟩))) rfl (by kernel_rfl) (by kernel_rfl) (by kernel_rfl) (fun _ _ _ h => h) (Or.inl ⟨by rfl, ?_⟩) (by assumption) ?_
  · intro wx hSw
    obtain ⟨s0, s1, s2, s3⟩ := hSw
    go_simp
  try simp only [Act.put, List.setIfInBounds_toArray, List.set_cons_zero, List.set_cons_succ]
  refine wpAnyH_ready (rs := [3]) (by kernel_rfl) (by simp) ?_
  refine AllReadyH.cons (o := { dst := some 17, op := Op.load 74 (Operand.tmp 16), type := 74, pos := "end.go:55", after := #[{ on := 2, ground := Ground.data }], guard := none }) rfl (fun K hK => ?_) AllReadyH.nil
  rw [if_pos (by rfl)]
  refine wp_load_mid 74 (.tmp 16) rfl w1.drew.heap.size 0 rfl (row 121 (scell Sx.newS)) SD (range_stream hO2) HUS.out HSD.out HIS.out ?_
  refine hK.out _ _ hHeld (fun hHeld => ?_)
  clear hK K
  try simp only [Act.put, List.setIfInBounds_toArray, List.set_cons_zero, List.set_cons_succ]
  refine wpAnyH_ready (rs := [7]) (by kernel_rfl) (by simp) ?_
  refine AllReadyH.cons (o := { dst := some 21, op := Op.build 82 #[(3, Operand.tmp 14), (5, Operand.const (Value.int IntKind.i64 (-1))), (7, Operand.tmp 17), (8, Operand.tmp 20)], type := 82, pos := "end.go:55", after := #[{ on := 0, ground := Ground.data }, { on := 3, ground := Ground.data }, { on := 6, ground := Ground.data }], guard := none }) rfl (fun K hK => ?_) AllReadyH.nil
  refine step_end rfl (.tmp 14) (.tmp 17) (.tmp 20) rfl (by rfl) (by rfl) (by rfl) HBE.out ?_
  refine hK.out _ _ hHeld (fun hHeld => ?_)
  clear hK K
  try simp only [Act.put, List.setIfInBounds_toArray, List.set_cons_zero, List.set_cons_succ]
  refine wpAnyH_ready (rs := [8]) (by kernel_rfl) (by simp) ?_
  refine AllReadyH.cons (o := { dst := some 22, op := Op.box 82 (Operand.tmp 21), type := 44, pos := "end.go:55", after := #[{ on := 7, ground := Ground.data }], guard := none }) rfl (fun K hK => ?_) AllReadyH.nil
  go_simp
  refine hK.out _ _ ⟨(World.cell?_alloc_lt _ _ _ (World.block_lt_of_cell? _ _ e0)).trans e0, (World.cell?_alloc_lt _ _ _ (World.block_lt_of_cell? _ _ e1)).trans e1, (World.cell?_alloc_lt _ _ _ (World.block_lt_of_cell? _ _ e2)).trans e2, (World.cell?_alloc_lt _ _ _ (World.block_lt_of_cell? _ _ e3)).trans e3⟩ (fun hHeld => ?_)
  clear hK K
  try simp only [Act.put, List.setIfInBounds_toArray, List.set_cons_zero, List.set_cons_succ]
  refine wpAnyH_take (i := 9) (oi := { dst := some 2, op := Op.assign (Operand.tmp 22), type := 44, pos := "end.go:55", after := #[{ on := 8, ground := Ground.data }, { on := 1, ground := Ground.chain }, { on := 0, ground := Ground.phase }, { on := 1, ground := Ground.phase }, { on := 2, ground := Ground.phase }, { on := 3, ground := Ground.phase }, { on := 4, ground := Ground.phase }, { on := 5, ground := Ground.phase }, { on := 6, ground := Ground.phase }, { on := 7, ground := Ground.phase }, { on := 8, ground := Ground.phase }], guard := none }) (v := (.pointer (some ⟨w2.heap.size, 0, none⟩))) rfl (by kernel_rfl) (by kernel_rfl) (by kernel_rfl) (fun _ _ _ h => h) (Or.inl ⟨by rfl, ?_⟩) (by assumption) ?_
  · intro wx hSw
    obtain ⟨s0, s1, s2, s3⟩ := hSw
    go_simp
  try simp only [Act.put, List.setIfInBounds_toArray, List.set_cons_zero, List.set_cons_succ]
  refine wpAnyH_take (i := 10) (oi := { dst := some 3, op := Op.assign (Operand.const Value.nilIface), type := 28, pos := "end.go:55", after := #[{ on := 9, ground := Ground.chain }, { on := 0, ground := Ground.phase }, { on := 1, ground := Ground.phase }, { on := 2, ground := Ground.phase }, { on := 3, ground := Ground.phase }, { on := 4, ground := Ground.phase }, { on := 5, ground := Ground.phase }, { on := 6, ground := Ground.phase }, { on := 7, ground := Ground.phase }, { on := 8, ground := Ground.phase }, { on := 9, ground := Ground.phase }], guard := none }) (v := .nilIface) rfl (by kernel_rfl) (by kernel_rfl) (by kernel_rfl) (fun _ _ _ h => h) (Or.inl ⟨by rfl, ?_⟩) (by assumption) ?_
  · intro wx hSw
    obtain ⟨s0, s1, s2, s3⟩ := hSw
    go_simp
  try simp only [Act.put, List.setIfInBounds_toArray, List.set_cons_zero, List.set_cons_succ]
  refine wpAnyH_done (by kernel_rfl) (NoPanic.normal ?_) _
  go_wp2_with fail
  go_ret2
  refine ⟨w2.heap.size, rfl, ?_, ?_⟩
  · have hle : w.heap.size ≤ w2.heap.size := Nat.le_trans hb1.size hb2.size
    have := EO.new HWN.out w2 hle
    rw [HEC.out] at this
    exact this
  · have h12 : Below w.heap.size w w2 := hb1.trans (⟨hb2.os, hb2.tape, hb2.output, hb2.size, fun k hk => hb2.block k (Nat.lt_of_lt_of_le hk hb1.size)⟩)
    exact h12.alloc h12.size _
set_option maxRecDepth 100000 in
set_option maxHeartbeats 4000000 in
theorem eclone_none (w : World) : Calls Tryz.prog 28 #[.slice none 0 0] w fun ex w' => ex = .returned (.slice none 0 0) ∧ w' = w := by
  have hq := nilEqR
  go_enter Tryz.func28, Tryz.ntmps28
  go_wp2_with fail
  go_ret
  exact ⟨rfl, rfl⟩
set_option maxRecDepth 100000 in
set_option maxHeartbeats 4000000 in
theorem eclone_some {w : World} {base g cap n : Nat} {zs : List R} (h : w.ownsRow base 66 2 (.slice (some ⟨g, 0, none⟩) n cap) n (flat zs)) (hn : n ≤ 12) : Calls Tryz.prog 28 #[.slice (some ⟨g, 0, none⟩) n cap] w fun ex w' => ∃ v, ex = .returned v ∧ w'.ownsRow w.heap.size 66 2 v n (flat zs) ∧ Below w.heap.size w w' := by
  obtain ⟨i0, hi0, hz0, hz1, hz2⟩ := info_parts infoR
  have hlen : (flat zs).length = n * 2 := h.1
  have hg := (h.lt g rfl).2
  have h0 : (w.alloc (.cells #[] 66)).ownsRow w.heap.size 66 2 (.slice (some ⟨w.heap.size, 0, none⟩) 0 0) 0 [] := World.ownsRow_lit (base := w.heap.size) (e := 66) (size := 2) w #[] 0 (Nat.le_refl _) (by unfold maxLen; omega) rfl
  have hB0 : Below w.heap.size w (w.alloc (.cells #[] 66)) := (Below.refl _ _).alloc (Nat.le_refl _) _
  have hcn : ∀ j u, (flat zs)[j]? = some u → (w.alloc (.cells #[] 66)).cell? ((⟨g, 0, none⟩ : Addr).add j) = some u := fun j u hu => by
    have := h.cells (g := g) rfl j u hu
    rw [Addr.add_lit] at this ⊢
    exact (World.cell?_alloc_lt _ _ _ hg).trans this
  have HC : Hid (∀ j u, (flat zs)[j]? = some u → (w.alloc (.cells #[] 66)).cell? ((⟨g, 0, none⟩ : Addr).add j) = some u) := hcn
  have hq := nilEqR
  clear h hcn
  go_enter Tryz.func28, Tryz.ntmps28
  go_wp2_with (at_builtin; refine wpList_append_own_at _ rfl (.tmp 5) (.tmp 6) 41 rfl w.heap.size 66 i0 _ 2 16 Tryz.underlying41 hi0 hz0 hz1 hz2 rfl (by decide) _ _ [] rfl h0 ⟨g, 0, none⟩ n cap (flat zs) rfl hlen HC.out (fun u hu => flat_one u hu) (by unfold maxLen; omega) (by omega) (by simp) ?_; intro v3 w3 ho3 hg3 hq3 hl3; clear hq3)
  go_ret
  refine ⟨_, rfl, ?_, hB0.grown hg3 (by simp) (fun k e => (h0.lt k e).1)⟩
  have : 0 + n = n := by omega
  rw [this, List.nil_append] at ho3
  exact ho3
theorem eclone_calls {w : World} {base : Nat} {v : Value} {zs : List R} (h : w.ownsRow base 66 2 v zs.length (flat zs)) (hn : zs.length ≤ 12) : Calls Tryz.prog 28 #[v] w fun ex w' => ∃ v', ex = .returned v' ∧ w'.ownsRow w.heap.size 66 2 v' zs.length (flat zs) ∧ Below w.heap.size w w' := by
  have h' := h
  rcases h.2 with ⟨rfl, h0⟩ | ⟨g, cap, cur, rfl, _⟩
  · refine (eclone_none w).mono ?_
    rintro ex w' ⟨rfl, rfl⟩
    rw [List.eq_nil_of_length_eq_zero h0]
    exact ⟨_, rfl, World.ownsRow_nil _ _ _ _, Below.refl _ _⟩
  · exact eclone_some h' hn
end Go.Proofs.YtegelodkopommaaGreatDoor
