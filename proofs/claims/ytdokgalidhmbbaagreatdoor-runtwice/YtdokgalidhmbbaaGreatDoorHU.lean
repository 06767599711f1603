/- What the laws of package run need. -/
import Derived.Test.YtdokgalidhmbbaaGreatDoorHT
import Derived.Lib.SliceRun
set_option linter.unusedVariables false
set_option linter.unusedSimpArgs false
set_option maxRecDepth 100000
set_option maxHeartbeats 8000000
namespace Go.Proofs.YtdokgalidhmbbaaGreatDoor
open Go.RowKit Go.Lib Go.Sort


theorem add_full {v : Value} {cm : List R} {n : Int} {w : World} (h : Row w v cm) (hk : chk cm = 0) (hN : isN n = true) (hl : 12 < (addL cm n).length) : Calls Tryz.prog 135 #[v, .int .i64 n] w fun e w' => e = .returned (.tuple #[.slice none 0 0, .bool false, errV 4]) ∧ Below w.heap.size w w' :=
  (add_ok v cm n w h hk hN).mono fun e w' ⟨zs', h1, h2, _, hb, hc⟩ => by
    have := addL_is hk h1 h2
    subst this
    rcases hc with ⟨_, he⟩ | ⟨hx, _⟩
    · exact ⟨he, hb⟩
    · omega
theorem add_fits {v : Value} {cm : List R} {n : Int} {w : World} (h : Row w v cm) (hk : chk cm = 0) (hN : isN n = true) (hl : (addL cm n).length ≤ 12) : Calls Tryz.prog 135 #[v, .int .i64 n] w fun e w' => ∃ v', e = .returned (.tuple #[v', .bool (!memB cm n), .nilIface]) ∧ w'.ownsRow w.heap.size 143 2 v' (addL cm n).length (flat (addL cm n)) ∧ Below w.heap.size w w' :=
  (add_ok v cm n w h hk hN).mono fun e w' ⟨zs', h1, h2, _, hb, hc⟩ => by
    have := addL_is hk h1 h2
    subst this
    rcases hc with ⟨hx, _⟩ | ⟨_, v', ho, he⟩
    · omega
    · exact ⟨v', he, ho, hb⟩
theorem ecell_cm {e : En} {cm : List R} {vl vc vc' : Value} {i : Nat} (h : i < 250) : ecell { e with cm := cm } vl vc' i = ecell e vl vc i := by
  unfold ecell
  simp only [h, if_true]


theorem range_stream {w : World} {B sb : Nat} (h : Sx.Obj w B sb Sx.newS) : w.rangeAt sb 0 (row 121 (scell Sx.newS)) := fun j v hv => by
  obtain ⟨hj, rfl⟩ := row_out hv
  rw [Nat.zero_add]
  by_cases h1 : j < 60
  · rw [scell_b h1]; exact h.cb j h1
  · by_cases h2 : j < 120
    · have := h.cc (j - 60) (by omega)
      rw [show 60 + (j - 60) = j by omega] at this
      rw [this]
      have := scell_c (s := Sx.newS) (i := j - 60) (by omega)
      rw [show 60 + (j - 60) = j by omega] at this
      rw [this]
    · obtain rfl : j = 120 := by omega
      exact h.ct
theorem build_end2 (n : Int) (w : World) : (Instr.build 104 #[(3, .int .i64 n), (5, .int .i64 (-1)), (7, .agg (row 121 (scell Sx.newS)).toArray), (8, .agg #[.int .i64 n, .int .i64 n, .int .i64 0, .int .i64 0])]).run Tryz.prog w = .ok (.agg (row 251 (ecell (newE n) (.slice none 0 0) (.slice none 0 0))).toArray) w := by kernel_rfl
theorem step_end {ops : Array Oper} {o : Oper} {a : Act} {w : World} {K : Act → World → Prop} {Q : Exit → Act → World → Prop} {E : Prop} {L : Array Value} {n : Int} {u v : Value} (hgd : o.guard = none) (x y z : Operand) (ho : o.op = .build 104 #[(3, x), (5, .const (.int .i64 (-1))), (7, y), (8, z)]) (hx : a.eval x = .int .i64 n) (hy : a.eval y = u) (hz : a.eval z = v)
    (hb : ∀ W : World, (Instr.build 104 #[(3, .int .i64 n), (5, .int .i64 (-1)), (7, u), (8, v)]).run Tryz.prog W = .ok (.agg L) W) (h : K (a.put o.dst (.agg L)) w) :
    if Region.wanted o (yielded ops a.tmps) = true then Oper.wp Tryz.prog o a w K Q else E := by
  have hw : Region.wanted o (yielded ops a.tmps) = true := by simp [Region.wanted, hgd]
  have hc : a.eval (.const (.int .i64 (-1))) = .int .i64 (-1) := rfl
  rw [if_pos hw]
  unfold Oper.wp execOp
  simp only [ho, List.map_toArray, List.map_cons, List.map_nil, hx, hy, hz, hc, Sem.run_bind, hb, Result.andThen_ok, Sem.run_pure]
  exact h
theorem stream_desc : ∃ d, Tryz.prog.underlying 100 = some d ∧ d.isRow = true ∧ (Tryz.prog.info? 100).map (·.size) = some (row 121 (scell Sx.newS)).length := by
  have h : (Tryz.prog.underlying 100).map (·.isRow) = some true := by kernel_rfl
  cases hd : Tryz.prog.underlying 100 with
  | none => rw [hd] at h; cases h
  | some d =>
    rw [hd] at h
    exact ⟨d, rfl, by simpa using h, by rw [row_length]; kernel_rfl⟩
set_option maxRecDepth 100000 in
set_option maxHeartbeats 4000000 in
theorem new_yes (n : Int) (w : World) (h : Cx.winB n = true) : Calls Tryz.prog 47 #[.int .i64 n] w fun ex w' => ∃ eb, ex = .returned (.tuple #[.pointer (some ⟨eb, 0, none⟩), .nilIface]) ∧ EO w' w.heap.size eb (.slice none 0 0) (.slice none 0 0) (newE n) ∧ Below w.heap.size w w' := by
  have HN := Cx.new_yes n w h
  have HWN : Hid (Cx.winB n = true) := h
  obtain ⟨SD, us, sd, is⟩ := stream_desc
  have HUS : Hid (Tryz.prog.underlying 100 = some SD) := us
  have HSD : Hid (SD.isRow = true) := sd
  have HIS : Hid ((Tryz.prog.info? 100).map (·.size) = some (row 121 (scell Sx.newS)).length) := is
  obtain ⟨L, hL⟩ : ∃ L, (row 251 (ecell (newE n) (.slice none 0 0) (.slice none 0 0))).toArray = L := ⟨_, rfl⟩
  have HEC : Hid ((row 251 (ecell (newE n) (.slice none 0 0) (.slice none 0 0))).toArray = L) := hL
  have hbe := fun W => build_end2 n W
  rw [hL] at hbe
  have HBE : Hid (∀ W : World, (Instr.build 104 #[(3, .int .i64 n), (5, .int .i64 (-1)), (7, .agg (row 121 (scell Sx.newS)).toArray), (8, .agg #[.int .i64 n, .int .i64 n, .int .i64 0, .int .i64 0])]).run Tryz.prog W = .ok (.agg L) W) := hbe
  clear h us sd is hL hbe
  go_enter Tryz.func47, Tryz.ntmps47
  go_wp2_with (go_at_call 67; refine HN.mono ?_; rintro ex w1 ⟨rfl, hC1, hb1⟩)
  have d0 : w1.drew.cell? ⟨w.heap.size, 0, none⟩ = some (.int .i64 n) := hC1.four.c0
  have d1 : w1.drew.cell? ⟨w.heap.size, 1, none⟩ = some (.int .i64 n) := hC1.four.c1
  have d2 : w1.drew.cell? ⟨w.heap.size, 2, none⟩ = some (.int .i64 0) := hC1.four.c2
  have d3 : w1.drew.cell? ⟨w.heap.size, 3, none⟩ = some (.int .i64 0) := hC1.four.c3
  have hcbd : w.heap.size < w1.drew.heap.size := World.block_lt_of_cell? _ _ d0
  obtain ⟨cb, hcb⟩ : ∃ cb, w.heap.size = cb := ⟨_, rfl⟩
  rw [hcb] at d0 d1 d2 d3 hcbd
  clear HN hC1
  rw [hcb]
  refine wp_region_noPanic ?_
  refine wp_region_held_drew (S := fun w' => w'.cell? ⟨cb, 0, none⟩ = some (.int .i64 n) ∧ w'.cell? ⟨cb, 1, none⟩ = some (.int .i64 n) ∧ w'.cell? ⟨cb, 2, none⟩ = some (.int .i64 0) ∧ w'.cell? ⟨cb, 3, none⟩ = some (.int .i64 0)) (by kernel_rfl) ⟨d0, d1, d2, d3⟩ (fun hHeld => ?_)
  refine wpAnyH_take (i := 0) (oi := { dst := some 14, op := Op.move (Operand.tmp 0), type := 3, pos := "end.go:55", after := #[], guard := none }) (v := (.int .i64 n)) rfl (by kernel_rfl) (by kernel_rfl) (by kernel_rfl) (fun _ _ _ h => h) (Or.inl ⟨by rfl, ?_⟩) (by assumption) ?_
  · intro wx hSw
    obtain ⟨s0, s1, s2, s3⟩ := hSw
    go_simp
  try simp only [Act.put, List.setIfInBounds_toArray, List.set_cons_zero, List.set_cons_succ]
  refine wpAnyH_take (i := 4) (oi := { dst := some 18, op := Op.move (Operand.tmp 4), type := 156, pos := "end.go:55", after := #[], guard := none }) (v := (.pointer (some ⟨cb, 0, none⟩))) rfl (by kernel_rfl) (by kernel_rfl) (by kernel_rfl) (fun _ _ _ h => h) (Or.inl ⟨by rfl, ?_⟩) (by assumption) ?_
  · intro wx hSw
    obtain ⟨s0, s1, s2, s3⟩ := hSw
    go_simp
  try simp only [Act.put, List.setIfInBounds_toArray, List.set_cons_zero, List.set_cons_succ]
  refine wpAnyH_take (i := 5) (oi := { dst := some 19, op := Op.nilCheck (Operand.tmp 18), type := 0, pos := "end.go:55", after := #[{ on := 4, ground := Ground.data }], guard := none }) (v := (.pointer (some ⟨cb, 0, none⟩))) rfl (by kernel_rfl) (by kernel_rfl) (by kernel_rfl) (fun _ _ _ h => h) (Or.inl ⟨by rfl, ?_⟩) (by assumption) ?_
  · intro wx hSw
    obtain ⟨s0, s1, s2, s3⟩ := hSw
    go_simp
  try simp only [Act.put, List.setIfInBounds_toArray, List.set_cons_zero, List.set_cons_succ]
  refine wpAnyH_take (i := 6) (oi := { dst := some 20, op := Op.load 102 (Operand.tmp 19), type := 102, pos := "end.go:55", after := #[{ on := 5, ground := Ground.data }], guard := none }) (v := (.agg #[.int .i64 n, .int .i64 n, .int .i64 0, .int .i64 0])) rfl (by kernel_rfl) (by kernel_rfl) (by kernel_rfl) (fun _ _ _ h => h) (Or.inl ⟨by rfl, ?_⟩) (by assumption) ?_
  · intro wx hSw
    obtain ⟨s0, s1, s2, s3⟩ := hSw
    go_simp
  try simp only [Act.put, List.setIfInBounds_toArray, List.set_cons_zero, List.set_cons_succ]
  refine wpAnyH_ready (rs := [1]) (by kernel_rfl) (by simp) ?_
  refine AllReadyH.cons (o := { dst := some 15, op := Op.call { callee := Callee.value (Operand.func 68), args := #[], argTypes := #[] }, type := 159, pos := "end.go:55", after := #[], guard := none }) rfl (fun K hK => ?_) AllReadyH.nil
  go_simp
  refine (Sx.new_calls _).mono ?_
  rintro ex w2 ⟨rfl, hO2, hb2⟩
  have e0 := (hb2.cell (p := ⟨cb, 0, none⟩) hcbd).trans hHeld.1
  have e1 := (hb2.cell (p := ⟨cb, 1, none⟩) hcbd).trans hHeld.2.1
  have e2 := (hb2.cell (p := ⟨cb, 2, none⟩) hcbd).trans hHeld.2.2.1
  have e3 := (hb2.cell (p := ⟨cb, 3, none⟩) hcbd).trans hHeld.2.2.2
  refine hK.out _ _ ⟨e0, e1, e2, e3⟩ (fun hHeld => ?_)
  clear hK K
  try simp only [Act.put, List.setIfInBounds_toArray, List.set_cons_zero, List.set_cons_succ]
  refine wpAnyH_take (i := 2) (oi := { dst := some 16, op := Op.nilCheck (Operand.tmp 15), type := 0, pos := "end.go:55", after := #[{ on := 1, ground := Ground.data }], guard := none }) (v := (.pointer (some ⟨w1.drew.heap.size, 0, none⟩))) rfl (by kernel_rfl) (by kernel_rfl) (by kernel_rfl) (fun _ _ _ h => h) (Or.inl ⟨by rfl, ?_⟩) (by assumption) ?_
  · intro wx hSw
    obtain ⟨s0, s1, s2, s3⟩ := hSw
    go_simp
  try simp only [Act.put, List.setIfInBounds_toArray, List.set_cons_zero, List.set_cons_succ]
  refine wpAnyH_ready (rs := [3]) (by kernel_rfl) (by simp) ?_
  refine AllReadyH.cons (o := { dst := some 17, op := Op.load 100 (Operand.tmp 16), type := 100, pos := "end.go:55", after := #[{ on := 2, ground := Ground.data }], guard := none }) rfl (fun K hK => ?_) AllReadyH.nil
  rw [if_pos (by rfl)]
  refine wp_load_mid 100 (.tmp 16) rfl w1.drew.heap.size 0 rfl (row 121 (scell Sx.newS)) SD (range_stream hO2) HUS.out HSD.out HIS.out ?_
  refine hK.out _ _ hHeld (fun hHeld => ?_)
  clear hK K
  try simp only [Act.put, List.setIfInBounds_toArray, List.set_cons_zero, List.set_cons_succ]
  refine wpAnyH_ready (rs := [7]) (by kernel_rfl) (by simp) ?_
  refine AllReadyH.cons (o := { dst := some 21, op := Op.build 104 #[(3, Operand.tmp 14), (5, Operand.const (Value.int IntKind.i64 (-1))), (7, Operand.tmp 17), (8, Operand.tmp 20)], type := 104, pos := "end.go:55", after := #[{ on := 0, ground := Ground.data }, { on := 3, ground := Ground.data }, { on := 6, ground := Ground.data }], guard := none }) rfl (fun K hK => ?_) AllReadyH.nil
  refine step_end rfl (.tmp 14) (.tmp 17) (.tmp 20) rfl (by rfl) (by rfl) (by rfl) HBE.out ?_
  refine hK.out _ _ hHeld (fun hHeld => ?_)
  clear hK K
  try simp only [Act.put, List.setIfInBounds_toArray, List.set_cons_zero, List.set_cons_succ]
  refine wpAnyH_ready (rs := [8]) (by kernel_rfl) (by simp) ?_
  refine AllReadyH.cons (o := { dst := some 22, op := Op.box 104 (Operand.tmp 21), type := 108, pos := "end.go:55", after := #[{ on := 7, ground := Ground.data }], guard := none }) rfl (fun K hK => ?_) AllReadyH.nil
  go_simp
  refine hK.out _ _ ⟨(World.cell?_alloc_lt _ _ _ (World.block_lt_of_cell? _ _ e0)).trans e0, (World.cell?_alloc_lt _ _ _ (World.block_lt_of_cell? _ _ e1)).trans e1, (World.cell?_alloc_lt _ _ _ (World.block_lt_of_cell? _ _ e2)).trans e2, (World.cell?_alloc_lt _ _ _ (World.block_lt_of_cell? _ _ e3)).trans e3⟩ (fun hHeld => ?_)
  clear hK K
  try simp only [Act.put, List.setIfInBounds_toArray, List.set_cons_zero, List.set_cons_succ]
  refine wpAnyH_take (i := 9) (oi := { dst := some 2, op := Op.assign (Operand.tmp 22), type := 108, pos := "end.go:55", after := #[{ on := 8, ground := Ground.data }, { on := 1, ground := Ground.chain }, { on := 0, ground := Ground.phase }, { on := 1, ground := Ground.phase }, { on := 2, ground := Ground.phase }, { on := 3, ground := Ground.phase }, { on := 4, ground := Ground.phase }, { on := 5, ground := Ground.phase }, { on := 6, ground := Ground.phase }, { on := 7, ground := Ground.phase }, { on := 8, ground := Ground.phase }], guard := none }) (v := (.pointer (some ⟨w2.heap.size, 0, none⟩))) rfl (by kernel_rfl) (by kernel_rfl) (by kernel_rfl) (fun _ _ _ h => h) (Or.inl ⟨by rfl, ?_⟩) (by assumption) ?_
  · intro wx hSw
    obtain ⟨s0, s1, s2, s3⟩ := hSw
    go_simp
  try simp only [Act.put, List.setIfInBounds_toArray, List.set_cons_zero, List.set_cons_succ]
  refine wpAnyH_take (i := 10) (oi := { dst := some 3, op := Op.assign (Operand.const Value.nilIface), type := 33, pos := "end.go:55", after := #[{ on := 9, ground := Ground.chain }, { on := 0, ground := Ground.phase }, { on := 1, ground := Ground.phase }, { on := 2, ground := Ground.phase }, { on := 3, ground := Ground.phase }, { on := 4, ground := Ground.phase }, { on := 5, ground := Ground.phase }, { on := 6, ground := Ground.phase }, { on := 7, ground := Ground.phase }, { on := 8, ground := Ground.phase }, { on := 9, ground := Ground.phase }], guard := none }) (v := .nilIface) rfl (by kernel_rfl) (by kernel_rfl) (by kernel_rfl) (fun _ _ _ h => h) (Or.inl ⟨by rfl, ?_⟩) (by assumption) ?_
  · intro wx hSw
    obtain ⟨s0, s1, s2, s3⟩ := hSw
    go_simp
  try simp only [Act.put, List.setIfInBounds_toArray, List.set_cons_zero, List.set_cons_succ]
  refine wpAnyH_done (by kernel_rfl) (NoPanic.normal ?_) _
  go_wp2_with fail
  go_ret2
  refine ⟨w2.heap.size, rfl, ?_, ?_⟩
  · have hle : w.heap.size ≤ w2.heap.size := Nat.le_trans hb1.size hb2.size
    have := EO.new HWN.out w2 hle
    rw [HEC.out] at this
    exact this
  · have h12 : Below w.heap.size w w2 := hb1.trans (⟨hb2.os, hb2.tape, hb2.output, hb2.size, fun k hk => hb2.block k (Nat.lt_of_lt_of_le hk hb1.size)⟩)
    exact h12.alloc h12.size _
end Go.Proofs.YtdokgalidhmbbaaGreatDoor
