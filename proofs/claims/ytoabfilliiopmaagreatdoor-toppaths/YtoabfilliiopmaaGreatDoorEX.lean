/- What keep leaves, where packets were made ahead. -/
import Derived.Test.YtoabfilliiopmaaGreatDoorEG
import Derived.Test.YtoabfilliiopmaaGreatDoorEH
import Derived.Laws.OwnMore
import Derived.Deep.AppendLies
import Derived.Great.Walk
import Derived.Deep.RegionHeld3
namespace Go.Proofs.YtoabfilliiopmaaGreatDoor
open Go.RowKit Go.Lib Go.Sort
set_option linter.unusedVariables false
set_option linter.unusedSimpArgs false


theorem yields_eql {ops : Array Oper} {S : World → Prop} {op : Oper} {a : Act} {f g : Nat → Bool} {r : Bool} (hw : Region.wanted op (yielded ops a.tmps) = true) (x y : Operand) (ho : op.op = .binOp .eql 104 x y 104) (hx : a.eval x = .agg (brow f).toArray) (hy : a.eval y = .agg (brow g).toArray)
    (hr : ((List.range 60).all fun i => f i == g i) = r) : YieldsIf Tryz.prog ops S op (.bool r) a :=
  .inl ⟨hw, fun w _ => by
    have h1 := eq_rows f g w
    rw [hr] at h1
    have hm : Tryz.prog.eqGuardType Tryz.prog.depth 104 = false := by kernel_rfl
    have h2 := run_eqGuard_agg (P := Tryz.prog) w .eql 104 x y (brow f).toArray (brow g).toArray hm
    unfold execOp
    simp only [ho, hx, hy, Sem.run_bind, h2, h1, Result.andThen_ok, Sem.run_pure]⟩
theorem results_none {fn : Func} (h : fn.results = #[]) (tmps : Array Value) (w : World) : (results fn tmps).run Tryz.prog w = .ok (.tuple #[]) w := by
  simp [results, h]
/-- The last load has one packet more. -/
theorem KeepPost.same {w X : World} {B eb k g cap m a b : Nat} {vl vc : Value} {e : En} {front : List Ld} {y : Ld} (h : EO w B eb vl vc e) (hX : Below w.heap.size w X) (hls : e.ls = front ++ [y]) (hk : k = front.length) (ha : y.a = a) (hb : y.b = b) (hvl : vl = .slice (some ⟨g, 0, none⟩) (k + 1) cap) :
    KeepPost w (X.setCell ⟨g, k * 62 + 1, none⟩ (.int .i64 (m : Int))).drew B eb vl vc e vl (front ++ [⟨y.lo, m, a, b⟩]) := by
  subst hk hvl
  have hX1 := h.below hX
  have hne : g ≠ eb := fun e' => h.ap.1 (by rw [e']; rfl)
  have o : Off (fun j => j = g) X (X.setCell ⟨g, front.length * 62 + 1, none⟩ (.int .i64 (m : Int))) := (Off.refl _ _).setCell (K := fun j => j = g) (a := ⟨g, front.length * 62 + 1, none⟩) rfl _
  have o2 : Off (OwnE eb (.slice (some ⟨g, 0, none⟩) (front.length + 1) cap) vc) w (X.setCell ⟨g, front.length * 62 + 1, none⟩ (.int .i64 (m : Int))).drew := ((Off.of_below hX).trans (o.mono fun j _ hj => .inr (.inl (by rw [hj]; rfl)))).drew
  have hld := hX1.ld
  rw [hls] at hld
  have hl1 : (front ++ [y]).length = front.length + 1 := by simp
  rw [hl1] at hld
  have hst := (hld.stored (front.length * 62 + 1) (.int .i64 (m : Int))).1
  have e5 : (lds (front ++ [y])).set (front.length * 62 + 1) (.int .i64 (m : Int)) = lds (front ++ [⟨y.lo, m, a, b⟩]) := by
    rw [lds_append, lds_append, List.set_append, lds_length, if_neg (by omega)]
    have : front.length * 62 + 1 - front.length * 62 = 1 := by omega
    rw [this]
    simp [lds, lds1, ha, hb]
  rw [e5] at hst
  refine ⟨fun i hi => ?_, fun i => ?_, ?_, ?_, h.ap.1, o2, fun j hj => .inl hj⟩
  · show (X.setCell _ _).cell? _ = _
    rw [World.cell?_setCell_other _ _ _ _ (fun e' => by injection e' with e' _ _; exact hne e')]
    exact hX1.cl i hi
  · show (X.setCell _ _).frozen? _ = _
    rw [World.frozen?_setCell]
    exact hX1.fz i
  · rw [List.length_append]
    exact hst
  · exact o.row hX1.cm fun j hj e' => by
      subst e'
      exact loads_apart h.ld h.cm j hj rfl

set_option maxRecDepth 100000 in
set_option maxHeartbeats 800000 in
theorem keep_same {w : World} {B eb : Nat} {vl vc : Value} {e : En} (h : EO w B eb vl vc e) {a b m : Nat} (hm : e.m = m) (hl1000 : e.ls.length ≤ 1073741824) {front : List Ld} {y : Ld} (hls : e.ls = front ++ [y]) (hab : a < b ∨ (a = 0 ∧ b = 0)) (hb60 : b ≤ 60) (hsame : y.a = a ∧ y.b = b) :
    Calls Tryz.prog 48 #[.pointer (some ⟨eb, 0, none⟩), .agg (brow (hadF a b)).toArray] w fun ex w' => ex = .returned (.tuple #[]) ∧ ∃ vl', KeepPost w w' B eb vl vc e vl' (front ++ [⟨y.lo, m, a, b⟩]) := by
  obtain ⟨f, hf⟩ : ∃ f, hadF a b = f := ⟨_, rfl⟩
  have HF : Hid (hadF a b = f) := hf
  have hy := h.inv.ls y (by rw [hls]; simp)
  have HEQ : Hid (((List.range 60).all fun i => hadF y.a y.b i == f i) = true) := by
    show _ = _
    rw [← hf, had_same hy.2.1 hab (Nat.le_trans hy.2.2.2 h.inv.en60) hb60]
    exact decide_eq_true hsame
  rw [hf]
  obtain ⟨f0, hf0⟩ : ∃ f0, hadF y.a y.b = f0 := ⟨_, rfl⟩
  rw [hf0] at HEQ
  obtain ⟨k, hk⟩ : ∃ k, front.length = k := ⟨_, rfl⟩
  have hlen : e.ls.length = k + 1 := by rw [hls, List.length_append, hk]; rfl
  have hld := h.ld
  obtain ⟨g, cap, hvl, _, _⟩ := hld.form (by omega)
  rw [hlen] at hvl
  obtain ⟨n, hn⟩ : ∃ n, k + 1 = n := ⟨_, rfl⟩
  rw [hn] at hvl hlen
  have HO : Hid (EO w B eb vl vc e) := h
  have HVL : Hid (vl = .slice (some ⟨g, 0, none⟩) e.ls.length cap) := by show _ = _; rw [hvl, hlen]
  have HLN : Hid (e.ls.length = n) := hlen
  have HNL : Hid (n ≤ 1073741824) := by rw [← hlen]; exact hl1000
  obtain ⟨i0, hi0, hz0, hz1, hz2⟩ := info_parts infoL
  have hX0 : Below w.heap.size w (w.alloc (.cells (brow f).toArray 104)) := (Below.refl _ _).alloc (Nat.le_refl _) _
  have dr1 : (w.alloc (.cells (brow f).toArray 104)).drew.rangeAt w.heap.size 0 (brow f) := range_new w 104 60 _
  have k124 := (hX0.cell (p := ⟨eb, 124, none⟩) h.lt).trans (h.cl 124 (by omega))
  rw [ecell_loads, hvl] at k124
  have d124 : (w.alloc (.cells (brow f).toArray 104)).drew.cell? ⟨eb, 124, none⟩ = some (.slice (some ⟨g, 0, none⟩) n cap) := k124
  have dr0 : (w.alloc (.cells (brow f).toArray 104)).drew.rangeAt g (k * 62 + 2) (brow f0) := row_at_mid fun i hi => by
    have h1 := own_below hld hX0
    rw [hvl, hlen] at h1
    have h2 := h1.cellAt (k * 62 + 2 + i) (by omega)
    have h3 := lds_at e.ls k (2 + i) (by omega) (by omega)
    have h4 : e.ls[k]'(by omega) = y := by simp [hls, ← hk]
    rw [h4, lds1_brow] at h3
    rw [show k * 62 + 2 + i = k * 62 + (2 + i) by omega, h3] at h2
    rw [show k * 62 + 2 + i = k * 62 + (2 + i) by omega]
    refine Eq.trans h2 ?_
    rw [show 2 + i = i + 1 + 1 by omega]
    simp only [List.getElem?_cons_succ]
    rw [brow_get hi, ← hf0]
  have hu : Tryz.prog.underlying 104 = some (.array 60 4) := by kernel_rfl
  have gn : (n : Int) - 1 = (k : Int) := by omega
  have gk0 : (0 : Int) ≤ (k : Int) := by omega
  have gk1 : (k : Int) < (n : Int) := by omega
  have gk2 : (k : Int) ≤ 1073741824 := by omega
  have hXd : Below w.heap.size w (w.alloc (.cells (brow f).toArray 104)).drew := hX0.drew
  have HKN : Hid (front.length = k ∧ k + 1 = n ∧ e.ls = front ++ [y] ∧ vl = .slice (some ⟨g, 0, none⟩) n cap) := ⟨hk, hn, hls, hvl⟩
  clear h hld hk hn hls hvl hl1000 hf hf0 hlen hy
  generalize hA : (brow f).toArray = arr at hX0 dr0 dr1 k124 d124 hXd ⊢
  go_enter Tryz.func48, Tryz.ntmps48
  go_wp2_with fail
  refine wp_region_noPanic ?_
  refine wp_region_held_drew (S := fun w' => w'.cell? ⟨eb, 124, none⟩ = some (.slice (some ⟨g, 0, none⟩) n cap) ∧ w'.rangeAt g (k * 62 + 2) (brow f0) ∧ w'.rangeAt w.heap.size 0 (brow f)) (by kernel_rfl) ⟨d124, dr0, dr1⟩ (fun hHeld => ?_)
  refine wpAnyH_take (i := 0) (oi := { dst := some 11, op := Op.move (Operand.tmp 4), type := 3, pos := "end.go:159", after := #[], guard := none }) (v := (.int .i64 (k : Int))) rfl (by kernel_rfl) (by kernel_rfl) (by kernel_rfl) (fun _ _ _ h => h) (Or.inl ⟨by rfl, ?_⟩) (by assumption) ?_
  · intro wx hSw
    obtain ⟨s0, s1, s2⟩ := hSw
    go_simp
  try simp only [Act.put, List.setIfInBounds_toArray, List.set_cons_zero, List.set_cons_succ]
  refine wpAnyH_take (i := 1) (oi := { dst := some 12, op := Op.binOp BinOp.geq 3 (Operand.tmp 11) (Operand.const (Value.int IntKind.i64 0)) 3, type := 4, pos := "end.go:159", after := #[{ on := 0, ground := Ground.data }], guard := none }) (v := (.bool true)) rfl (by kernel_rfl) (by kernel_rfl) (by kernel_rfl) (fun _ _ _ h => h) (Or.inl ⟨by rfl, ?_⟩) (by assumption) ?_
  · intro wx hSw
    obtain ⟨s0, s1, s2⟩ := hSw
    go_simp
  try simp only [Act.put, List.setIfInBounds_toArray, List.set_cons_zero, List.set_cons_succ]
  refine wpAnyH_take (i := 2) (oi := { dst := some 13, op := Op.move (Operand.tmp 12), type := 4, pos := "end.go:159", after := #[{ on := 1, ground := Ground.data }], guard := none }) (v := (.bool true)) rfl (by kernel_rfl) (by kernel_rfl) (by kernel_rfl) (fun _ _ _ h => h) (Or.inl ⟨by rfl, ?_⟩) (by assumption) ?_
  · intro wx hSw
    obtain ⟨s0, s1, s2⟩ := hSw
    go_simp
  try simp only [Act.put, List.setIfInBounds_toArray, List.set_cons_zero, List.set_cons_succ]
  refine wpAnyH_take (i := 3) (oi := { dst := some 14, op := Op.move (Operand.tmp 0), type := 22, pos := "end.go:159", after := #[{ on := 2, ground := Ground.guard }], guard := some (2, true) }) (v := (.pointer (some ⟨eb, 0, none⟩))) rfl (by kernel_rfl) (by kernel_rfl) (by kernel_rfl) (fun _ _ _ h => h) (Or.inl ⟨by rfl, ?_⟩) (by assumption) ?_
  · intro wx hSw
    obtain ⟨s0, s1, s2⟩ := hSw
    go_simp
  try simp only [Act.put, List.setIfInBounds_toArray, List.set_cons_zero, List.set_cons_succ]
  refine wpAnyH_take (i := 4) (oi := { dst := some 15, op := Op.nilCheck (Operand.tmp 14), type := 0, pos := "end.go:159", after := #[{ on := 3, ground := Ground.data }, { on := 2, ground := Ground.guard }], guard := some (2, true) }) (v := (.pointer (some ⟨eb, 0, none⟩))) rfl (by kernel_rfl) (by kernel_rfl) (by kernel_rfl) (fun _ _ _ h => h) (Or.inl ⟨by rfl, ?_⟩) (by assumption) ?_
  · intro wx hSw
    obtain ⟨s0, s1, s2⟩ := hSw
    go_simp
  try simp only [Act.put, List.setIfInBounds_toArray, List.set_cons_zero, List.set_cons_succ]
  refine wpAnyH_take (i := 5) (oi := { dst := some 16, op := Op.fieldAddr 107 (Operand.tmp 15) 6, type := 0, pos := "end.go:159", after := #[{ on := 4, ground := Ground.data }, { on := 2, ground := Ground.guard }], guard := some (2, true) }) (v := (.pointer (some ⟨eb, 124, none⟩))) rfl (by kernel_rfl) (by kernel_rfl) (by kernel_rfl) (fun _ _ _ h => h) (Or.inl ⟨by rfl, ?_⟩) (by assumption) ?_
  · intro wx hSw
    obtain ⟨s0, s1, s2⟩ := hSw
    go_simp
  try simp only [Act.put, List.setIfInBounds_toArray, List.set_cons_zero, List.set_cons_succ]
  refine wpAnyH_take (i := 6) (oi := { dst := some 17, op := Op.load 105 (Operand.tmp 16), type := 105, pos := "end.go:159", after := #[{ on := 5, ground := Ground.data }, { on := 2, ground := Ground.guard }], guard := some (2, true) }) (v := (.slice (some ⟨g, 0, none⟩) n cap)) rfl (by kernel_rfl) (by kernel_rfl) (by kernel_rfl) (fun _ _ _ h => h) (Or.inl ⟨by rfl, ?_⟩) (by assumption) ?_
  · intro wx hSw
    obtain ⟨s0, s1, s2⟩ := hSw
    go_simp
  try simp only [Act.put, List.setIfInBounds_toArray, List.set_cons_zero, List.set_cons_succ]
  refine wpAnyH_take (i := 7) (oi := { dst := some 18, op := Op.move (Operand.tmp 4), type := 3, pos := "end.go:159", after := #[{ on := 2, ground := Ground.guard }], guard := some (2, true) }) (v := (.int .i64 (k : Int))) rfl (by kernel_rfl) (by kernel_rfl) (by kernel_rfl) (fun _ _ _ h => h) (Or.inl ⟨by rfl, ?_⟩) (by assumption) ?_
  · intro wx hSw
    obtain ⟨s0, s1, s2⟩ := hSw
    go_simp
  try simp only [Act.put, List.setIfInBounds_toArray, List.set_cons_zero, List.set_cons_succ]
  refine wpAnyH_take (i := 8) (oi := { dst := some 19, op := Op.indexAddr 105 (Operand.tmp 17) (Operand.tmp 18), type := 0, pos := "end.go:159", after := #[{ on := 6, ground := Ground.data }, { on := 7, ground := Ground.data }, { on := 2, ground := Ground.guard }], guard := some (2, true) }) (v := (.pointer (some ⟨g, k * 62, none⟩))) rfl (by kernel_rfl) (by kernel_rfl) (by kernel_rfl) (fun _ _ _ h => h) (Or.inl ⟨by rfl, ?_⟩) (by assumption) ?_
  · intro wx hSw
    obtain ⟨s0, s1, s2⟩ := hSw
    go_simp
  try simp only [Act.put, List.setIfInBounds_toArray, List.set_cons_zero, List.set_cons_succ]
  refine wpAnyH_take (i := 9) (oi := { dst := some 20, op := Op.fieldAddr 160 (Operand.tmp 19) 1, type := 0, pos := "end.go:159", after := #[{ on := 8, ground := Ground.data }, { on := 2, ground := Ground.guard }], guard := some (2, true) }) (v := (.pointer (some ⟨g, k * 62 + 2, none⟩))) rfl (by kernel_rfl) (by kernel_rfl) (by kernel_rfl) (fun _ _ _ h => h) (Or.inl ⟨by rfl, ?_⟩) (by assumption) ?_
  · intro wx hSw
    obtain ⟨s0, s1, s2⟩ := hSw
    go_simp
  try simp only [Act.put, List.setIfInBounds_toArray, List.set_cons_zero, List.set_cons_succ]
  refine wpAnyH_take (i := 10) (oi := { dst := some 21, op := Op.load 104 (Operand.tmp 20), type := 104, pos := "end.go:159", after := #[{ on := 9, ground := Ground.data }, { on := 2, ground := Ground.guard }], guard := some (2, true) }) (v := .agg (brow f0).toArray) rfl (by kernel_rfl) (by kernel_rfl) (by kernel_rfl) (fun _ _ _ h => h) (yieldsIf_load_mid (by rfl) 104 (.tmp 20) rfl g (k * 62 + 2) rfl (brow f0) (.array 60 4) (fun _ h => h.2.1) hu rfl (by rw [brow_length]; exact size_places)) (by assumption) ?_
  try simp only [Act.put, List.setIfInBounds_toArray, List.set_cons_zero, List.set_cons_succ]
  refine wpAnyH_take (i := 11) (oi := { dst := some 22, op := Op.load 104 (Operand.tmp 3), type := 104, pos := "end.go:159", after := #[{ on := 2, ground := Ground.guard }], guard := some (2, true) }) (v := .agg (brow f).toArray) rfl (by kernel_rfl) (by kernel_rfl) (by kernel_rfl) (fun _ _ _ h => h) (yieldsIf_load_mid (by rfl) 104 (.tmp 3) rfl w.heap.size (0) rfl (brow f) (.array 60 4) (fun _ h => h.2.2) hu rfl (by rw [brow_length]; exact size_places)) (by assumption) ?_
  try simp only [Act.put, List.setIfInBounds_toArray, List.set_cons_zero, List.set_cons_succ]
  refine wpAnyH_take (i := 12) (oi := { dst := some 23, op := Op.binOp BinOp.eql 104 (Operand.tmp 21) (Operand.tmp 22) 104, type := 4, pos := "end.go:159", after := #[{ on := 10, ground := Ground.data }, { on := 11, ground := Ground.data }, { on := 2, ground := Ground.guard }], guard := some (2, true) }) (v := .bool true) rfl (by kernel_rfl) (by kernel_rfl) (by kernel_rfl) (fun _ _ _ h => h) (yields_eql (by rfl) (.tmp 21) (.tmp 22) rfl rfl rfl HEQ.out) (by assumption) ?_
  try simp only [Act.put, List.setIfInBounds_toArray, List.set_cons_zero, List.set_cons_succ]
  refine wpAnyH_take (i := 13) (oi := { dst := some 24, op := Op.pick (Operand.tmp 13) (Operand.tmp 23) (Operand.const (Value.bool false)), type := 4, pos := "end.go:159", after := #[{ on := 2, ground := Ground.data }, { on := 12, ground := Ground.data }], guard := none }) (v := (.bool true)) rfl (by kernel_rfl) (by kernel_rfl) (by kernel_rfl) (fun _ _ _ h => h) (Or.inl ⟨by rfl, ?_⟩) (by assumption) ?_
  · intro wx hSw
    obtain ⟨s0, s1, s2⟩ := hSw
    go_simp
  try simp only [Act.put, List.setIfInBounds_toArray, List.set_cons_zero, List.set_cons_succ]
  refine wpAnyH_done (by kernel_rfl) (NoPanic.normal ?_) _
  clear hHeld
  go_wp2_with fail
  have hXB : Below w.heap.size w (w.alloc (.cells arr 104)).drew := hXd
  generalize (w.alloc (.cells arr 104)).drew = X at *
  have HXB : Hid (Below w.heap.size w X) := hXB
  have x124 : X.drew.cell? ⟨eb, 124, none⟩ = some (.slice (some ⟨g, 0, none⟩) n cap) := d124
  have x122 : X.drew.cell? ⟨eb, 122, none⟩ = some (.int .i64 (m : Int)) := by
    have := (HXB.out.cell (p := ⟨eb, 122, none⟩) HO.out.lt).trans (HO.out.cl 122 (by omega))
    rw [ecell_made, hm] at this
    exact this
  have hgX := own_below HO.out.ld HXB.out
  rw [HKN.out.2.2.2, HLN.out] at hgX
  have xc : X.drew.cell? ⟨g, k * 62 + 1, none⟩ = some (.int .i64 (y.hi : Int)) := by
    have h2 := hgX.cellAt (k * 62 + 1) (by omega)
    have h3 := lds_at e.ls k 1 (by have := HLN.out; omega) (by omega)
    have h4 : e.ls[k]'(by have := HLN.out; omega) = y := by simp [HKN.out.2.2.1, ← HKN.out.1]
    rw [h4] at h3
    rw [h3] at h2
    exact h2
  have xf : X.drew.frozen? ⟨g, k * 62 + 1, none⟩ = false := hgX.frozenAt (k * 62 + 1)
  have hge : Hid (g ≠ eb) := fun e' => HO.out.ap.1 (by rw [HKN.out.2.2.2, e']; rfl)
  have HKS : Hid (KeepPost w (X.setCell ⟨g, k * 62 + 1, none⟩ (.int .i64 (m : Int))).drew B eb vl vc e vl (front ++ [⟨y.lo, m, a, b⟩])) := KeepPost.same HO.out HXB.out HKN.out.2.2.1 HKN.out.1.symm hsame.1 hsame.2 (by rw [HKN.out.2.1]; exact HKN.out.2.2.2)
  clear hgX hXB hXd dr0 dr1 k124 d124 hX0 hA
  refine wp_region_noPanic ?_
  refine wp_region_held_drew (S := fun w' => w'.cell? ⟨eb, 124, none⟩ = some (.slice (some ⟨g, 0, none⟩) n cap) ∧ w'.cell? ⟨eb, 122, none⟩ = some (.int .i64 (m : Int))) (by kernel_rfl) ⟨x124, x122⟩ (fun hHeld => ?_)
  refine wpAnyH_take (i := 0) (oi := { dst := some 25, op := Op.move (Operand.tmp 0), type := 22, pos := "end.go:160", after := #[], guard := none }) (v := (.pointer (some ⟨eb, 0, none⟩))) rfl (by kernel_rfl) (by kernel_rfl) (by kernel_rfl) (fun _ _ _ h => h) (Or.inl ⟨by rfl, ?_⟩) (by assumption) ?_
  · intro wx hSw
    obtain ⟨s0, s1⟩ := hSw
    go_simp
  try simp only [Act.put, List.setIfInBounds_toArray, List.set_cons_zero, List.set_cons_succ]
  refine wpAnyH_take (i := 1) (oi := { dst := some 26, op := Op.nilCheck (Operand.tmp 25), type := 0, pos := "end.go:160", after := #[{ on := 0, ground := Ground.data }], guard := none }) (v := (.pointer (some ⟨eb, 0, none⟩))) rfl (by kernel_rfl) (by kernel_rfl) (by kernel_rfl) (fun _ _ _ h => h) (Or.inl ⟨by rfl, ?_⟩) (by assumption) ?_
  · intro wx hSw
    obtain ⟨s0, s1⟩ := hSw
    go_simp
  try simp only [Act.put, List.setIfInBounds_toArray, List.set_cons_zero, List.set_cons_succ]
  refine wpAnyH_take (i := 2) (oi := { dst := some 27, op := Op.fieldAddr 107 (Operand.tmp 26) 6, type := 0, pos := "end.go:160", after := #[{ on := 1, ground := Ground.data }], guard := none }) (v := (.pointer (some ⟨eb, 124, none⟩))) rfl (by kernel_rfl) (by kernel_rfl) (by kernel_rfl) (fun _ _ _ h => h) (Or.inl ⟨by rfl, ?_⟩) (by assumption) ?_
  · intro wx hSw
    obtain ⟨s0, s1⟩ := hSw
    go_simp
  try simp only [Act.put, List.setIfInBounds_toArray, List.set_cons_zero, List.set_cons_succ]
  refine wpAnyH_take (i := 3) (oi := { dst := some 28, op := Op.load 105 (Operand.tmp 27), type := 105, pos := "end.go:160", after := #[{ on := 2, ground := Ground.data }], guard := none }) (v := (.slice (some ⟨g, 0, none⟩) n cap)) rfl (by kernel_rfl) (by kernel_rfl) (by kernel_rfl) (fun _ _ _ h => h) (Or.inl ⟨by rfl, ?_⟩) (by assumption) ?_
  · intro wx hSw
    obtain ⟨s0, s1⟩ := hSw
    go_simp
  try simp only [Act.put, List.setIfInBounds_toArray, List.set_cons_zero, List.set_cons_succ]
  refine wpAnyH_take (i := 4) (oi := { dst := some 29, op := Op.move (Operand.tmp 4), type := 3, pos := "end.go:160", after := #[], guard := none }) (v := (.int .i64 (k : Int))) rfl (by kernel_rfl) (by kernel_rfl) (by kernel_rfl) (fun _ _ _ h => h) (Or.inl ⟨by rfl, ?_⟩) (by assumption) ?_
  · intro wx hSw
    obtain ⟨s0, s1⟩ := hSw
    go_simp
  try simp only [Act.put, List.setIfInBounds_toArray, List.set_cons_zero, List.set_cons_succ]
  refine wpAnyH_take (i := 5) (oi := { dst := some 30, op := Op.move (Operand.tmp 0), type := 22, pos := "end.go:160", after := #[], guard := none }) (v := (.pointer (some ⟨eb, 0, none⟩))) rfl (by kernel_rfl) (by kernel_rfl) (by kernel_rfl) (fun _ _ _ h => h) (Or.inl ⟨by rfl, ?_⟩) (by assumption) ?_
  · intro wx hSw
    obtain ⟨s0, s1⟩ := hSw
    go_simp
  try simp only [Act.put, List.setIfInBounds_toArray, List.set_cons_zero, List.set_cons_succ]
  refine wpAnyH_take (i := 6) (oi := { dst := some 31, op := Op.nilCheck (Operand.tmp 30), type := 0, pos := "end.go:160", after := #[{ on := 5, ground := Ground.data }], guard := none }) (v := (.pointer (some ⟨eb, 0, none⟩))) rfl (by kernel_rfl) (by kernel_rfl) (by kernel_rfl) (fun _ _ _ h => h) (Or.inl ⟨by rfl, ?_⟩) (by assumption) ?_
  · intro wx hSw
    obtain ⟨s0, s1⟩ := hSw
    go_simp
  try simp only [Act.put, List.setIfInBounds_toArray, List.set_cons_zero, List.set_cons_succ]
  refine wpAnyH_take (i := 7) (oi := { dst := some 32, op := Op.fieldAddr 107 (Operand.tmp 31) 4, type := 0, pos := "end.go:160", after := #[{ on := 6, ground := Ground.data }], guard := none }) (v := (.pointer (some ⟨eb, 122, none⟩))) rfl (by kernel_rfl) (by kernel_rfl) (by kernel_rfl) (fun _ _ _ h => h) (Or.inl ⟨by rfl, ?_⟩) (by assumption) ?_
  · intro wx hSw
    obtain ⟨s0, s1⟩ := hSw
    go_simp
  try simp only [Act.put, List.setIfInBounds_toArray, List.set_cons_zero, List.set_cons_succ]
  refine wpAnyH_take (i := 8) (oi := { dst := some 33, op := Op.load 3 (Operand.tmp 32), type := 3, pos := "end.go:160", after := #[{ on := 7, ground := Ground.data }], guard := none }) (v := (.int .i64 (m : Int))) rfl (by kernel_rfl) (by kernel_rfl) (by kernel_rfl) (fun _ _ _ h => h) (Or.inl ⟨by rfl, ?_⟩) (by assumption) ?_
  · intro wx hSw
    obtain ⟨s0, s1⟩ := hSw
    go_simp
  try simp only [Act.put, List.setIfInBounds_toArray, List.set_cons_zero, List.set_cons_succ]
  refine wpAnyH_take (i := 9) (oi := { dst := some 34, op := Op.indexAddr 105 (Operand.tmp 28) (Operand.tmp 29), type := 0, pos := "end.go:160", after := #[{ on := 3, ground := Ground.data }, { on := 4, ground := Ground.data }, { on := 0, ground := Ground.phase }, { on := 1, ground := Ground.phase }, { on := 2, ground := Ground.phase }, { on := 3, ground := Ground.phase }, { on := 4, ground := Ground.phase }, { on := 5, ground := Ground.phase }, { on := 6, ground := Ground.phase }, { on := 7, ground := Ground.phase }, { on := 8, ground := Ground.phase }], guard := none }) (v := (.pointer (some ⟨g, k * 62, none⟩))) rfl (by kernel_rfl) (by kernel_rfl) (by kernel_rfl) (fun _ _ _ h => h) (Or.inl ⟨by rfl, ?_⟩) (by assumption) ?_
  · intro wx hSw
    obtain ⟨s0, s1⟩ := hSw
    go_simp
  try simp only [Act.put, List.setIfInBounds_toArray, List.set_cons_zero, List.set_cons_succ]
  refine wpAnyH_take (i := 10) (oi := { dst := some 35, op := Op.fieldAddr 160 (Operand.tmp 34) 0, type := 0, pos := "end.go:160", after := #[{ on := 9, ground := Ground.data }, { on := 0, ground := Ground.phase }, { on := 1, ground := Ground.phase }, { on := 2, ground := Ground.phase }, { on := 3, ground := Ground.phase }, { on := 4, ground := Ground.phase }, { on := 5, ground := Ground.phase }, { on := 6, ground := Ground.phase }, { on := 7, ground := Ground.phase }, { on := 8, ground := Ground.phase }], guard := none }) (v := (.pointer (some ⟨g, k * 62, none⟩))) rfl (by kernel_rfl) (by kernel_rfl) (by kernel_rfl) (fun _ _ _ h => h) (Or.inl ⟨by rfl, ?_⟩) (by assumption) ?_
  · intro wx hSw
    obtain ⟨s0, s1⟩ := hSw
    go_simp
  try simp only [Act.put, List.setIfInBounds_toArray, List.set_cons_zero, List.set_cons_succ]
  refine wpAnyH_take (i := 11) (oi := { dst := some 36, op := Op.fieldAddr 82 (Operand.tmp 35) 1, type := 0, pos := "end.go:160", after := #[{ on := 10, ground := Ground.data }, { on := 0, ground := Ground.phase }, { on := 1, ground := Ground.phase }, { on := 2, ground := Ground.phase }, { on := 3, ground := Ground.phase }, { on := 4, ground := Ground.phase }, { on := 5, ground := Ground.phase }, { on := 6, ground := Ground.phase }, { on := 7, ground := Ground.phase }, { on := 8, ground := Ground.phase }], guard := none }) (v := (.pointer (some ⟨g, k * 62 + 1, none⟩))) rfl (by kernel_rfl) (by kernel_rfl) (by kernel_rfl) (fun _ _ _ h => h) (Or.inl ⟨by rfl, ?_⟩) (by assumption) ?_
  · intro wx hSw
    obtain ⟨s0, s1⟩ := hSw
    go_simp
  try simp only [Act.put, List.setIfInBounds_toArray, List.set_cons_zero, List.set_cons_succ]
  refine wpAnyH_ready (rs := [12]) (by kernel_rfl) (by simp) ?_
  refine AllReadyH.cons (o := { dst := none, op := Op.store 3 (Operand.tmp 36) (Operand.tmp 33), type := 0, pos := "end.go:160", after := #[{ on := 11, ground := Ground.data }, { on := 8, ground := Ground.data }, { on := 0, ground := Ground.phase }, { on := 1, ground := Ground.phase }, { on := 2, ground := Ground.phase }, { on := 3, ground := Ground.phase }, { on := 4, ground := Ground.phase }, { on := 5, ground := Ground.phase }, { on := 6, ground := Ground.phase }, { on := 7, ground := Ground.phase }, { on := 8, ground := Ground.phase }], guard := none }) rfl (fun K hK => ?_) AllReadyH.nil
  go_simp
  refine hK.out _ _ ⟨(World.cell?_setCell_other _ _ _ _ (fun e' => by injection e' with e' _ _; exact hge.out e')).trans x124, (World.cell?_setCell_other _ _ _ _ (fun e' => by injection e' with e' _ _; exact hge.out e')).trans x122⟩ (fun hHeld => ?_)
  clear hK K
  refine wpAnyH_done (by kernel_rfl) (NoPanic.normal ?_) _
  go_wp2_with fail
  refine bodyPost_ret (results_none rfl _ _) rfl ⟨rfl, _, HKS.out⟩

set_option maxRecDepth 100000 in
set_option maxHeartbeats 800000 in
theorem keep_new {w : World} {B eb : Nat} {vl vc : Value} {e : En} (h : EO w B eb vl vc e) {a b m : Nat} (hm : e.m = m) (hl1000 : e.ls.length ≤ 1073741824) {front : List Ld} {y : Ld} (hls : e.ls = front ++ [y]) (hab : a < b ∨ (a = 0 ∧ b = 0)) (hb60 : b ≤ 60) (hsame : ¬ (y.a = a ∧ y.b = b)) :
    Calls Tryz.prog 48 #[.pointer (some ⟨eb, 0, none⟩), .agg (brow (hadF a b)).toArray] w fun ex w' => ex = .returned (.tuple #[]) ∧ ∃ vl', KeepPost w w' B eb vl vc e vl' (e.ls ++ [⟨m, m, a, b⟩]) := by
  obtain ⟨f, hf⟩ : ∃ f, hadF a b = f := ⟨_, rfl⟩
  have HF : Hid (hadF a b = f) := hf
  have hy := h.inv.ls y (by rw [hls]; simp)
  have HEQ : Hid (((List.range 60).all fun i => hadF y.a y.b i == f i) = false) := by
    show _ = _
    rw [← hf, had_same hy.2.1 hab (Nat.le_trans hy.2.2.2 h.inv.en60) hb60]
    exact decide_eq_false hsame
  rw [hf]
  obtain ⟨f0, hf0⟩ : ∃ f0, hadF y.a y.b = f0 := ⟨_, rfl⟩
  rw [hf0] at HEQ
  obtain ⟨k, hk⟩ : ∃ k, front.length = k := ⟨_, rfl⟩
  have hlen : e.ls.length = k + 1 := by rw [hls, List.length_append, hk]; rfl
  have hld := h.ld
  obtain ⟨g, cap, hvl, _, _⟩ := hld.form (by omega)
  rw [hlen] at hvl
  obtain ⟨n, hn⟩ : ∃ n, k + 1 = n := ⟨_, rfl⟩
  rw [hn] at hvl hlen
  have HO : Hid (EO w B eb vl vc e) := h
  have HVL : Hid (vl = .slice (some ⟨g, 0, none⟩) e.ls.length cap) := by show _ = _; rw [hvl, hlen]
  have HLN : Hid (e.ls.length = n) := hlen
  have HNL : Hid (n ≤ 1073741824) := by rw [← hlen]; exact hl1000
  obtain ⟨i0, hi0, hz0, hz1, hz2⟩ := info_parts infoL
  have hX0 : Below w.heap.size w (w.alloc (.cells (brow f).toArray 104)) := (Below.refl _ _).alloc (Nat.le_refl _) _
  have dr1 : (w.alloc (.cells (brow f).toArray 104)).drew.rangeAt w.heap.size 0 (brow f) := range_new w 104 60 _
  have k124 := (hX0.cell (p := ⟨eb, 124, none⟩) h.lt).trans (h.cl 124 (by omega))
  rw [ecell_loads, hvl] at k124
  have d124 : (w.alloc (.cells (brow f).toArray 104)).drew.cell? ⟨eb, 124, none⟩ = some (.slice (some ⟨g, 0, none⟩) n cap) := k124
  have dr0 : (w.alloc (.cells (brow f).toArray 104)).drew.rangeAt g (k * 62 + 2) (brow f0) := row_at_mid fun i hi => by
    have h1 := own_below hld hX0
    rw [hvl, hlen] at h1
    have h2 := h1.cellAt (k * 62 + 2 + i) (by omega)
    have h3 := lds_at e.ls k (2 + i) (by omega) (by omega)
    have h4 : e.ls[k]'(by omega) = y := by simp [hls, ← hk]
    rw [h4, lds1_brow] at h3
    rw [show k * 62 + 2 + i = k * 62 + (2 + i) by omega, h3] at h2
    rw [show k * 62 + 2 + i = k * 62 + (2 + i) by omega]
    refine Eq.trans h2 ?_
    rw [show 2 + i = i + 1 + 1 by omega]
    simp only [List.getElem?_cons_succ]
    rw [brow_get hi, ← hf0]
  have hu : Tryz.prog.underlying 104 = some (.array 60 4) := by kernel_rfl
  have gn : (n : Int) - 1 = (k : Int) := by omega
  have gk0 : (0 : Int) ≤ (k : Int) := by omega
  have gk1 : (k : Int) < (n : Int) := by omega
  have gk2 : (k : Int) ≤ 1073741824 := by omega
  have hXd : Below w.heap.size w (w.alloc (.cells (brow f).toArray 104)).drew := hX0.drew
  have HKN : Hid (front.length = k ∧ k + 1 = n ∧ e.ls = front ++ [y] ∧ vl = .slice (some ⟨g, 0, none⟩) n cap) := ⟨hk, hn, hls, hvl⟩
  clear h hld hk hn hls hvl hl1000 hf hf0 hlen hy
  generalize hA : (brow f).toArray = arr at hX0 dr0 dr1 k124 d124 hXd ⊢
  go_enter Tryz.func48, Tryz.ntmps48
  go_wp2_with fail
  refine wp_region_noPanic ?_
  refine wp_region_held_drew (S := fun w' => w'.cell? ⟨eb, 124, none⟩ = some (.slice (some ⟨g, 0, none⟩) n cap) ∧ w'.rangeAt g (k * 62 + 2) (brow f0) ∧ w'.rangeAt w.heap.size 0 (brow f)) (by kernel_rfl) ⟨d124, dr0, dr1⟩ (fun hHeld => ?_)
  refine wpAnyH_take (i := 0) (oi := { dst := some 11, op := Op.move (Operand.tmp 4), type := 3, pos := "end.go:159", after := #[], guard := none }) (v := (.int .i64 (k : Int))) rfl (by kernel_rfl) (by kernel_rfl) (by kernel_rfl) (fun _ _ _ h => h) (Or.inl ⟨by rfl, ?_⟩) (by assumption) ?_
  · intro wx hSw
    obtain ⟨s0, s1, s2⟩ := hSw
    go_simp
  try simp only [Act.put, List.setIfInBounds_toArray, List.set_cons_zero, List.set_cons_succ]
  refine wpAnyH_take (i := 1) (oi := { dst := some 12, op := Op.binOp BinOp.geq 3 (Operand.tmp 11) (Operand.const (Value.int IntKind.i64 0)) 3, type := 4, pos := "end.go:159", after := #[{ on := 0, ground := Ground.data }], guard := none }) (v := (.bool true)) rfl (by kernel_rfl) (by kernel_rfl) (by kernel_rfl) (fun _ _ _ h => h) (Or.inl ⟨by rfl, ?_⟩) (by assumption) ?_
  · intro wx hSw
    obtain ⟨s0, s1, s2⟩ := hSw
    go_simp
  try simp only [Act.put, List.setIfInBounds_toArray, List.set_cons_zero, List.set_cons_succ]
  refine wpAnyH_take (i := 2) (oi := { dst := some 13, op := Op.move (Operand.tmp 12), type := 4, pos := "end.go:159", after := #[{ on := 1, ground := Ground.data }], guard := none }) (v := (.bool true)) rfl (by kernel_rfl) (by kernel_rfl) (by kernel_rfl) (fun _ _ _ h => h) (Or.inl ⟨by rfl, ?_⟩) (by assumption) ?_
  · intro wx hSw
    obtain ⟨s0, s1, s2⟩ := hSw
    go_simp
  try simp only [Act.put, List.setIfInBounds_toArray, List.set_cons_zero, List.set_cons_succ]
  refine wpAnyH_take (i := 3) (oi := { dst := some 14, op := Op.move (Operand.tmp 0), type := 22, pos := "end.go:159", after := #[{ on := 2, ground := Ground.guard }], guard := some (2, true) }) (v := (.pointer (some ⟨eb, 0, none⟩))) rfl (by kernel_rfl) (by kernel_rfl) (by kernel_rfl) (fun _ _ _ h => h) (Or.inl ⟨by rfl, ?_⟩) (by assumption) ?_
  · intro wx hSw
    obtain ⟨s0, s1, s2⟩ := hSw
    go_simp
  try simp only [Act.put, List.setIfInBounds_toArray, List.set_cons_zero, List.set_cons_succ]
  refine wpAnyH_take (i := 4) (oi := { dst := some 15, op := Op.nilCheck (Operand.tmp 14), type := 0, pos := "end.go:159", after := #[{ on := 3, ground := Ground.data }, { on := 2, ground := Ground.guard }], guard := some (2, true) }) (v := (.pointer (some ⟨eb, 0, none⟩))) rfl (by kernel_rfl) (by kernel_rfl) (by kernel_rfl) (fun _ _ _ h => h) (Or.inl ⟨by rfl, ?_⟩) (by assumption) ?_
  · intro wx hSw
    obtain ⟨s0, s1, s2⟩ := hSw
    go_simp
  try simp only [Act.put, List.setIfInBounds_toArray, List.set_cons_zero, List.set_cons_succ]
  refine wpAnyH_take (i := 5) (oi := { dst := some 16, op := Op.fieldAddr 107 (Operand.tmp 15) 6, type := 0, pos := "end.go:159", after := #[{ on := 4, ground := Ground.data }, { on := 2, ground := Ground.guard }], guard := some (2, true) }) (v := (.pointer (some ⟨eb, 124, none⟩))) rfl (by kernel_rfl) (by kernel_rfl) (by kernel_rfl) (fun _ _ _ h => h) (Or.inl ⟨by rfl, ?_⟩) (by assumption) ?_
  · intro wx hSw
    obtain ⟨s0, s1, s2⟩ := hSw
    go_simp
  try simp only [Act.put, List.setIfInBounds_toArray, List.set_cons_zero, List.set_cons_succ]
  refine wpAnyH_take (i := 6) (oi := { dst := some 17, op := Op.load 105 (Operand.tmp 16), type := 105, pos := "end.go:159", after := #[{ on := 5, ground := Ground.data }, { on := 2, ground := Ground.guard }], guard := some (2, true) }) (v := (.slice (some ⟨g, 0, none⟩) n cap)) rfl (by kernel_rfl) (by kernel_rfl) (by kernel_rfl) (fun _ _ _ h => h) (Or.inl ⟨by rfl, ?_⟩) (by assumption) ?_
  · intro wx hSw
    obtain ⟨s0, s1, s2⟩ := hSw
    go_simp
  try simp only [Act.put, List.setIfInBounds_toArray, List.set_cons_zero, List.set_cons_succ]
  refine wpAnyH_take (i := 7) (oi := { dst := some 18, op := Op.move (Operand.tmp 4), type := 3, pos := "end.go:159", after := #[{ on := 2, ground := Ground.guard }], guard := some (2, true) }) (v := (.int .i64 (k : Int))) rfl (by kernel_rfl) (by kernel_rfl) (by kernel_rfl) (fun _ _ _ h => h) (Or.inl ⟨by rfl, ?_⟩) (by assumption) ?_
  · intro wx hSw
    obtain ⟨s0, s1, s2⟩ := hSw
    go_simp
  try simp only [Act.put, List.setIfInBounds_toArray, List.set_cons_zero, List.set_cons_succ]
  refine wpAnyH_take (i := 8) (oi := { dst := some 19, op := Op.indexAddr 105 (Operand.tmp 17) (Operand.tmp 18), type := 0, pos := "end.go:159", after := #[{ on := 6, ground := Ground.data }, { on := 7, ground := Ground.data }, { on := 2, ground := Ground.guard }], guard := some (2, true) }) (v := (.pointer (some ⟨g, k * 62, none⟩))) rfl (by kernel_rfl) (by kernel_rfl) (by kernel_rfl) (fun _ _ _ h => h) (Or.inl ⟨by rfl, ?_⟩) (by assumption) ?_
  · intro wx hSw
    obtain ⟨s0, s1, s2⟩ := hSw
    go_simp
  try simp only [Act.put, List.setIfInBounds_toArray, List.set_cons_zero, List.set_cons_succ]
  refine wpAnyH_take (i := 9) (oi := { dst := some 20, op := Op.fieldAddr 160 (Operand.tmp 19) 1, type := 0, pos := "end.go:159", after := #[{ on := 8, ground := Ground.data }, { on := 2, ground := Ground.guard }], guard := some (2, true) }) (v := (.pointer (some ⟨g, k * 62 + 2, none⟩))) rfl (by kernel_rfl) (by kernel_rfl) (by kernel_rfl) (fun _ _ _ h => h) (Or.inl ⟨by rfl, ?_⟩) (by assumption) ?_
  · intro wx hSw
    obtain ⟨s0, s1, s2⟩ := hSw
    go_simp
  try simp only [Act.put, List.setIfInBounds_toArray, List.set_cons_zero, List.set_cons_succ]
  refine wpAnyH_take (i := 10) (oi := { dst := some 21, op := Op.load 104 (Operand.tmp 20), type := 104, pos := "end.go:159", after := #[{ on := 9, ground := Ground.data }, { on := 2, ground := Ground.guard }], guard := some (2, true) }) (v := .agg (brow f0).toArray) rfl (by kernel_rfl) (by kernel_rfl) (by kernel_rfl) (fun _ _ _ h => h) (yieldsIf_load_mid (by rfl) 104 (.tmp 20) rfl g (k * 62 + 2) rfl (brow f0) (.array 60 4) (fun _ h => h.2.1) hu rfl (by rw [brow_length]; exact size_places)) (by assumption) ?_
  try simp only [Act.put, List.setIfInBounds_toArray, List.set_cons_zero, List.set_cons_succ]
  refine wpAnyH_take (i := 11) (oi := { dst := some 22, op := Op.load 104 (Operand.tmp 3), type := 104, pos := "end.go:159", after := #[{ on := 2, ground := Ground.guard }], guard := some (2, true) }) (v := .agg (brow f).toArray) rfl (by kernel_rfl) (by kernel_rfl) (by kernel_rfl) (fun _ _ _ h => h) (yieldsIf_load_mid (by rfl) 104 (.tmp 3) rfl w.heap.size (0) rfl (brow f) (.array 60 4) (fun _ h => h.2.2) hu rfl (by rw [brow_length]; exact size_places)) (by assumption) ?_
  try simp only [Act.put, List.setIfInBounds_toArray, List.set_cons_zero, List.set_cons_succ]
  refine wpAnyH_take (i := 12) (oi := { dst := some 23, op := Op.binOp BinOp.eql 104 (Operand.tmp 21) (Operand.tmp 22) 104, type := 4, pos := "end.go:159", after := #[{ on := 10, ground := Ground.data }, { on := 11, ground := Ground.data }, { on := 2, ground := Ground.guard }], guard := some (2, true) }) (v := .bool false) rfl (by kernel_rfl) (by kernel_rfl) (by kernel_rfl) (fun _ _ _ h => h) (yields_eql (by rfl) (.tmp 21) (.tmp 22) rfl rfl rfl HEQ.out) (by assumption) ?_
  try simp only [Act.put, List.setIfInBounds_toArray, List.set_cons_zero, List.set_cons_succ]
  refine wpAnyH_take (i := 13) (oi := { dst := some 24, op := Op.pick (Operand.tmp 13) (Operand.tmp 23) (Operand.const (Value.bool false)), type := 4, pos := "end.go:159", after := #[{ on := 2, ground := Ground.data }, { on := 12, ground := Ground.data }], guard := none }) (v := (.bool false)) rfl (by kernel_rfl) (by kernel_rfl) (by kernel_rfl) (fun _ _ _ h => h) (Or.inl ⟨by rfl, ?_⟩) (by assumption) ?_
  · intro wx hSw
    obtain ⟨s0, s1, s2⟩ := hSw
    go_simp
  try simp only [Act.put, List.setIfInBounds_toArray, List.set_cons_zero, List.set_cons_succ]
  refine wpAnyH_done (by kernel_rfl) (NoPanic.normal ?_) _
  clear hHeld
  go_wp2_with fail
  have hXB : Below w.heap.size w (w.alloc (.cells arr 104)).drew := hXd
  have hra : (w.alloc (.cells arr 104)).drew.rangeAt w.heap.size 0 (brow f) := dr1
  generalize (w.alloc (.cells arr 104)).drew = X at hXB hra ⊢
  clear hX0 dr0 dr1 k124 d124 hXd hA HKN
  generalize (some (⟨g, 0, none⟩ : Addr)) = ao at HVL ⊢
  generalize cap = c at HVL ⊢
  have HXB : Hid (Below w.heap.size w X) := hXB
  have c124 := (HXB.out.cell (p := ⟨eb, 124, none⟩) HO.out.lt).trans (HO.out.cl 124 (by omega))
  have c122 := (HXB.out.cell (p := ⟨eb, 122, none⟩) HO.out.lt).trans (HO.out.cl 122 (by omega))
  have f124 : X.frozen? ⟨eb, 124, none⟩ = false := (World.frozen?_of_block (HXB.out.block eb HO.out.lt)).trans (HO.out.fz 124)
  rw [ecell_loads, HVL.out, HLN.out] at c124
  rw [ecell_made, hm] at c122
  have hown := own_below HO.out.ld HXB.out
  rw [HVL.out, HLN.out] at hown
  have HOW : Hid (X.drew.ownsRow B 160 62 (.slice ao n c) n (lds e.ls)) := hown
  have d124 : X.drew.cell? ⟨eb, 124, none⟩ = some (.slice ao n c) := c124
  have d122 : X.drew.cell? ⟨eb, 122, none⟩ = some (.int .i64 m) := c122
  have dra : X.drew.rangeAt w.heap.size 0 (brow f) := hra
  have e124 : X.drew.frozen? ⟨eb, 124, none⟩ = false := f124
  have hbl : eb < X.drew.heap.size := Nat.lt_of_lt_of_le HO.out.lt HXB.out.size
  have hap : some eb ≠ (Value.slice ao n c).ownBlock := by rw [← HLN.out, ← HVL.out]; exact fun e => HO.out.ap.1 e.symm
  have hbL := fun W => build_load (m : Int) f W
  have hbS := fun W => build_loads (m : Int) f W
  have hlen : ((Value.int .i64 (m : Int)) :: .int .i64 (m : Int) :: brow f).length = 1 * 62 := by simp [brow_length]
  have hone : ∀ u ∈ ((Value.int .i64 (m : Int)) :: .int .i64 (m : Int) :: brow f), u.oneCell' = true := fun u hu => by
    rcases List.mem_cons.1 hu with rfl | hu
    · rfl
    rcases List.mem_cons.1 hu with rfl | hu
    · rfl
    obtain ⟨i, _, rfl⟩ := List.mem_map.1 hu
    rfl
  have hi : (Tryz.prog.info? 104).map (·.size) = some (brow f).length := by rw [brow_length]; exact size_places
  have hl60 : (brow f).length = 60 := brow_length f
  have hBX : B ≤ X.drew.heap.size := Nat.le_trans HO.out.le HXB.out.size
  have HBX : Hid (B ≤ X.drew.heap.size) := hBX
  clear c124 c122 hown f124 hra hXB
  generalize hL : (((Value.int .i64 (m : Int)) :: .int .i64 (m : Int) :: brow f)).toArray = L at *
  have HL : Hid ((((Value.int .i64 (m : Int)) :: .int .i64 (m : Int) :: brow f)).toArray = L) := hL
  clear hL
  have HNW : Hid (∀ W : World, ∀ j u, L.toList[j]? = some u → (W.alloc (.cells L 160)).cell? ((⟨W.heap.size, 0, none⟩ : Addr).add j) = some u) := fun W => World.news_of_block (heap_alloc_new W _)
  have hlen2 : L.toList.length = 1 * 62 := by rw [← HL.out]; simpa using hlen
  have hone2 : ∀ u ∈ L.toList, u.oneCell' = true := by rw [← HL.out]; simpa using hone
  have HLO : Hid (L.toList.length = 1 * 62 ∧ ∀ u ∈ L.toList, u.oneCell' = true) := ⟨hlen2, hone2⟩
  have HZS : Hid ((Value.agg (lds1 ⟨0, 0, 0, 0⟩).toArray).cells.size = 62) := by show _ = _; simp [Value.cells, lds1_length]
  have HNB : Hid (some w.heap.size ≠ (Value.slice ao n c).ownBlock) := by
    show _ ≠ _
    rw [← HLN.out, ← HVL.out]
    exact fun e' => by have := (HO.out.ld.lt _ e'.symm).2; omega
  have HEW : Hid (eb ≠ w.heap.size) := by have := HO.out.lt; show _ ≠ _; omega
  have HKP : Hid (∀ (w1 : World) (g cap : Nat), (X.drew.alloc (.cells L 160)).grownBy w1 (Value.slice ao n c).ownBlock → w1.ownsRow B 160 62 (.slice (some ⟨g, 0, none⟩) (n + 1) cap) (n + 1) (lds e.ls ++ L.toList) → ((Value.slice ao n c).ownBlock = some g ∨ g = X.drew.heap.size + 1) → KeepPost w (w1.setCell ⟨eb, 124, none⟩ (.slice (some ⟨g, 0, none⟩) (n + 1) cap)) B eb vl vc e (.slice (some ⟨g, 0, none⟩) (n + 1) cap) (e.ls ++ [⟨m, m, a, b⟩])) := by
    show ∀ w1 g cap, _ → _ → _ → _
    intro w1 g cap h1 h2 h3
    have eL : L.toList = lds1 ⟨m, m, a, b⟩ := by rw [← HL.out, lds1_brow, HF.out]
    rw [eL] at h2
    have ev : Value.slice ao n c = vl := by rw [HVL.out, HLN.out]
    rw [ev] at h1 h3
    have bX : Below w.heap.size w (X.drew.alloc (.cells L 160)) := (HXB.out.drew).alloc HXB.out.size _
    exact KeepPost.grown HO.out bX h1 h2 HLN.out.symm (by rw [World.size_alloc]; exact h3) rfl
  clear hlen hone hlen2 hone2
  refine wp_region_noPanic ?_
  refine wp_region_held_drew (S := fun w' => w'.cell? ⟨eb, 122, none⟩ = some (.int .i64 (m : Int)) ∧ w'.rangeAt w.heap.size 0 (brow f)) (by kernel_rfl) ⟨d122, dra⟩ (fun hHeld => ?_)
  refine wpAnyH_take (i := 0) (oi := { dst := some 37, op := Op.move (Operand.tmp 0), type := 22, pos := "end.go:163", after := #[], guard := none }) (v := (.pointer (some ⟨eb, 0, none⟩))) rfl (by kernel_rfl) (by kernel_rfl) (by kernel_rfl) (fun _ _ _ h => h) (Or.inl ⟨by rfl, ?_⟩) (by assumption) ?_
  · intro wx hSw
    obtain ⟨s0, s1⟩ := hSw
    go_simp
  try simp only [Act.put, List.setIfInBounds_toArray, List.set_cons_zero, List.set_cons_succ]
  refine wpAnyH_take (i := 1) (oi := { dst := some 38, op := Op.move (Operand.tmp 0), type := 22, pos := "end.go:163", after := #[], guard := none }) (v := (.pointer (some ⟨eb, 0, none⟩))) rfl (by kernel_rfl) (by kernel_rfl) (by kernel_rfl) (fun _ _ _ h => h) (Or.inl ⟨by rfl, ?_⟩) (by assumption) ?_
  · intro wx hSw
    obtain ⟨s0, s1⟩ := hSw
    go_simp
  try simp only [Act.put, List.setIfInBounds_toArray, List.set_cons_zero, List.set_cons_succ]
  refine wpAnyH_take (i := 2) (oi := { dst := some 39, op := Op.nilCheck (Operand.tmp 38), type := 0, pos := "end.go:163", after := #[{ on := 1, ground := Ground.data }], guard := none }) (v := (.pointer (some ⟨eb, 0, none⟩))) rfl (by kernel_rfl) (by kernel_rfl) (by kernel_rfl) (fun _ _ _ h => h) (Or.inl ⟨by rfl, ?_⟩) (by assumption) ?_
  · intro wx hSw
    obtain ⟨s0, s1⟩ := hSw
    go_simp
  try simp only [Act.put, List.setIfInBounds_toArray, List.set_cons_zero, List.set_cons_succ]
  refine wpAnyH_take (i := 3) (oi := { dst := some 40, op := Op.fieldAddr 107 (Operand.tmp 39) 6, type := 0, pos := "end.go:163", after := #[{ on := 2, ground := Ground.data }], guard := none }) (v := (.pointer (some ⟨eb, 124, none⟩))) rfl (by kernel_rfl) (by kernel_rfl) (by kernel_rfl) (fun _ _ _ h => h) (Or.inl ⟨by rfl, ?_⟩) (by assumption) ?_
  · intro wx hSw
    obtain ⟨s0, s1⟩ := hSw
    go_simp
  try simp only [Act.put, List.setIfInBounds_toArray, List.set_cons_zero, List.set_cons_succ]
  refine wpAnyH_take (i := 5) (oi := { dst := some 42, op := Op.move (Operand.tmp 0), type := 22, pos := "end.go:163", after := #[], guard := none }) (v := (.pointer (some ⟨eb, 0, none⟩))) rfl (by kernel_rfl) (by kernel_rfl) (by kernel_rfl) (fun _ _ _ h => h) (Or.inl ⟨by rfl, ?_⟩) (by assumption) ?_
  · intro wx hSw
    obtain ⟨s0, s1⟩ := hSw
    go_simp
  try simp only [Act.put, List.setIfInBounds_toArray, List.set_cons_zero, List.set_cons_succ]
  refine wpAnyH_take (i := 6) (oi := { dst := some 43, op := Op.nilCheck (Operand.tmp 42), type := 0, pos := "end.go:163", after := #[{ on := 5, ground := Ground.data }], guard := none }) (v := (.pointer (some ⟨eb, 0, none⟩))) rfl (by kernel_rfl) (by kernel_rfl) (by kernel_rfl) (fun _ _ _ h => h) (Or.inl ⟨by rfl, ?_⟩) (by assumption) ?_
  · intro wx hSw
    obtain ⟨s0, s1⟩ := hSw
    go_simp
  try simp only [Act.put, List.setIfInBounds_toArray, List.set_cons_zero, List.set_cons_succ]
  refine wpAnyH_take (i := 7) (oi := { dst := some 44, op := Op.fieldAddr 107 (Operand.tmp 43) 4, type := 0, pos := "end.go:163", after := #[{ on := 6, ground := Ground.data }], guard := none }) (v := (.pointer (some ⟨eb, 122, none⟩))) rfl (by kernel_rfl) (by kernel_rfl) (by kernel_rfl) (fun _ _ _ h => h) (Or.inl ⟨by rfl, ?_⟩) (by assumption) ?_
  · intro wx hSw
    obtain ⟨s0, s1⟩ := hSw
    go_simp
  try simp only [Act.put, List.setIfInBounds_toArray, List.set_cons_zero, List.set_cons_succ]
  refine wpAnyH_take (i := 8) (oi := { dst := some 45, op := Op.load 3 (Operand.tmp 44), type := 3, pos := "end.go:163", after := #[{ on := 7, ground := Ground.data }], guard := none }) (v := (.int .i64 (m : Int))) rfl (by kernel_rfl) (by kernel_rfl) (by kernel_rfl) (fun _ _ _ h => h) (Or.inl ⟨by rfl, ?_⟩) (by assumption) ?_
  · intro wx hSw
    obtain ⟨s0, s1⟩ := hSw
    go_simp
  try simp only [Act.put, List.setIfInBounds_toArray, List.set_cons_zero, List.set_cons_succ]
  refine wpAnyH_take (i := 9) (oi := { dst := some 46, op := Op.move (Operand.tmp 0), type := 22, pos := "end.go:163", after := #[], guard := none }) (v := (.pointer (some ⟨eb, 0, none⟩))) rfl (by kernel_rfl) (by kernel_rfl) (by kernel_rfl) (fun _ _ _ h => h) (Or.inl ⟨by rfl, ?_⟩) (by assumption) ?_
  · intro wx hSw
    obtain ⟨s0, s1⟩ := hSw
    go_simp
  try simp only [Act.put, List.setIfInBounds_toArray, List.set_cons_zero, List.set_cons_succ]
  refine wpAnyH_take (i := 10) (oi := { dst := some 47, op := Op.nilCheck (Operand.tmp 46), type := 0, pos := "end.go:163", after := #[{ on := 9, ground := Ground.data }], guard := none }) (v := (.pointer (some ⟨eb, 0, none⟩))) rfl (by kernel_rfl) (by kernel_rfl) (by kernel_rfl) (fun _ _ _ h => h) (Or.inl ⟨by rfl, ?_⟩) (by assumption) ?_
  · intro wx hSw
    obtain ⟨s0, s1⟩ := hSw
    go_simp
  try simp only [Act.put, List.setIfInBounds_toArray, List.set_cons_zero, List.set_cons_succ]
  refine wpAnyH_take (i := 11) (oi := { dst := some 48, op := Op.fieldAddr 107 (Operand.tmp 47) 4, type := 0, pos := "end.go:163", after := #[{ on := 10, ground := Ground.data }], guard := none }) (v := (.pointer (some ⟨eb, 122, none⟩))) rfl (by kernel_rfl) (by kernel_rfl) (by kernel_rfl) (fun _ _ _ h => h) (Or.inl ⟨by rfl, ?_⟩) (by assumption) ?_
  · intro wx hSw
    obtain ⟨s0, s1⟩ := hSw
    go_simp
  try simp only [Act.put, List.setIfInBounds_toArray, List.set_cons_zero, List.set_cons_succ]
  refine wpAnyH_take (i := 12) (oi := { dst := some 49, op := Op.load 3 (Operand.tmp 48), type := 3, pos := "end.go:163", after := #[{ on := 11, ground := Ground.data }], guard := none }) (v := (.int .i64 (m : Int))) rfl (by kernel_rfl) (by kernel_rfl) (by kernel_rfl) (fun _ _ _ h => h) (Or.inl ⟨by rfl, ?_⟩) (by assumption) ?_
  · intro wx hSw
    obtain ⟨s0, s1⟩ := hSw
    go_simp
  try simp only [Act.put, List.setIfInBounds_toArray, List.set_cons_zero, List.set_cons_succ]
  refine wpAnyH_take (i := 13) (oi := { dst := some 50, op := Op.build 82 #[(0, Operand.tmp 45), (1, Operand.tmp 49)], type := 82, pos := "end.go:163", after := #[{ on := 8, ground := Ground.data }, { on := 12, ground := Ground.data }], guard := none }) (v := (.agg #[.int .i64 (m : Int), .int .i64 (m : Int)])) rfl (by kernel_rfl) (by kernel_rfl) (by kernel_rfl) (fun _ _ _ h => h) (Or.inl ⟨by rfl, ?_⟩) (by assumption) ?_
  · intro wx hSw
    obtain ⟨s0, s1⟩ := hSw
    go_simp
  try simp only [Act.put, List.setIfInBounds_toArray, List.set_cons_zero, List.set_cons_succ]
  refine wpAnyH_take (i := 14) (oi := { dst := some 51, op := Op.load 104 (Operand.tmp 3), type := 104, pos := "end.go:163", after := #[], guard := none }) (v := .agg (brow f).toArray) rfl (by kernel_rfl) (by kernel_rfl) (by kernel_rfl) (fun _ _ _ h => h) (yieldsIf_load_mid (by rfl) 104 (.tmp 3) rfl w.heap.size 0 rfl (brow f) (.array 60 4) (fun _ h => h.2) hu rfl hi) (by assumption) ?_
  try simp only [Act.put, List.setIfInBounds_toArray, List.set_cons_zero, List.set_cons_succ]
  refine wpAnyH_take (i := 15) (oi := { dst := some 52, op := Op.build 160 #[(0, Operand.tmp 50), (1, Operand.tmp 51)], type := 160, pos := "end.go:163", after := #[{ on := 13, ground := Ground.data }, { on := 14, ground := Ground.data }], guard := none }) (v := .agg L) rfl (by kernel_rfl) (by kernel_rfl) (by kernel_rfl) (fun _ _ _ h => h) (yields_load (m := (m : Int)) (f := f) (by rfl) (.tmp 50) (.tmp 51) rfl rfl rfl hbL) (by assumption) ?_
  try simp only [Act.put, List.setIfInBounds_toArray, List.set_cons_zero, List.set_cons_succ]
  have a124 : (X.drew.alloc (.cells L 160)).cell? ⟨eb, 124, none⟩ = some (.slice ao n c) := (World.cell?_alloc_lt _ _ _ hbl).trans d124
  have b124 : (X.alloc (.cells L 160)).cell? ⟨eb, 124, none⟩ = some (.slice ao n c) := a124
  have hbl2 : eb < (X.drew.alloc (.cells L 160)).heap.size := by rw [World.size_alloc]; omega
  refine wpAnyH_ready (rs := [4, 16]) (by kernel_rfl) (by simp) ?_
  refine AllReadyH.cons (o := { dst := some 41, op := Op.load 105 (Operand.tmp 40), type := 105, pos := "end.go:163", after := #[{ on := 3, ground := Ground.data }], guard := none }) rfl (fun K hK => ?_) (AllReadyH.cons (o := { dst := some 53, op := Op.buildSlice 105 1 #[(0, Operand.tmp 52)], type := 105, pos := "end.go:163", after := #[{ on := 15, ground := Ground.data }], guard := none }) rfl (fun K hK => ?_) AllReadyH.nil)
  · clear a124 b124
    go_simp
    refine hK.out _ _ hHeld (fun hHeld => ?_)
    clear hK K
    try simp only [Act.put, List.setIfInBounds_toArray, List.set_cons_zero, List.set_cons_succ]
    refine wpAnyH_ready (rs := [16]) (by kernel_rfl) (by simp) ?_
    refine AllReadyH.cons (o := { dst := some 53, op := Op.buildSlice 105 1 #[(0, Operand.tmp 52)], type := 105, pos := "end.go:163", after := #[{ on := 15, ground := Ground.data }], guard := none }) rfl (fun K hK => ?_) AllReadyH.nil
    refine step_loads rfl (.tmp 52) rfl (by rfl) hbS ?_
    refine hK.out _ _ ⟨(World.cell?_alloc_lt _ _ _ hbl).trans hHeld.1, World.rangeAt_alloc hHeld.2 _⟩ (fun hHeld => ?_)
    clear hK K
    try simp only [Act.put, List.setIfInBounds_toArray, List.set_cons_zero, List.set_cons_succ]
    refine wpAnyH_ready (rs := [17]) (by kernel_rfl) (by simp) ?_
    refine AllReadyH.cons (o := { dst := some 54, op := Op.call { callee := Callee.builtin Builtin.append, args := #[Operand.tmp 41, Operand.tmp 53], argTypes := #[105, 105] }, type := 105, pos := "end.go:163", after := #[{ on := 4, ground := Ground.data }, { on := 16, ground := Ground.data }], guard := none }) rfl (fun K hK => ?_) AllReadyH.nil
    refine step_append_lies _ (by rfl) (.tmp 41) (.tmp 53) 105 (by rfl) B 160 i0 _ 62 80 Tryz.underlying105 hi0 hz0 hz1 hz2 HZS.out (by decide) (.slice ao n c) n (lds e.ls) (by rfl) (HOW.out.alloc _) ⟨X.drew.heap.size, 0, none⟩ 1 1 L.toList (by rfl) HLO.out.1 (HNW.out _) HLO.out.2 (by decide) (by have := HNL.out; unfold maxLen; omega) (by have := HNL.out; omega) (by rw [World.size_alloc]; have := HBX.out; omega) (X.drew.heap.size + 1) (by rw [World.size_alloc]) ?_
    intro g cap w1 hown1 hgrow hat hlt
    have g124 : w1.cell? ⟨eb, 124, none⟩ = some (.slice ao n c) := (hgrow.cell_far ⟨eb, 124, none⟩ hbl2 hap).trans ((World.cell?_alloc_lt _ _ _ hbl).trans d124)
    have gf : w1.frozen? ⟨eb, 124, none⟩ = false := (hgrow.frozen_far ⟨eb, 124, none⟩ hbl2 hap).trans ((World.frozen?_alloc_past _ _ _ hbl).trans e124)
    have S1 : w1.cell? ⟨eb, 122, none⟩ = some (.int .i64 (m : Int)) := (hgrow.cell_far ⟨eb, 122, none⟩ hbl2 hap).trans hHeld.1
    have S2 : w1.rangeAt w.heap.size 0 (brow f) := fun j v hv => by
      have hh := hHeld.2 j v hv
      exact (hgrow.cell_far ⟨w.heap.size, 0 + j, none⟩ (World.block_lt_of_cell? _ _ hh) HNB.out).trans hh
    refine hK.out _ _ ⟨S1, S2⟩ (fun hHeld => ?_)
    clear hK K
    try simp only [Act.put, List.setIfInBounds_toArray, List.set_cons_zero, List.set_cons_succ]
    refine wpAnyH_take (i := 18) (oi := { dst := some 55, op := Op.nilCheck (Operand.tmp 37), type := 0, pos := "end.go:163", after := #[{ on := 0, ground := Ground.data }, { on := 0, ground := Ground.phase }, { on := 1, ground := Ground.phase }, { on := 2, ground := Ground.phase }, { on := 3, ground := Ground.phase }, { on := 4, ground := Ground.phase }, { on := 5, ground := Ground.phase }, { on := 6, ground := Ground.phase }, { on := 7, ground := Ground.phase }, { on := 8, ground := Ground.phase }, { on := 9, ground := Ground.phase }, { on := 10, ground := Ground.phase }, { on := 11, ground := Ground.phase }, { on := 12, ground := Ground.phase }, { on := 13, ground := Ground.phase }, { on := 14, ground := Ground.phase }, { on := 15, ground := Ground.phase }, { on := 16, ground := Ground.phase }, { on := 17, ground := Ground.phase }], guard := none }) (v := (.pointer (some ⟨eb, 0, none⟩))) rfl (by kernel_rfl) (by kernel_rfl) (by kernel_rfl) (fun _ _ _ h => h) (Or.inl ⟨by rfl, ?_⟩) (by assumption) ?_
    · intro wx hSw
      obtain ⟨s0, s1⟩ := hSw
      go_simp
    try simp only [Act.put, List.setIfInBounds_toArray, List.set_cons_zero, List.set_cons_succ]
    refine wpAnyH_take (i := 19) (oi := { dst := some 56, op := Op.fieldAddr 107 (Operand.tmp 55) 6, type := 0, pos := "end.go:163", after := #[{ on := 18, ground := Ground.data }, { on := 0, ground := Ground.phase }, { on := 1, ground := Ground.phase }, { on := 2, ground := Ground.phase }, { on := 3, ground := Ground.phase }, { on := 4, ground := Ground.phase }, { on := 5, ground := Ground.phase }, { on := 6, ground := Ground.phase }, { on := 7, ground := Ground.phase }, { on := 8, ground := Ground.phase }, { on := 9, ground := Ground.phase }, { on := 10, ground := Ground.phase }, { on := 11, ground := Ground.phase }, { on := 12, ground := Ground.phase }, { on := 13, ground := Ground.phase }, { on := 14, ground := Ground.phase }, { on := 15, ground := Ground.phase }, { on := 16, ground := Ground.phase }, { on := 17, ground := Ground.phase }], guard := none }) (v := (.pointer (some ⟨eb, 124, none⟩))) rfl (by kernel_rfl) (by kernel_rfl) (by kernel_rfl) (fun _ _ _ h => h) (Or.inl ⟨by rfl, ?_⟩) (by assumption) ?_
    · intro wx hSw
      obtain ⟨s0, s1⟩ := hSw
      go_simp
    try simp only [Act.put, List.setIfInBounds_toArray, List.set_cons_zero, List.set_cons_succ]
    refine wpAnyH_ready (rs := [20]) (by kernel_rfl) (by simp) ?_
    refine AllReadyH.cons (o := { dst := none, op := Op.store 105 (Operand.tmp 56) (Operand.tmp 54), type := 0, pos := "end.go:163", after := #[{ on := 19, ground := Ground.data }, { on := 17, ground := Ground.data }, { on := 17, ground := Ground.chain }, { on := 0, ground := Ground.phase }, { on := 1, ground := Ground.phase }, { on := 2, ground := Ground.phase }, { on := 3, ground := Ground.phase }, { on := 4, ground := Ground.phase }, { on := 5, ground := Ground.phase }, { on := 6, ground := Ground.phase }, { on := 7, ground := Ground.phase }, { on := 8, ground := Ground.phase }, { on := 9, ground := Ground.phase }, { on := 10, ground := Ground.phase }, { on := 11, ground := Ground.phase }, { on := 12, ground := Ground.phase }, { on := 13, ground := Ground.phase }, { on := 14, ground := Ground.phase }, { on := 15, ground := Ground.phase }, { on := 16, ground := Ground.phase }, { on := 17, ground := Ground.phase }], guard := none }) rfl (fun K hK => ?_) AllReadyH.nil
    go_simp
    refine hK.out _ _ ⟨(World.cell?_setCell_other _ _ _ _ (fun e' => by injection e' with _ e' _; cases e')).trans S1, fun j v hv => (World.cell?_setCell_other _ _ _ _ (fun e' => by injection e' with e' _ _; exact HEW.out e')).trans (S2 j v hv)⟩ (fun hHeld => ?_)
    clear hK K
    refine wpAnyH_done (by kernel_rfl) (NoPanic.normal ?_) _
    go_wp2_with fail
    refine Go.Great.bodyPost_end0 rfl rfl ⟨rfl, _, HKP.out w1 g cap hgrow hown1 hat⟩
  · refine step_loads rfl (.tmp 52) rfl (by rfl) hbS ?_
    refine hK.out _ _ ⟨(World.cell?_alloc_lt _ _ _ hbl).trans hHeld.1, World.rangeAt_alloc hHeld.2 _⟩ (fun hHeld => ?_)
    clear hK K
    try simp only [Act.put, List.setIfInBounds_toArray, List.set_cons_zero, List.set_cons_succ]
    refine wpAnyH_ready (rs := [4]) (by kernel_rfl) (by simp) ?_
    refine AllReadyH.cons (o := { dst := some 41, op := Op.load 105 (Operand.tmp 40), type := 105, pos := "end.go:163", after := #[{ on := 3, ground := Ground.data }], guard := none }) rfl (fun K hK => ?_) AllReadyH.nil
    go_simp
    refine hK.out _ (X.drew.alloc (.cells L 160)) hHeld (fun hHeld => ?_)
    clear hK K
    try simp only [Act.put, List.setIfInBounds_toArray, List.set_cons_zero, List.set_cons_succ]
    refine wpAnyH_ready (rs := [17]) (by kernel_rfl) (by simp) ?_
    refine AllReadyH.cons (o := { dst := some 54, op := Op.call { callee := Callee.builtin Builtin.append, args := #[Operand.tmp 41, Operand.tmp 53], argTypes := #[105, 105] }, type := 105, pos := "end.go:163", after := #[{ on := 4, ground := Ground.data }, { on := 16, ground := Ground.data }], guard := none }) rfl (fun K hK => ?_) AllReadyH.nil
    refine step_append_lies _ (by rfl) (.tmp 41) (.tmp 53) 105 (by rfl) B 160 i0 _ 62 80 Tryz.underlying105 hi0 hz0 hz1 hz2 HZS.out (by decide) (.slice ao n c) n (lds e.ls) (by rfl) (HOW.out.alloc _) ⟨X.drew.heap.size, 0, none⟩ 1 1 L.toList (by rfl) HLO.out.1 (HNW.out _) HLO.out.2 (by decide) (by have := HNL.out; unfold maxLen; omega) (by have := HNL.out; omega) (by rw [World.size_alloc]; have := HBX.out; omega) (X.drew.heap.size + 1) (by rw [World.size_alloc]) ?_
    intro g cap w1 hown1 hgrow hat hlt
    have g124 : w1.cell? ⟨eb, 124, none⟩ = some (.slice ao n c) := (hgrow.cell_far ⟨eb, 124, none⟩ hbl2 hap).trans ((World.cell?_alloc_lt _ _ _ hbl).trans d124)
    have gf : w1.frozen? ⟨eb, 124, none⟩ = false := (hgrow.frozen_far ⟨eb, 124, none⟩ hbl2 hap).trans ((World.frozen?_alloc_past _ _ _ hbl).trans e124)
    have S1 : w1.cell? ⟨eb, 122, none⟩ = some (.int .i64 (m : Int)) := (hgrow.cell_far ⟨eb, 122, none⟩ hbl2 hap).trans hHeld.1
    have S2 : w1.rangeAt w.heap.size 0 (brow f) := fun j v hv => by
      have hh := hHeld.2 j v hv
      exact (hgrow.cell_far ⟨w.heap.size, 0 + j, none⟩ (World.block_lt_of_cell? _ _ hh) HNB.out).trans hh
    refine hK.out _ _ ⟨S1, S2⟩ (fun hHeld => ?_)
    clear hK K
    try simp only [Act.put, List.setIfInBounds_toArray, List.set_cons_zero, List.set_cons_succ]
    refine wpAnyH_take (i := 18) (oi := { dst := some 55, op := Op.nilCheck (Operand.tmp 37), type := 0, pos := "end.go:163", after := #[{ on := 0, ground := Ground.data }, { on := 0, ground := Ground.phase }, { on := 1, ground := Ground.phase }, { on := 2, ground := Ground.phase }, { on := 3, ground := Ground.phase }, { on := 4, ground := Ground.phase }, { on := 5, ground := Ground.phase }, { on := 6, ground := Ground.phase }, { on := 7, ground := Ground.phase }, { on := 8, ground := Ground.phase }, { on := 9, ground := Ground.phase }, { on := 10, ground := Ground.phase }, { on := 11, ground := Ground.phase }, { on := 12, ground := Ground.phase }, { on := 13, ground := Ground.phase }, { on := 14, ground := Ground.phase }, { on := 15, ground := Ground.phase }, { on := 16, ground := Ground.phase }, { on := 17, ground := Ground.phase }], guard := none }) (v := (.pointer (some ⟨eb, 0, none⟩))) rfl (by kernel_rfl) (by kernel_rfl) (by kernel_rfl) (fun _ _ _ h => h) (Or.inl ⟨by rfl, ?_⟩) (by assumption) ?_
    · intro wx hSw
      obtain ⟨s0, s1⟩ := hSw
      go_simp
    try simp only [Act.put, List.setIfInBounds_toArray, List.set_cons_zero, List.set_cons_succ]
    refine wpAnyH_take (i := 19) (oi := { dst := some 56, op := Op.fieldAddr 107 (Operand.tmp 55) 6, type := 0, pos := "end.go:163", after := #[{ on := 18, ground := Ground.data }, { on := 0, ground := Ground.phase }, { on := 1, ground := Ground.phase }, { on := 2, ground := Ground.phase }, { on := 3, ground := Ground.phase }, { on := 4, ground := Ground.phase }, { on := 5, ground := Ground.phase }, { on := 6, ground := Ground.phase }, { on := 7, ground := Ground.phase }, { on := 8, ground := Ground.phase }, { on := 9, ground := Ground.phase }, { on := 10, ground := Ground.phase }, { on := 11, ground := Ground.phase }, { on := 12, ground := Ground.phase }, { on := 13, ground := Ground.phase }, { on := 14, ground := Ground.phase }, { on := 15, ground := Ground.phase }, { on := 16, ground := Ground.phase }, { on := 17, ground := Ground.phase }], guard := none }) (v := (.pointer (some ⟨eb, 124, none⟩))) rfl (by kernel_rfl) (by kernel_rfl) (by kernel_rfl) (fun _ _ _ h => h) (Or.inl ⟨by rfl, ?_⟩) (by assumption) ?_
    · intro wx hSw
      obtain ⟨s0, s1⟩ := hSw
      go_simp
    try simp only [Act.put, List.setIfInBounds_toArray, List.set_cons_zero, List.set_cons_succ]
    refine wpAnyH_ready (rs := [20]) (by kernel_rfl) (by simp) ?_
    refine AllReadyH.cons (o := { dst := none, op := Op.store 105 (Operand.tmp 56) (Operand.tmp 54), type := 0, pos := "end.go:163", after := #[{ on := 19, ground := Ground.data }, { on := 17, ground := Ground.data }, { on := 17, ground := Ground.chain }, { on := 0, ground := Ground.phase }, { on := 1, ground := Ground.phase }, { on := 2, ground := Ground.phase }, { on := 3, ground := Ground.phase }, { on := 4, ground := Ground.phase }, { on := 5, ground := Ground.phase }, { on := 6, ground := Ground.phase }, { on := 7, ground := Ground.phase }, { on := 8, ground := Ground.phase }, { on := 9, ground := Ground.phase }, { on := 10, ground := Ground.phase }, { on := 11, ground := Ground.phase }, { on := 12, ground := Ground.phase }, { on := 13, ground := Ground.phase }, { on := 14, ground := Ground.phase }, { on := 15, ground := Ground.phase }, { on := 16, ground := Ground.phase }, { on := 17, ground := Ground.phase }], guard := none }) rfl (fun K hK => ?_) AllReadyH.nil
    go_simp
    refine hK.out _ _ ⟨(World.cell?_setCell_other _ _ _ _ (fun e' => by injection e' with _ e' _; cases e')).trans S1, fun j v hv => (World.cell?_setCell_other _ _ _ _ (fun e' => by injection e' with e' _ _; exact HEW.out e')).trans (S2 j v hv)⟩ (fun hHeld => ?_)
    clear hK K
    refine wpAnyH_done (by kernel_rfl) (NoPanic.normal ?_) _
    go_wp2_with fail
    refine Go.Great.bodyPost_end0 rfl rfl ⟨rfl, _, HKP.out w1 g cap hgrow hown1 hat⟩

theorem keepOK_all {e : En} (hi : EInv e) : KeepOK e := fun w B eb vl vc h => by
  have hp := pk_ok hi
  have h60 := hi.en60
  have hl : e.ls.length ≤ 1073741824 := by have := hi.ll; have := hi.m1; omega
  by_cases h0 : e.ls = []
  · exact keepOK_nil h0 w B eb vl vc h
  · obtain ⟨front, y, hls⟩ : ∃ front y, e.ls = front ++ [y] := ⟨e.ls.dropLast, e.ls.getLast h0, (List.dropLast_concat_getLast h0).symm⟩
    by_cases hs : y.a = (pk e).1 ∧ y.b = (pk e).2
    · have := keep_same h (m := e.m) rfl hl hls hp.1 (by omega) hs
      rw [hls, keepL_same hs.1 hs.2]
      exact this
    · have := keep_new h (m := e.m) rfl hl hls hp.1 (by omega) hs
      rw [hls, keepL_new hs]
      rw [hls] at this
      exact this
end Go.Proofs.YtoabfilliiopmaaGreatDoor
