/- What the laws of package run need. -/
import Derived.Test.YtdokgalidhmbbaaGreatDoorHUB
set_option linter.unusedVariables false
set_option linter.unusedSimpArgs false
set_option maxRecDepth 100000
set_option maxHeartbeats 8000000
namespace Go.Proofs.YtdokgalidhmbbaaGreatDoor
open Go.RowKit Go.Lib Go.Sort


def zeroE : En := ⟨nilB, 0, 0, 0, 0, [], Sx.newS, ⟨0, 0, 0, 0⟩, []⟩
def nilV : Tv := ⟨(.slice none 0 0), (.slice none 0 0), (.slice none 0 0), (.slice none 0 0), (.slice none 0 0)⟩
/-- Of a Talk that is being made the first k Ends. -/
def newK (n : Int) (k : Nat) : Tt := ⟨if 0 < k then newE n else zeroE, if 1 < k then newE n else zeroE, []⟩
theorem zero_talk : Tryz.zeroCells107.setIfInBounds 502 (.slice none 0 0) = (row 503 (tcel ⟨zeroE, zeroE, []⟩ nilV)).toArray := by kernel_rfl
theorem twp_row_load {op : Oper} {a : Act} {w : World} {K : Act → World → Prop} {Q : Exit → Act → World → Prop} {n : Nat} {f : Nat → Value} {ty : TypeId} (x : Operand) (ho : op.op = .load ty x) (b o : Nat) (hx : a.eval x = .pointer (some ⟨b, o, none⟩)) (hc : w.rangeAt b o (row n f)) (hu : (Tryz.prog.underlying ty).map (·.isRow) = some true) (hi : (Tryz.prog.info? ty).map (·.size) = some n) (h : K (a.put op.dst (.agg (row n f).toArray)) w) : op.wp Tryz.prog a w K Q := by
  obtain ⟨d, h1, h2, h3⟩ := desc_row ty n hu hi f
  exact wp_load_mid ty x ho b o hx (row n f) d hc h1 h2 h3 h
theorem twp_row_store {op : Oper} {a : Act} {w W : World} {K : Act → World → Prop} {Q : Exit → Act → World → Prop} {n : Nat} {f : Nat → Value} {ty : TypeId} (x y : Operand) (ho : op.op = .store ty x y) (b o : Nat) (hx : a.eval x = .pointer (some ⟨b, o, none⟩)) (hy : a.eval y = .agg (row n f).toArray) (ht : w.there b o n) (hi : (Tryz.prog.info? ty).map (·.size) = some n) (h1 : ∀ i, (f i).oneCell' = true) (hW : Hid (W = w.setCells b o (row n f))) (h : K (a.put op.dst undef) W) : op.wp Tryz.prog a w K Q :=
  wp_store_mid ty x y ho b o (row n f).toArray hx hy (by simpa [row_length] using ht) (by simpa [row_length] using hi) (row_one fun i _ => h1 i) (by
    have e : w.setCells b o (row n f).toArray.toList = W := by rw [hW.out]
    rw [e]; exact h)
theorem below_setCells {B b : Nat} (hb : B ≤ b) {w : World} : ∀ (vs : List Value) (o : Nat) (w' : World), Below B w w' → Below B w (w'.setCells b o vs)
  | [], _, _, h => h
  | v :: vs, o, w', h => below_setCells hb vs (o + 1) (w'.setCell ⟨b, o, none⟩ v) (h.setCell (p := ⟨b, o, none⟩) hb v)
/-- A Talk that is being made: k of its Ends are there. -/
structure TNew (w : World) (B tb : Nat) (n : Int) (k : Nat) : Prop where
  cl : ∀ i, i < 503 → w.cell? ⟨tb, i, none⟩ = some (tcel (newK n k) nilV i)
  fz : ∀ i, w.frozen? ⟨tb, i, none⟩ = false
  hs : B ≤ tb
theorem TNew.lt {w : World} {B tb : Nat} {n : Int} {k : Nat} (h : TNew w B tb n k) : tb < w.heap.size := World.block_lt_of_cell? w _ (h.cl 60 (by omega))
theorem TNew.all {w : World} {B tb : Nat} {n : Int} (hn : Cx.winB n = true) (h : TNew w B tb n 2) : TO w B tb nilV (newT n) :=
  ⟨EInv.new hn, EInv.new hn, Lk.Inv.start, h.cl, h.fz, h.hs, World.ownsRow_nil _ _ _ _, World.ownsRow_nil _ _ _ _, World.ownsRow_nil _ _ _ _, World.ownsRow_nil _ _ _ _, World.ownsRow_nil _ _ _ _, by simp [nilV, Value.ownBlock], fun k hk => by simp [nilV, Value.ownBlock], fun k hk => by simp [nilV, Value.ownBlock]⟩
theorem TNew.start (w : World) {B : Nat} (hB : B ≤ w.heap.size) (n : Int) : TNew (w.alloc (.cells (row 503 (tcel ⟨zeroE, zeroE, []⟩ nilV)).toArray 107)) B w.heap.size n 0 :=
  ⟨fun i hi => by simp [row, hi]; rfl, fun i => by simp, hB⟩

theorem TNew.step0 {w wr w1 : World} {tb eb : Nat} {n : Int} (h : TNew wr w.heap.size tb n 0) (hb : Below w.heap.size w wr) (ho : EO w1 wr.heap.size eb (.slice none 0 0) (.slice none 0 0) (newE n)) (hb1 : Below wr.heap.size wr w1) :
    ∃ W, Hid (W = w1.drew.setCells tb 0 (row 251 (ecell (newE n) (.slice none 0 0) (.slice none 0 0)))) ∧ w1.drew.there tb 0 251 ∧ w1.drew.rangeAt eb 0 (row 251 (ecell (newE n) (.slice none 0 0) (.slice none 0 0))) ∧ W.rangeAt eb 0 (row 251 (ecell (newE n) (.slice none 0 0) (.slice none 0 0))) ∧ TNew W w.heap.size tb n 1 ∧ Hid (Below w.heap.size w W) := by
  have h1 : ∀ i, i < 503 → w1.drew.cell? ⟨tb, i, none⟩ = some (tcel (newK n 0) nilV i) := fun i hi => (hb1.cell (p := ⟨tb, i, none⟩) h.lt).trans (h.cl i hi)
  have f1 : ∀ i, w1.drew.frozen? ⟨tb, i, none⟩ = false := fun i => (World.frozen?_of_block (hb1.block tb h.lt)).trans (h.fz i)
  have hne : eb ≠ tb := by have := ho.hs; have := h.lt; omega
  have hth : w1.drew.there tb 0 251 := fun j hj => ⟨by rw [h1 _ (by omega)]; rfl, f1 _⟩
  have hrd : w1.drew.rangeAt eb 0 (row 251 (ecell (newE n) (.slice none 0 0) (.slice none 0 0))) := row_range fun i hi => by rw [Nat.zero_add]; exact ho.cl i hi
  have hBw : Below w.heap.size w w1.drew := (hb.trans (hb1.mono hb.size)).drew
  have hBW : Below w.heap.size w (w1.drew.setCells tb 0 (row 251 (ecell (newE n) (.slice none 0 0) (.slice none 0 0)))) := below_setCells (by exact h.hs) _ _ _ hBw
  refine ⟨_, rfl, hth, hrd, World.rangeAt_setCells_apart hrd _ _ _ (.inl hne), ⟨fun i hi => ?_, fun i => by rw [World.frozen?_setCells]; exact f1 i, h.hs⟩, hBW⟩
  by_cases g : 0 ≤ i ∧ i < 251
  · obtain ⟨j, hj⟩ : ∃ j, i = 0 + j := ⟨i - 0, by omega⟩
    have := cell_row (World.rangeAt_setCells_same w1.drew tb 0 (row 251 (ecell (newE n) (.slice none 0 0) (.slice none 0 0))) (by rw [row_length]; exact hth)) (i := j) (by omega)
    rw [hj, this]
    refine congrArg some ?_
    rw [Nat.zero_add, tcel_a (by omega)]; rfl
  · rw [World.cell?_setCells_out tb _ 0 _ _ (fun _ _ => by rw [row_length]; show i < 0 ∨ 0 + 251 ≤ i; omega), h1 i hi]
    refine congrArg some ?_
    unfold tcel
    simp only [if_neg (show ¬ i < 251 by omega)]; rfl

theorem TNew.step1 {w wr w1 : World} {tb eb : Nat} {n : Int} (h : TNew wr w.heap.size tb n 1) (hb : Below w.heap.size w wr) (ho : EO w1 wr.heap.size eb (.slice none 0 0) (.slice none 0 0) (newE n)) (hb1 : Below wr.heap.size wr w1) :
    ∃ W, Hid (W = w1.drew.setCells tb 251 (row 251 (ecell (newE n) (.slice none 0 0) (.slice none 0 0)))) ∧ w1.drew.there tb 251 251 ∧ w1.drew.rangeAt eb 0 (row 251 (ecell (newE n) (.slice none 0 0) (.slice none 0 0))) ∧ W.rangeAt eb 0 (row 251 (ecell (newE n) (.slice none 0 0) (.slice none 0 0))) ∧ TNew W w.heap.size tb n 2 ∧ Hid (Below w.heap.size w W) := by
  have h1 : ∀ i, i < 503 → w1.drew.cell? ⟨tb, i, none⟩ = some (tcel (newK n 1) nilV i) := fun i hi => (hb1.cell (p := ⟨tb, i, none⟩) h.lt).trans (h.cl i hi)
  have f1 : ∀ i, w1.drew.frozen? ⟨tb, i, none⟩ = false := fun i => (World.frozen?_of_block (hb1.block tb h.lt)).trans (h.fz i)
  have hne : eb ≠ tb := by have := ho.hs; have := h.lt; omega
  have hth : w1.drew.there tb 251 251 := fun j hj => ⟨by rw [h1 _ (by omega)]; rfl, f1 _⟩
  have hrd : w1.drew.rangeAt eb 0 (row 251 (ecell (newE n) (.slice none 0 0) (.slice none 0 0))) := row_range fun i hi => by rw [Nat.zero_add]; exact ho.cl i hi
  have hBw : Below w.heap.size w w1.drew := (hb.trans (hb1.mono hb.size)).drew
  have hBW : Below w.heap.size w (w1.drew.setCells tb 251 (row 251 (ecell (newE n) (.slice none 0 0) (.slice none 0 0)))) := below_setCells (by exact h.hs) _ _ _ hBw
  refine ⟨_, rfl, hth, hrd, World.rangeAt_setCells_apart hrd _ _ _ (.inl hne), ⟨fun i hi => ?_, fun i => by rw [World.frozen?_setCells]; exact f1 i, h.hs⟩, hBW⟩
  by_cases g : 251 ≤ i ∧ i < 502
  · obtain ⟨j, hj⟩ : ∃ j, i = 251 + j := ⟨i - 251, by omega⟩
    have := cell_row (World.rangeAt_setCells_same w1.drew tb 251 (row 251 (ecell (newE n) (.slice none 0 0) (.slice none 0 0))) (by rw [row_length]; exact hth)) (i := j) (by omega)
    rw [hj, this]
    refine congrArg some ?_
    rw [tcel_b (by omega) (by omega), show 251 + j - 251 = j by omega]; rfl
  · rw [World.cell?_setCells_out tb _ 251 _ _ (fun _ _ => by rw [row_length]; show i < 251 ∨ 251 + 251 ≤ i; omega), h1 i hi]
    refine congrArg some ?_
    unfold tcel
    by_cases g1 : i < 251
    · rw [if_pos g1, if_pos g1]; rfl
    · rw [if_neg g1, if_neg g1, if_neg (by omega), if_neg (by omega)]
set_option maxRecDepth 100000 in
set_option maxHeartbeats 4000000 in
theorem tnew_yes (n : Int) (w : World) (hn : Cx.winB n = true) : Calls Tryz.prog 30 #[.int .i64 n] w fun ex w' => ∃ tb, ex = .returned (.tuple #[.pointer (some ⟨tb, 0, none⟩), .nilIface]) ∧ TO w' w.heap.size tb nilV (newT n) ∧ Below w.heap.size w w' := by
  have hst : TNew ((w.alloc (.cells #[.slice none 0 0] 93)).alloc (.cells (row 503 (tcel ⟨zeroE, zeroE, []⟩ nilV)).toArray 107)) w.heap.size (w.alloc (.cells #[.slice none 0 0] 93)).heap.size n 0 := TNew.start _ (by simp) n
  rw [World.size_alloc, ← zero_talk] at hst
  have HST : Hid (TNew ((w.alloc (.cells #[.slice none 0 0] 93)).alloc (.cells (Tryz.zeroCells107.setIfInBounds 502 (.slice none 0 0)) 107)) w.heap.size (w.heap.size + 1) n 0) := hst
  have HB0 : Hid (Below w.heap.size w ((w.alloc (.cells #[.slice none 0 0] 93)).alloc (.cells (Tryz.zeroCells107.setIfInBounds 502 (.slice none 0 0)) 107))) := ((Below.refl _ _).alloc (Nat.le_refl _) _).alloc (by simp) _
  have HN : Hid (Cx.winB n = true) := hn
  have HON : Hid (∀ i, (ecell (newE n) (.slice none 0 0) (.slice none 0 0) i).oneCell' = true) := fun i => ecell_one rfl rfl i
  clear hn hst
  go_enter Tryz.func30, Tryz.ntmps30
  go_wp2_with (go_at_call 46; refine (Lk.new_calls w).mono ?_; rintro ex w1 ⟨rfl, hw1⟩; subst hw1)
  generalize (w.alloc (.cells #[.slice none 0 0] 93)).alloc (.cells (Tryz.zeroCells107.setIfInBounds 502 (.slice none 0 0)) 107) = W0 at HST HB0 ⊢
  generalize w.heap.size + 1 = tb at HST ⊢
  go_loopg [13] 2 (fun gk s13 wr => ∃ k : Nat, gk + k = 2 ∧ s13 = .int .i64 (k : Int) ∧ TNew wr w.heap.size tb n k ∧ Hid (Below w.heap.size w wr))
  case atStart => exact ⟨0, rfl, rfl, HST.out, HB0⟩
  case round =>
    obtain ⟨k, hk, rfl, hT, HB⟩ := hrel
    clear HST HB0
    obtain rfl | rfl | rfl : k = 0 ∨ k = 1 ∨ k = 2 := by omega
    · have g : (((0 : Nat) : Int)) < 2 := by omega
      go_wp2_with (go_at_call 47; refine (new_yes n wr HN.out).mono ?_; rintro ex w1 ⟨eb, rfl, ho1, hb1⟩)
      obtain ⟨W, HW, hth, hrd, hkp, hT2, hB2⟩ := TNew.step0 hT HB.out ho1 hb1
      go_wp2_with fail
      refine wp_region_noPanic ?_
      refine wp_region_held_drew (S := fun X => X.rangeAt eb 0 (row 251 (ecell (newE n) (.slice none 0 0) (.slice none 0 0)))) (by kernel_rfl) hrd (fun hHeld => ?_)
      refine wpAnyH_take (i := 0) (oi := { dst := some 24, op := Op.move (Operand.tmp 4), type := 66, pos := "talk.go:26", after := #[], guard := none }) (v := (.pointer (some ⟨tb, 0, none⟩))) rfl (by kernel_rfl) (by kernel_rfl) (by kernel_rfl) (fun _ _ _ h => h) (Or.inl ⟨by rfl, ?_⟩) (by assumption) ?_
      · intro wx hSw
        clear hSw
        go_simp
      try simp only [Act.put, List.setIfInBounds_toArray, List.set_cons_zero, List.set_cons_succ]
      refine wpAnyH_take (i := 1) (oi := { dst := some 25, op := Op.move (Operand.tmp 5), type := 3, pos := "talk.go:26", after := #[], guard := none }) (v := (.int .i64 0)) rfl (by kernel_rfl) (by kernel_rfl) (by kernel_rfl) (fun _ _ _ h => h) (Or.inl ⟨by rfl, ?_⟩) (by assumption) ?_
      · intro wx hSw
        clear hSw
        go_simp
      try simp only [Act.put, List.setIfInBounds_toArray, List.set_cons_zero, List.set_cons_succ]
      refine wpAnyH_take (i := 2) (oi := { dst := some 26, op := Op.move (Operand.tmp 6), type := 108, pos := "talk.go:26", after := #[], guard := none }) (v := (.pointer (some ⟨eb, 0, none⟩))) rfl (by kernel_rfl) (by kernel_rfl) (by kernel_rfl) (fun _ _ _ h => h) (Or.inl ⟨by rfl, ?_⟩) (by assumption) ?_
      · intro wx hSw
        clear hSw
        go_simp
      try simp only [Act.put, List.setIfInBounds_toArray, List.set_cons_zero, List.set_cons_succ]
      refine wpAnyH_take (i := 3) (oi := { dst := some 27, op := Op.nilCheck (Operand.tmp 26), type := 0, pos := "talk.go:26", after := #[{ on := 2, ground := Ground.data }], guard := none }) (v := (.pointer (some ⟨eb, 0, none⟩))) rfl (by kernel_rfl) (by kernel_rfl) (by kernel_rfl) (fun _ _ _ h => h) (Or.inl ⟨by rfl, ?_⟩) (by assumption) ?_
      · intro wx hSw
        clear hSw
        go_simp
      try simp only [Act.put, List.setIfInBounds_toArray, List.set_cons_zero, List.set_cons_succ]
      refine wpAnyH_take (i := 5) (oi := { dst := some 29, op := Op.nilCheck (Operand.tmp 24), type := 0, pos := "talk.go:26", after := #[{ on := 0, ground := Ground.data }], guard := none }) (v := (.pointer (some ⟨tb, 0, none⟩))) rfl (by kernel_rfl) (by kernel_rfl) (by kernel_rfl) (fun _ _ _ h => h) (Or.inl ⟨by rfl, ?_⟩) (by assumption) ?_
      · intro wx hSw
        clear hSw
        go_simp
      try simp only [Act.put, List.setIfInBounds_toArray, List.set_cons_zero, List.set_cons_succ]
      refine wpAnyH_take (i := 6) (oi := { dst := some 30, op := Op.fieldAddr 107 (Operand.tmp 29) 0, type := 0, pos := "talk.go:26", after := #[{ on := 5, ground := Ground.data }], guard := none }) (v := (.pointer (some ⟨tb, 0, none⟩))) rfl (by kernel_rfl) (by kernel_rfl) (by kernel_rfl) (fun _ _ _ h => h) (Or.inl ⟨by rfl, ?_⟩) (by assumption) ?_
      · intro wx hSw
        clear hSw
        go_simp
      try simp only [Act.put, List.setIfInBounds_toArray, List.set_cons_zero, List.set_cons_succ]
      refine wpAnyH_ready (rs := [4]) (by kernel_rfl) (by simp) ?_
      refine AllReadyH.cons (o := { dst := some 28, op := Op.load 104 (Operand.tmp 27), type := 104, pos := "talk.go:26", after := #[{ on := 3, ground := Ground.data }], guard := none }) rfl (fun K hK => ?_) AllReadyH.nil
      rw [if_pos (by rfl)]
      refine twp_row_load (n := 251) (f := ecell (newE n) (.slice none 0 0) (.slice none 0 0)) (ty := 104) (.tmp 27) rfl eb 0 rfl hHeld (by kernel_rfl) (by kernel_rfl) ?_
      refine hK.out _ _ hHeld (fun hHeld => ?_)
      clear hK K
      try simp only [Act.put, List.setIfInBounds_toArray, List.set_cons_zero, List.set_cons_succ]
      refine wpAnyH_take (i := 7) (oi := { dst := some 31, op := Op.indexAddr 105 (Operand.tmp 30) (Operand.tmp 25), type := 0, pos := "talk.go:26", after := #[{ on := 6, ground := Ground.data }, { on := 1, ground := Ground.data }, { on := 0, ground := Ground.phase }, { on := 1, ground := Ground.phase }, { on := 2, ground := Ground.phase }, { on := 3, ground := Ground.phase }, { on := 4, ground := Ground.phase }], guard := none }) (v := (.pointer (some ⟨tb, 0, none⟩))) rfl (by kernel_rfl) (by kernel_rfl) (by kernel_rfl) (fun _ _ _ h => h) (Or.inl ⟨by rfl, ?_⟩) (by assumption) ?_
      · intro wx hSw
        clear hSw
        go_simp
      try simp only [Act.put, List.setIfInBounds_toArray, List.set_cons_zero, List.set_cons_succ]
      refine wpAnyH_ready (rs := [8]) (by kernel_rfl) (by simp) ?_
      refine AllReadyH.cons (o := { dst := none, op := Op.store 104 (Operand.tmp 31) (Operand.tmp 28), type := 0, pos := "talk.go:26", after := #[{ on := 7, ground := Ground.data }, { on := 4, ground := Ground.data }, { on := 0, ground := Ground.phase }, { on := 1, ground := Ground.phase }, { on := 2, ground := Ground.phase }, { on := 3, ground := Ground.phase }, { on := 4, ground := Ground.phase }], guard := none }) rfl (fun K hK => ?_) AllReadyH.nil
      rw [if_pos (by rfl)]
      refine twp_row_store (n := 251) (f := ecell (newE n) (.slice none 0 0) (.slice none 0 0)) (ty := 104) (.tmp 31) (.tmp 28) rfl tb 0 rfl rfl hth (by kernel_rfl) HON.out HW ?_
      refine hK.out _ _ hkp (fun hHeld => ?_)
      clear hK K hHeld
      try simp only [Act.put, List.setIfInBounds_toArray, List.set_cons_zero, List.set_cons_succ]
      refine wpAnyH_done (by kernel_rfl) (NoPanic.normal ?_) _
      go_wp2_with fail
      go_roundg 1
      case measure => omega
      case rel => exact ⟨1, by omega, rfl, hT2, hB2⟩
    · have g : (((1 : Nat) : Int)) < 2 := by omega
      go_wp2_with (go_at_call 47; refine (new_yes n wr HN.out).mono ?_; rintro ex w1 ⟨eb, rfl, ho1, hb1⟩)
      obtain ⟨W, HW, hth, hrd, hkp, hT2, hB2⟩ := TNew.step1 hT HB.out ho1 hb1
      go_wp2_with fail
      refine wp_region_noPanic ?_
      refine wp_region_held_drew (S := fun X => X.rangeAt eb 0 (row 251 (ecell (newE n) (.slice none 0 0) (.slice none 0 0)))) (by kernel_rfl) hrd (fun hHeld => ?_)
      refine wpAnyH_take (i := 0) (oi := { dst := some 24, op := Op.move (Operand.tmp 4), type := 66, pos := "talk.go:26", after := #[], guard := none }) (v := (.pointer (some ⟨tb, 0, none⟩))) rfl (by kernel_rfl) (by kernel_rfl) (by kernel_rfl) (fun _ _ _ h => h) (Or.inl ⟨by rfl, ?_⟩) (by assumption) ?_
      · intro wx hSw
        clear hSw
        go_simp
      try simp only [Act.put, List.setIfInBounds_toArray, List.set_cons_zero, List.set_cons_succ]
      refine wpAnyH_take (i := 1) (oi := { dst := some 25, op := Op.move (Operand.tmp 5), type := 3, pos := "talk.go:26", after := #[], guard := none }) (v := (.int .i64 1)) rfl (by kernel_rfl) (by kernel_rfl) (by kernel_rfl) (fun _ _ _ h => h) (Or.inl ⟨by rfl, ?_⟩) (by assumption) ?_
      · intro wx hSw
        clear hSw
        go_simp
      try simp only [Act.put, List.setIfInBounds_toArray, List.set_cons_zero, List.set_cons_succ]
      refine wpAnyH_take (i := 2) (oi := { dst := some 26, op := Op.move (Operand.tmp 6), type := 108, pos := "talk.go:26", after := #[], guard := none }) (v := (.pointer (some ⟨eb, 0, none⟩))) rfl (by kernel_rfl) (by kernel_rfl) (by kernel_rfl) (fun _ _ _ h => h) (Or.inl ⟨by rfl, ?_⟩) (by assumption) ?_
      · intro wx hSw
        clear hSw
        go_simp
      try simp only [Act.put, List.setIfInBounds_toArray, List.set_cons_zero, List.set_cons_succ]
      refine wpAnyH_take (i := 3) (oi := { dst := some 27, op := Op.nilCheck (Operand.tmp 26), type := 0, pos := "talk.go:26", after := #[{ on := 2, ground := Ground.data }], guard := none }) (v := (.pointer (some ⟨eb, 0, none⟩))) rfl (by kernel_rfl) (by kernel_rfl) (by kernel_rfl) (fun _ _ _ h => h) (Or.inl ⟨by rfl, ?_⟩) (by assumption) ?_
      · intro wx hSw
        clear hSw
        go_simp
      try simp only [Act.put, List.setIfInBounds_toArray, List.set_cons_zero, List.set_cons_succ]
      refine wpAnyH_take (i := 5) (oi := { dst := some 29, op := Op.nilCheck (Operand.tmp 24), type := 0, pos := "talk.go:26", after := #[{ on := 0, ground := Ground.data }], guard := none }) (v := (.pointer (some ⟨tb, 0, none⟩))) rfl (by kernel_rfl) (by kernel_rfl) (by kernel_rfl) (fun _ _ _ h => h) (Or.inl ⟨by rfl, ?_⟩) (by assumption) ?_
      · intro wx hSw
        clear hSw
        go_simp
      try simp only [Act.put, List.setIfInBounds_toArray, List.set_cons_zero, List.set_cons_succ]
      refine wpAnyH_take (i := 6) (oi := { dst := some 30, op := Op.fieldAddr 107 (Operand.tmp 29) 0, type := 0, pos := "talk.go:26", after := #[{ on := 5, ground := Ground.data }], guard := none }) (v := (.pointer (some ⟨tb, 0, none⟩))) rfl (by kernel_rfl) (by kernel_rfl) (by kernel_rfl) (fun _ _ _ h => h) (Or.inl ⟨by rfl, ?_⟩) (by assumption) ?_
      · intro wx hSw
        clear hSw
        go_simp
      try simp only [Act.put, List.setIfInBounds_toArray, List.set_cons_zero, List.set_cons_succ]
      refine wpAnyH_ready (rs := [4]) (by kernel_rfl) (by simp) ?_
      refine AllReadyH.cons (o := { dst := some 28, op := Op.load 104 (Operand.tmp 27), type := 104, pos := "talk.go:26", after := #[{ on := 3, ground := Ground.data }], guard := none }) rfl (fun K hK => ?_) AllReadyH.nil
      rw [if_pos (by rfl)]
      refine twp_row_load (n := 251) (f := ecell (newE n) (.slice none 0 0) (.slice none 0 0)) (ty := 104) (.tmp 27) rfl eb 0 rfl hHeld (by kernel_rfl) (by kernel_rfl) ?_
      refine hK.out _ _ hHeld (fun hHeld => ?_)
      clear hK K
      try simp only [Act.put, List.setIfInBounds_toArray, List.set_cons_zero, List.set_cons_succ]
      refine wpAnyH_take (i := 7) (oi := { dst := some 31, op := Op.indexAddr 105 (Operand.tmp 30) (Operand.tmp 25), type := 0, pos := "talk.go:26", after := #[{ on := 6, ground := Ground.data }, { on := 1, ground := Ground.data }, { on := 0, ground := Ground.phase }, { on := 1, ground := Ground.phase }, { on := 2, ground := Ground.phase }, { on := 3, ground := Ground.phase }, { on := 4, ground := Ground.phase }], guard := none }) (v := (.pointer (some ⟨tb, 251, none⟩))) rfl (by kernel_rfl) (by kernel_rfl) (by kernel_rfl) (fun _ _ _ h => h) (Or.inl ⟨by rfl, ?_⟩) (by assumption) ?_
      · intro wx hSw
        clear hSw
        go_simp
      try simp only [Act.put, List.setIfInBounds_toArray, List.set_cons_zero, List.set_cons_succ]
      refine wpAnyH_ready (rs := [8]) (by kernel_rfl) (by simp) ?_
      refine AllReadyH.cons (o := { dst := none, op := Op.store 104 (Operand.tmp 31) (Operand.tmp 28), type := 0, pos := "talk.go:26", after := #[{ on := 7, ground := Ground.data }, { on := 4, ground := Ground.data }, { on := 0, ground := Ground.phase }, { on := 1, ground := Ground.phase }, { on := 2, ground := Ground.phase }, { on := 3, ground := Ground.phase }, { on := 4, ground := Ground.phase }], guard := none }) rfl (fun K hK => ?_) AllReadyH.nil
      rw [if_pos (by rfl)]
      refine twp_row_store (n := 251) (f := ecell (newE n) (.slice none 0 0) (.slice none 0 0)) (ty := 104) (.tmp 31) (.tmp 28) rfl tb 251 rfl rfl hth (by kernel_rfl) HON.out HW ?_
      refine hK.out _ _ hkp (fun hHeld => ?_)
      clear hK K hHeld
      try simp only [Act.put, List.setIfInBounds_toArray, List.set_cons_zero, List.set_cons_succ]
      refine wpAnyH_done (by kernel_rfl) (NoPanic.normal ?_) _
      go_wp2_with fail
      go_roundg 0
      case measure => omega
      case rel => exact ⟨2, by omega, rfl, hT2, hB2⟩
    · have g : ¬ (((2 : Nat) : Int)) < 2 := by omega
      go_wp2_with fail
      go_ret2
      exact ⟨tb, rfl, TNew.all HN.out hT, HB.out⟩
end Go.Proofs.YtdokgalidhmbbaaGreatDoor
