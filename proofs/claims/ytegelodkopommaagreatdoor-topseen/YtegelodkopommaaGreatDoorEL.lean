/- What Read answers, and what it leaves. -/
import Derived.Test.YtegelodkopommaaGreatDoorEB
import Derived.Test.YtegelodkopommaaGreatDoorEF
import Derived.Deep.RegionHeld3
import Derived.Deep.MidRow
import Derived.Great.Walk
namespace Go.Proofs.YtegelodkopommaaGreatDoor
open Go.RowKit Go.Lib Go.Sort
set_option linter.unusedVariables false
set_option linter.unusedSimpArgs false


theorem cell_row {w : World} {b o n : Nat} {f : Nat → Value} (h : w.rangeAt b o (row n f)) {i : Nat} (hi : i < n) : w.cell? ⟨b, o + i, none⟩ = some (f i) := h i _ (row_get hi)
theorem row_range {w : World} {b o n : Nat} {f : Nat → Value} (h : ∀ i, i < n → w.cell? ⟨b, o + i, none⟩ = some (f i)) : w.rangeAt b o (row n f) := fun j v hv => by
  obtain ⟨hj, rfl⟩ := row_out hv
  exact h j hj
theorem sobj_of_range {w : World} {B ib : Nat} {s : Sx.St} (hi : Sx.Inv s) (h : w.rangeAt ib 0 (row 121 (scell s))) (hf : ∀ i, w.frozen? ⟨ib, i, none⟩ = false) (hb : B ≤ ib) : Sx.Obj w B ib s := by
  have c : ∀ i, i < 121 → w.cell? ⟨ib, i, none⟩ = some (scell s i) := fun i hi => by have := cell_row h hi; rwa [Nat.zero_add] at this
  exact ⟨hi, fun i h => by rw [c i (by omega), scell_b h], fun i h => by rw [c _ (by omega), scell_c h], by rw [c 120 (by omega), scell_t], fun i _ => hf i, hb⟩
theorem range_of_sobj {w : World} {B ib : Nat} {s : Sx.St} (h : Sx.Obj w B ib s) : w.rangeAt ib 0 (row 121 (scell s)) := row_range fun j hj => by
  rw [Nat.zero_add]
  by_cases h1 : j < 60
  · rw [scell_b h1]; exact h.cb j h1
  · by_cases h2 : j < 120
    · have h3 := h.cc (j - 60) (by omega)
      have h4 := scell_c (s := s) (i := j - 60) (by omega)
      rw [show 60 + (j - 60) = j by omega] at h3 h4
      rw [h3, h4]
    · obtain rfl : j = 120 := by omega
      exact h.ct
theorem cobj_of_range {w : World} {B rb : Nat} {c : Cx.St} (hi : Cx.Inv c) (h : w.rangeAt rb 0 (row 4 (ccell c))) (hf : ∀ i, w.frozen? ⟨rb, i, none⟩ = false) (hb : B ≤ rb) : Cx.Obj w B rb c := by
  have g : ∀ i, i < 4 → w.cell? ⟨rb, i, none⟩ = some (ccell c i) := fun i hi => by have := cell_row h hi; rwa [Nat.zero_add] at this
  exact ⟨hi, ⟨g 0 (by omega), g 1 (by omega), g 2 (by omega), g 3 (by omega), hf 1, hf 2, hf 3, hf 0⟩, hb⟩
theorem range_of_cobj {w : World} {B rb : Nat} {c : Cx.St} (h : Cx.Obj w B rb c) : w.rangeAt rb 0 (row 4 (ccell c)) := row_range fun j hj => by
  rw [Nat.zero_add]
  match j, hj with
  | 0, _ => exact h.four.c0
  | 1, _ => exact h.four.c1
  | 2, _ => exact h.four.c2
  | 3, _ => exact h.four.c3
theorem EO.range_in {w : World} {B eb : Nat} {vl vc : Value} {e : En} (h : EO w B eb vl vc e) : w.rangeAt eb 125 (row 121 (scell e.s)) := row_range fun i hi => by rw [h.cl _ (by omega), ecell_in hi]
theorem EO.range_room {w : World} {B eb : Nat} {vl vc : Value} {e : En} (h : EO w B eb vl vc e) : w.rangeAt eb 246 (row 4 (ccell e.c)) := row_range fun i hi => by rw [h.cl _ (by omega), ecell_room hi]
theorem desc_row (ty n : Nat) (h : (Tryz.prog.underlying ty).map (·.isRow) = some true) (hs : (Tryz.prog.info? ty).map (·.size) = some n) (f : Nat → Value) : ∃ d, Tryz.prog.underlying ty = some d ∧ d.isRow = true ∧ (Tryz.prog.info? ty).map (·.size) = some (row n f).length := by
  cases hd : Tryz.prog.underlying ty with
  | none => rw [hd] at h; cases h
  | some d =>
    rw [hd] at h
    exact ⟨d, rfl, by simpa using h, by rw [row_length]; exact hs⟩
theorem zero_credit (W : World) : (zeroValue 78).run Tryz.prog W = .ok (.agg (row 4 (ccell ⟨0, 0, 0, 0⟩)).toArray) W := by kernel_rfl
theorem zero_stream2 (W : World) : (zeroValue 74).run Tryz.prog W = .ok (.agg (row 121 (scell Sx.newS)).toArray) W := by kernel_rfl
theorem fz_new (W : World) (cs : Array Value) (t : TypeId) (i : Nat) : (W.alloc (.cells cs t)).frozen? ⟨W.heap.size, i, none⟩ = false := by simp
theorem there_row (w : World) (t : TypeId) (n : Nat) (f : Nat → Value) : (w.alloc (.cells (row n f).toArray t)).there w.heap.size 0 n := fun j hj => by
  rw [Nat.zero_add]
  simp [row, hj]
theorem row_load_op {ops : Array Oper} {rest : List Oper} {op : Oper} {a : Act} {w : World} {Q : Exit → Act → World → Prop} {n : Nat} {f : Nat → Value} {ty : TypeId} (hgd : op.guard = none) (x : Operand) (ho : op.op = .load ty x)
    (b o : Nat) (hx : a.eval x = .pointer (some ⟨b, o, none⟩)) (hc : w.rangeAt b o (row n f)) (hu : (Tryz.prog.underlying ty).map (·.isRow) = some true) (hi : (Tryz.prog.info? ty).map (·.size) = some n) (h : wpList Tryz.prog ops Q rest (a.put op.dst (.agg (row n f).toArray)) w) : wpList Tryz.prog ops Q (op :: rest) a w := by
  obtain ⟨d, h1, h2, h3⟩ := desc_row ty n hu hi f
  exact wpList_load_mid hgd ty x ho b o hx (row n f) d hc h1 h2 h3 h
theorem row_store_op {ops : Array Oper} {rest : List Oper} {op : Oper} {a : Act} {w : World} {Q : Exit → Act → World → Prop} {n : Nat} {f : Nat → Value} {ty : TypeId} (hgd : op.guard = none) (x y : Operand) (ho : op.op = .store ty x y)
    (b o : Nat) (hx : a.eval x = .pointer (some ⟨b, o, none⟩)) (hy : a.eval y = .agg (row n f).toArray) (ht : w.there b o n) (hi : (Tryz.prog.info? ty).map (·.size) = some n) (h1 : ∀ i, (f i).oneCell' = true) (h : wpList Tryz.prog ops Q rest (a.put op.dst undef) (w.setCells b o (row n f))) : wpList Tryz.prog ops Q (op :: rest) a w :=
  wpList_store_mid hgd ty x y ho b o (row n f).toArray hx hy (by simpa [row_length] using ht) (by simpa [row_length] using hi) (row_one fun i _ => h1 i) (by simpa using h)
theorem row_store_to {ops : Array Oper} {rest : List Oper} {op : Oper} {a : Act} {w W : World} {Q : Exit → Act → World → Prop} {n : Nat} {f : Nat → Value} {ty : TypeId} (hgd : op.guard = none) (x y : Operand) (ho : op.op = .store ty x y)
    (b o : Nat) (hx : a.eval x = .pointer (some ⟨b, o, none⟩)) (hy : a.eval y = .agg (row n f).toArray) (ht : w.there b o n) (hi : (Tryz.prog.info? ty).map (·.size) = some n) (h1 : ∀ i, (f i).oneCell' = true) (hW : Hid (W = w.setCells b o (row n f))) (h : wpList Tryz.prog ops Q rest (a.put op.dst undef) W) : wpList Tryz.prog ops Q (op :: rest) a w :=
  row_store_op hgd x y ho b o hx hy ht hi h1 (by rw [← hW.out]; exact h)
theorem EO.there {w : World} {B eb : Nat} {vl vc : Value} {e : En} (h : EO w B eb vl vc e) (o n : Nat) (hn : o + n ≤ 251) : w.there eb o n := fun j hj => ⟨by rw [h.cl _ (by omega)]; rfl, h.fz _⟩
theorem ecell_sc {e : En} {s : Sx.St} {c : Cx.St} {vl vc : Value} {i : Nat} (h : i < 125 ∨ 250 ≤ i) : ecell { e with s := s, c := c } vl vc i = ecell e vl vc i := by
  have h1 : ¬ (¬ i < 60 ∧ ¬ i = 60 ∧ ¬ i < 121 ∧ ¬ i = 121 ∧ ¬ i = 122 ∧ ¬ i = 123 ∧ ¬ i = 124 ∧ i < 246) := by omega
  unfold ecell
  rcases h with h | h
  · by_cases a1 : i < 60
    · simp only [a1, if_true]
    · by_cases a2 : i = 60
      · subst a2; rfl
      · by_cases a3 : i < 121
        · simp only [a1, a2, a3, if_true, if_false]
        · have : i = 121 ∨ i = 122 ∨ i = 123 ∨ i = 124 := by omega
          rcases this with rfl | rfl | rfl | rfl <;> rfl
  · have a1 : ¬ i < 60 := by omega
    have a2 : ¬ i = 60 := by omega
    have a3 : ¬ i < 121 := by omega
    have a4 : ¬ i = 121 := by omega
    have a5 : ¬ i = 122 := by omega
    have a6 : ¬ i = 123 := by omega
    have a7 : ¬ i = 124 := by omega
    have a8 : ¬ i < 246 := by omega
    have a9 : ¬ i < 250 := by omega
    simp only [a1, a2, a3, a4, a5, a6, a7, a8, a9, if_false]
theorem off_sets2 (b : Nat) : ∀ (vs : List Value) (o : Nat) (w : World), Off (fun k => k = b) w (w.setCells b o vs)
  | [], _, w => Off.refl _ _
  | v :: vs, o, w => ((Off.refl _ _).setCell (K := fun k => k = b) (a := ⟨b, o, none⟩) rfl v).trans (off_sets2 b vs (o + 1) _)
theorem read_end {w X w2 w3 : World} {B eb ib rb : Nat} {vl vc : Value} {e : En} {n : Int} {k : Nat} (h : EO w B eb vl vc e) (hX : Below w.heap.size w X) (hib : w.heap.size ≤ ib) (hrb : w.heap.size ≤ rb) (hne : ib ≠ rb)
    (t2 : Sx.Turned X w2 w.heap.size ib (Sx.takeS e.s n)) (t3 : Cx.Turned w2 w3 w.heap.size rb (Cx.getS e.c (k : Nat))) (hf : readF e n = 0) (hk : k = Sx.takeN e.s n) :
    (w3.rangeAt ib 0 (row 121 (scell (Sx.takeS e.s n))) ∧ w3.rangeAt rb 0 (row 4 (ccell (Cx.getS e.c (k : Nat)))) ∧ w3.there eb 125 121 ∧ (w3.setCells eb 125 (row 121 (scell (Sx.takeS e.s n)))).there eb 246 4) ∧ Turn w ((w3.setCells eb 125 (row 121 (scell (Sx.takeS e.s n)))).setCells eb 246 (row 4 (ccell (Cx.getS e.c (k : Nat))))) B eb vl vc (readS e n) := by
  have hi := h.inv.read n
  have hs : readS e n = { e with s := Sx.takeS e.s n, c := Cx.getS e.c (k : Nat) } := by unfold readS; rw [if_pos hf, hk]
  rw [hs] at hi ⊢
  have b2 : Below w.heap.size w w2 := hX.trans (t2.2.below (fun j hj => by rw [hj]; exact hib) hX.size)
  have b3 : Below w.heap.size w w3 := b2.trans (t3.2.below (fun j hj => by rw [hj]; exact hrb) b2.size)
  have h3 := h.below b3
  have s3 : Sx.Obj w3 w.heap.size ib (Sx.takeS e.s n) := t2.1.off t3.2 hne
  refine ⟨⟨range_of_sobj s3, range_of_cobj t3.1, h3.there 125 121 (by omega), World.there_setCells (h3.there 246 4 (by omega)) _ _ _⟩, ?_⟩
  generalize Sx.takeS e.s n = s' at *
  generalize Cx.getS e.c (k : Nat) = c' at *
  have oF : Off (fun j => j = eb) w3 ((w3.setCells eb 125 (row 121 (scell s'))).setCells eb 246 (row 4 (ccell c'))) := (off_sets2 eb _ _ _).trans (off_sets2 eb _ _ _)
  refine ⟨vl, vc, ⟨hi, fun i hi => ?_, fun i => ?_, h.hs, oF.row h3.ld (fun k hk e' => by subst e'; exact h.ap.1 hk), oF.row h3.cm (fun k hk e' => by subst e'; exact h.ap.2 hk), h.ap⟩, (Off.of_below b3).trans (oF.mono fun j _ hj => .inl hj), fun j hj => .inl hj⟩
  · by_cases a1 : i < 125 ∨ 250 ≤ i
    · rw [ecell_sc a1, World.cell?_setCells_out eb _ 246 _ _ (fun _ _ => by rw [row_length]; show i < 246 ∨ 246 + 4 ≤ i; omega), World.cell?_setCells_out eb _ 125 _ _ (fun _ _ => by rw [row_length]; show i < 125 ∨ 125 + 121 ≤ i; omega)]
      exact h3.cl i hi
    · by_cases a2 : i < 246
      · obtain ⟨j, rfl⟩ : ∃ j, i = 125 + j := ⟨i - 125, by omega⟩
        rw [World.cell?_setCells_out eb _ 246 _ _ (fun _ _ => by rw [row_length]; show 125 + j < 246 ∨ 246 + 4 ≤ 125 + j; omega), ecell_in (by omega)]
        exact cell_row (World.rangeAt_setCells_same _ _ _ _ (by rw [row_length]; exact h3.there 125 121 (by omega))) (by omega)
      · obtain ⟨j, rfl⟩ : ∃ j, i = 246 + j := ⟨i - 246, by omega⟩
        rw [ecell_room (by omega)]
        exact cell_row (World.rangeAt_setCells_same _ _ _ _ (by rw [row_length]; exact World.there_setCells (h3.there 246 4 (by omega)) _ _ _)) (by omega)
  · rw [World.frozen?_setCells, World.frozen?_setCells]
    exact h3.fz i
set_option maxRecDepth 100000 in
set_option maxHeartbeats 4000000 in
theorem read_calls {w : World} {B eb : Nat} {vl vc : Value} {e : En} (h : EO w B eb vl vc e) (n : Int) : Calls Tryz.prog 18 #[.pointer (some ⟨eb, 0, none⟩), .int .i64 n] w fun ex w' => ex = .returned (.tuple #[.string (readB e n), errV (readF e n)]) ∧ Turn w w' B eb vl vc (readS e n) := by
  have HO : Hid (EO w B eb vl vc e) := h
  obtain ⟨SD, us, sd, is⟩ := desc_row 74 121 (by kernel_rfl) (by kernel_rfl) (scell e.s)
  obtain ⟨CD, uc, cd, ic⟩ := desc_row 78 4 (by kernel_rfl) (by kernel_rfl) (ccell e.c)
  have US : Hid (Tryz.prog.underlying 74 = some SD) := us
  have UC : Hid (Tryz.prog.underlying 78 = some CD) := uc
  have IS : Hid ((Tryz.prog.info? 74).map (·.size) = some (row 121 (scell e.s)).length) := is
  have IC : Hid ((Tryz.prog.info? 78).map (·.size) = some (row 4 (ccell e.c)).length) := ic
  have SDH : Hid (SD.isRow = true) := sd
  have CDH : Hid (CD.isRow = true) := cd
  have dri : w.drew.rangeAt eb 125 (row 121 (scell e.s)) := h.range_in
  have drr : w.drew.rangeAt eb 246 (row 4 (ccell e.c)) := h.range_room
  have hzs := zero_stream2
  have hzc := zero_credit
  generalize hZS : (row 121 (scell Sx.newS)).toArray = zs at hzs
  generalize hZC : (row 4 (ccell ⟨0, 0, 0, 0⟩)).toArray = zc at hzc
  have HZS : Hid ((row 121 (scell Sx.newS)).toArray = zs ∧ (row 4 (ccell ⟨0, 0, 0, 0⟩)).toArray = zc) := ⟨hZS, hZC⟩
  clear h us uc is ic sd cd hZS hZC
  go_enter Tryz.func18, Tryz.ntmps18
  go_wp2_with fail
  refine wp_region_noPanic ?_
  refine wp_region_held_drew (S := fun w' => w'.rangeAt eb 125 (row 121 (scell e.s)) ∧ w'.rangeAt eb 246 (row 4 (ccell e.c))) (by kernel_rfl) ⟨dri, drr⟩ (fun hHeld => ?_)
  refine wpAnyH_take (i := 0) (oi := { dst := some 12, op := Op.move (Operand.tmp 0), type := 44, pos := "end.go:70", after := #[], guard := none }) (v := (.pointer (some ⟨eb, 0, none⟩))) rfl (by kernel_rfl) (by kernel_rfl) (by kernel_rfl) (fun _ _ _ h => h) (Or.inl ⟨by rfl, ?_⟩) (by assumption) ?_
  · intro wx hSw
    go_simp
  try simp only [Act.put, List.setIfInBounds_toArray, List.set_cons_zero, List.set_cons_succ]
  refine wpAnyH_take (i := 1) (oi := { dst := some 13, op := Op.nilCheck (Operand.tmp 12), type := 0, pos := "end.go:70", after := #[{ on := 0, ground := Ground.data }], guard := none }) (v := (.pointer (some ⟨eb, 0, none⟩))) rfl (by kernel_rfl) (by kernel_rfl) (by kernel_rfl) (fun _ _ _ h => h) (Or.inl ⟨by rfl, ?_⟩) (by assumption) ?_
  · intro wx hSw
    go_simp
  try simp only [Act.put, List.setIfInBounds_toArray, List.set_cons_zero, List.set_cons_succ]
  refine wpAnyH_take (i := 2) (oi := { dst := some 14, op := Op.fieldAddr 82 (Operand.tmp 13) 7, type := 0, pos := "end.go:70", after := #[{ on := 1, ground := Ground.data }], guard := none }) (v := (.pointer (some ⟨eb, 125, none⟩))) rfl (by kernel_rfl) (by kernel_rfl) (by kernel_rfl) (fun _ _ _ h => h) (Or.inl ⟨by rfl, ?_⟩) (by assumption) ?_
  · intro wx hSw
    go_simp
  try simp only [Act.put, List.setIfInBounds_toArray, List.set_cons_zero, List.set_cons_succ]
  refine wpAnyH_take (i := 3) (oi := { dst := some 15, op := Op.load 74 (Operand.tmp 14), type := 74, pos := "end.go:70", after := #[{ on := 2, ground := Ground.data }], guard := none }) (v := .agg (row 121 (scell e.s)).toArray) rfl (by kernel_rfl) (by kernel_rfl) (by kernel_rfl) (fun _ _ _ h => h) (yieldsIf_load_mid (by rfl) 74 (.tmp 14) rfl eb 125 rfl (row 121 (scell e.s)) SD (fun _ h => h.1) US.out SDH.out IS.out) (by assumption) ?_
  try simp only [Act.put, List.setIfInBounds_toArray, List.set_cons_zero, List.set_cons_succ]
  refine wpAnyH_take (i := 4) (oi := { dst := some 16, op := Op.move (Operand.tmp 0), type := 44, pos := "end.go:70", after := #[], guard := none }) (v := (.pointer (some ⟨eb, 0, none⟩))) rfl (by kernel_rfl) (by kernel_rfl) (by kernel_rfl) (fun _ _ _ h => h) (Or.inl ⟨by rfl, ?_⟩) (by assumption) ?_
  · intro wx hSw
    go_simp
  try simp only [Act.put, List.setIfInBounds_toArray, List.set_cons_zero, List.set_cons_succ]
  refine wpAnyH_take (i := 5) (oi := { dst := some 17, op := Op.nilCheck (Operand.tmp 16), type := 0, pos := "end.go:70", after := #[{ on := 4, ground := Ground.data }], guard := none }) (v := (.pointer (some ⟨eb, 0, none⟩))) rfl (by kernel_rfl) (by kernel_rfl) (by kernel_rfl) (fun _ _ _ h => h) (Or.inl ⟨by rfl, ?_⟩) (by assumption) ?_
  · intro wx hSw
    go_simp
  try simp only [Act.put, List.setIfInBounds_toArray, List.set_cons_zero, List.set_cons_succ]
  refine wpAnyH_take (i := 6) (oi := { dst := some 18, op := Op.fieldAddr 82 (Operand.tmp 17) 8, type := 0, pos := "end.go:70", after := #[{ on := 5, ground := Ground.data }], guard := none }) (v := (.pointer (some ⟨eb, 246, none⟩))) rfl (by kernel_rfl) (by kernel_rfl) (by kernel_rfl) (fun _ _ _ h => h) (Or.inl ⟨by rfl, ?_⟩) (by assumption) ?_
  · intro wx hSw
    go_simp
  try simp only [Act.put, List.setIfInBounds_toArray, List.set_cons_zero, List.set_cons_succ]
  refine wpAnyH_take (i := 7) (oi := { dst := some 19, op := Op.load 78 (Operand.tmp 18), type := 78, pos := "end.go:70", after := #[{ on := 6, ground := Ground.data }], guard := none }) (v := .agg (row 4 (ccell e.c)).toArray) rfl (by kernel_rfl) (by kernel_rfl) (by kernel_rfl) (fun _ _ _ h => h) (yieldsIf_load_mid (by rfl) 78 (.tmp 18) rfl eb 246 rfl (row 4 (ccell e.c)) CD (fun _ h => h.2) UC.out CDH.out IC.out) (by assumption) ?_
  try simp only [Act.put, List.setIfInBounds_toArray, List.set_cons_zero, List.set_cons_succ]
  refine wpAnyH_ready (rs := [8, 9]) (by kernel_rfl) (by simp) ?_
  refine AllReadyH.cons (o := { dst := some 6, op := Op.alloc 74, type := 0, pos := "end.go:70", after := #[], guard := none }) rfl (fun K hK => ?_) (AllReadyH.cons (o := { dst := some 7, op := Op.alloc 78, type := 0, pos := "end.go:70", after := #[], guard := none }) rfl (fun K hK => ?_) AllReadyH.nil)
  · go_simp
    refine hK.out _ (w.drew.alloc (.cells zs 74)) ⟨World.rangeAt_alloc hHeld.1 _, World.rangeAt_alloc hHeld.2 _⟩ (fun hHeld => ?_)
    clear hK K
    try simp only [Act.put, List.setIfInBounds_toArray, List.set_cons_zero, List.set_cons_succ]
    refine wpAnyH_ready (rs := [9]) (by kernel_rfl) (by simp) ?_
    refine AllReadyH.cons (o := { dst := some 7, op := Op.alloc 78, type := 0, pos := "end.go:70", after := #[], guard := none }) rfl (fun K hK => ?_) AllReadyH.nil
    go_simp
    refine hK.out _ ((w.drew.alloc (.cells zs 74)).alloc (.cells zc 78)) ⟨World.rangeAt_alloc hHeld.1 _, World.rangeAt_alloc hHeld.2 _⟩ (fun hHeld => ?_)
    clear hK K
    have hti : ((w.drew.alloc (.cells zs 74)).alloc (.cells zc 78)).there (w.heap.size) 0 121 ∧ ((w.drew.alloc (.cells zs 74)).alloc (.cells zc 78)).there (w.heap.size + 1) 0 4 := by
      obtain ⟨r1, r2⟩ := HZS.out
      subst r1 r2
      have q2 := there_row (w.drew.alloc (.cells (row 121 (scell Sx.newS)).toArray 74)) 78 4 (ccell ⟨0, 0, 0, 0⟩)
      rw [World.size_alloc] at q2
      have q1 := World.there_alloc (there_row w.drew 74 121 (scell Sx.newS)) (.cells (row 4 (ccell ⟨0, 0, 0, 0⟩)).toArray 78)
      exact ⟨q1, q2⟩
    have hbA : Below w.heap.size w ((w.drew.alloc (.cells zs 74)).alloc (.cells zc 78)) := (((Below.refl _ w).drew).alloc (Nat.le_refl _) _).alloc (by simp) _
    have ht1 : ((w.drew.alloc (.cells zs 74)).alloc (.cells zc 78)).there (w.heap.size) 0 (row 121 (scell e.s)).toArray.size := by rw [show (row 121 (scell e.s)).toArray.size = 121 by simp [row_length]]; exact hti.1
    have ht2 : (((w.drew.alloc (.cells zs 74)).alloc (.cells zc 78)).setCells (w.heap.size) 0 (row 121 (scell e.s))).there (w.heap.size + 1) 0 (row 4 (ccell e.c)).toArray.size := by rw [show (row 4 (ccell e.c)).toArray.size = 4 by simp [row_length]]; exact World.there_setCells hti.2 _ _ _
    have iS : (Tryz.prog.info? 74).map (·.size) = some (row 121 (scell e.s)).toArray.size := by rw [List.size_toArray]; exact IS.out
    have iC : (Tryz.prog.info? 78).map (·.size) = some (row 4 (ccell e.c)).toArray.size := by rw [List.size_toArray]; exact IC.out
    have hebn : eb ≠ w.heap.size ∧ eb ≠ w.heap.size + 1 := by have := HO.out.lt; omega
    try simp only [Act.put, List.setIfInBounds_toArray, List.set_cons_zero, List.set_cons_succ]
    refine wpAnyH_ready (rs := [10]) (by kernel_rfl) (by simp) ?_
    refine AllReadyH.cons (o := { dst := none, op := Op.store 74 (Operand.tmp 6) (Operand.tmp 15), type := 0, pos := "end.go:70", after := #[{ on := 8, ground := Ground.data }, { on := 3, ground := Ground.data }, { on := 0, ground := Ground.phase }, { on := 1, ground := Ground.phase }, { on := 2, ground := Ground.phase }, { on := 3, ground := Ground.phase }, { on := 4, ground := Ground.textOnly Departure.lateStores }, { on := 5, ground := Ground.textOnly Departure.lateStoresUnsure }, { on := 6, ground := Ground.textOnly Departure.lateStoresUnsure }, { on := 7, ground := Ground.phase }, { on := 8, ground := Ground.phase }, { on := 9, ground := Ground.phase }], guard := none }) rfl (fun K hK => ?_) AllReadyH.nil
    rw [if_pos (by rfl)]
    refine wp_store_mid 74 (.tmp 6) (.tmp 15) rfl (w.heap.size) 0 (row 121 (scell e.s)).toArray rfl rfl ht1 iS (row_one fun i _ => scell_one _ i) ?_
    simp only [List.toList_toArray]
    refine hK.out _ _ ⟨World.rangeAt_setCells_apart hHeld.1 _ _ _ (.inl hebn.1), World.rangeAt_setCells_apart hHeld.2 _ _ _ (.inl hebn.1)⟩ (fun hHeld => ?_)
    clear hK K
    have hr1 : (((w.drew.alloc (.cells zs 74)).alloc (.cells zc 78)).setCells (w.heap.size) 0 (row 121 (scell e.s))).rangeAt (w.heap.size) 0 (row 121 (scell e.s)) := World.rangeAt_setCells_same _ _ _ _ (by rw [row_length]; exact hti.1)
    have hfA : ∀ i, ((w.drew.alloc (.cells zs 74)).alloc (.cells zc 78)).frozen? ⟨w.heap.size, i, none⟩ = false := fun i => (World.frozen?_alloc_past _ _ _ (by rw [World.size_alloc]; show w.heap.size < w.heap.size + 1; omega)).trans (fz_new w.drew zs 74 i)
    have hfB : ∀ i, ((w.drew.alloc (.cells zs 74)).alloc (.cells zc 78)).frozen? ⟨w.heap.size + 1, i, none⟩ = false := fun i => by
      have := fz_new (w.drew.alloc (.cells zs 74)) zc 78 i
      rw [World.size_alloc] at this
      exact this
    have hf1 : ∀ i, (((w.drew.alloc (.cells zs 74)).alloc (.cells zc 78)).setCells (w.heap.size) 0 (row 121 (scell e.s))).frozen? ⟨w.heap.size, i, none⟩ = false := fun i => by rw [World.frozen?_setCells]; exact hfA i
    have hf2 : ∀ i, (((w.drew.alloc (.cells zs 74)).alloc (.cells zc 78)).setCells (w.heap.size) 0 (row 121 (scell e.s))).frozen? ⟨w.heap.size + 1, i, none⟩ = false := fun i => by rw [World.frozen?_setCells]; exact hfB i
    clear hfA hfB
    have hB1 : Below w.heap.size w (((w.drew.alloc (.cells zs 74)).alloc (.cells zc 78)).setCells (w.heap.size) 0 (row 121 (scell e.s))) := below_sets (by omega) _ _ _ hbA
    generalize (((w.drew.alloc (.cells zs 74)).alloc (.cells zc 78)).setCells (w.heap.size) 0 (row 121 (scell e.s))) = XX at hHeld ht2 hr1 hf1 hf2 hB1 ⊢
    try simp only [Act.put, List.setIfInBounds_toArray, List.set_cons_zero, List.set_cons_succ]
    refine wpAnyH_ready (rs := [11]) (by kernel_rfl) (by simp) ?_
    refine AllReadyH.cons (o := { dst := none, op := Op.store 78 (Operand.tmp 7) (Operand.tmp 19), type := 0, pos := "end.go:70", after := #[{ on := 9, ground := Ground.data }, { on := 7, ground := Ground.data }, { on := 10, ground := Ground.chain }, { on := 0, ground := Ground.phase }, { on := 1, ground := Ground.phase }, { on := 2, ground := Ground.phase }, { on := 3, ground := Ground.phase }, { on := 4, ground := Ground.phase }, { on := 5, ground := Ground.phase }, { on := 6, ground := Ground.phase }, { on := 7, ground := Ground.phase }, { on := 8, ground := Ground.phase }, { on := 9, ground := Ground.phase }, { on := 10, ground := Ground.phase }], guard := none }) rfl (fun K hK => ?_) AllReadyH.nil
    rw [if_pos (by rfl)]
    refine wp_store_mid 78 (.tmp 7) (.tmp 19) rfl (w.heap.size + 1) 0 (row 4 (ccell e.c)).toArray rfl rfl ht2 iC (row_one fun i _ => ccell_one _ i) ?_
    simp only [List.toList_toArray]
    refine hK.out _ _ ⟨World.rangeAt_setCells_apart hHeld.1 _ _ _ (.inl hebn.2), World.rangeAt_setCells_apart hHeld.2 _ _ _ (.inl hebn.2)⟩ (fun hHeld => ?_)
    clear hK K
    refine wpAnyH_done (by kernel_rfl) (NoPanic.normal ?_) _
    have hri : (XX.setCells (w.heap.size + 1) 0 (row 4 (ccell e.c))).rangeAt (w.heap.size) 0 (row 121 (scell e.s)) := World.rangeAt_setCells_apart hr1 _ _ _ (.inl (by omega))
    have hrr : (XX.setCells (w.heap.size + 1) 0 (row 4 (ccell e.c))).rangeAt (w.heap.size + 1) 0 (row 4 (ccell e.c)) := World.rangeAt_setCells_same _ _ _ _ (by simpa [row_length] using ht2)
    have hfi : ∀ i, (XX.setCells (w.heap.size + 1) 0 (row 4 (ccell e.c))).frozen? ⟨w.heap.size, i, none⟩ = false := fun i => by rw [World.frozen?_setCells]; exact hf1 i
    have hfr : ∀ i, (XX.setCells (w.heap.size + 1) 0 (row 4 (ccell e.c))).frozen? ⟨w.heap.size + 1, i, none⟩ = false := fun i => by rw [World.frozen?_setCells]; exact hf2 i
    have hXB : Below w.heap.size w (XX.setCells (w.heap.size + 1) 0 (row 4 (ccell e.c))) := below_sets (by omega) _ _ _ hB1
    have hib : w.heap.size ≤ w.heap.size := by omega
    have hrb : w.heap.size ≤ w.heap.size + 1 := by omega
    have hne : w.heap.size ≠ w.heap.size + 1 := by omega
    clear hHeld hti hbA hebn dri drr hzs hzc ht1 ht2 iS iC hr1 hf1 hf2 hB1
    generalize (XX.setCells (w.heap.size + 1) 0 (row 4 (ccell e.c))) = X at hri hrr hfi hfr hXB ⊢
    generalize w.heap.size + 1 = rb at hri hrr hfi hfr hib hrb hne ⊢
    obtain ⟨ib, hwb⟩ : ∃ q, w.heap.size = q := ⟨_, rfl⟩
    rw [hwb]
    rw [hwb] at hri hfi hne
    have hib : w.heap.size ≤ ib := by omega
    have HOB : Hid (Sx.Obj X w.heap.size ib e.s) := sobj_of_range HO.out.inv.s hri hfi hib
    have HCB : Hid (Cx.Obj X w.heap.size rb e.c) := cobj_of_range HO.out.inv.c hrr hfr hrb
    have HXB : Hid (Below w.heap.size w X) := hXB
    have HNE : Hid (ib ≠ rb) := hne
    clear hri hfi hrr hfr hib hrb hXB hne
    by_cases h0 : n < 0
    · have e1 : readF e n = 1 := if_pos h0
      have e2 : readB e n = { data := #[] } := if_neg (by rw [e1]; decide)
      have e3 : readS e n = e := if_neg (by rw [e1]; decide)
      have HE : Hid (readF e n = 1 ∧ readB e n = { data := #[] } ∧ readS e n = e) := ⟨e1, e2, e3⟩
      clear e1 e2 e3
      go_wp2_with (go_at_call 38; refine (Sx.take_no HOB.out n h0).mono ?_; rintro ex w2 ⟨rfl, ht2⟩)
      go_ret2
      refine ⟨?_, ?_⟩
      · rw [HE.out.1, HE.out.2.1]; rfl
      · rw [HE.out.2.2]
        exact Turn.below HO.out (HXB.out.trans (ht2.2.below (fun k hk => by rw [hk]; exact HOB.out.hs) HOB.out.le))
    · have hst := Sx.take_calls HOB.out n (by omega)
      have hlen : (strOfNums (Sx.takeL e.s n)).size = Sx.takeN e.s n := by rw [strOfNums_size]; simp [Sx.takeL]
      have hl60 := Sx.takeN_le e.s n
      obtain ⟨d, hd⟩ : ∃ d, strOfNums (Sx.takeL e.s n) = d := ⟨_, rfl⟩
      rw [hd] at hst hlen
      have HF : Hid (readF e n = Cx.getF e.c (d.size : Nat)) := by show _ = _; rw [hlen]; exact if_neg h0
      have HD : Hid (strOfNums (Sx.takeL e.s n) = d ∧ d.size = Sx.takeN e.s n) := ⟨hd, hlen⟩
      have hrd : ∀ w2, Sx.Turned X w2 w.heap.size ib (Sx.takeS e.s n) → Calls Tryz.prog 39 #[.pointer (some ⟨rb, 0, none⟩), .int .i64 (d.size : Int)] w2 fun ex w3 => ex = .returned (.tuple #[.int .i64 (Cx.getN e.c (d.size : Nat)), errV (Cx.getF e.c (d.size : Nat))]) ∧ Cx.Turned w2 w3 w.heap.size rb (Cx.getS e.c (d.size : Nat)) := fun w2 ht => Cx.read_calls (HCB.out.off ht.2 (fun e' => HNE.out e'.symm)) _
      have hd60 : d.size ≤ 60 := by omega
      clear hd hlen hl60
      generalize Cx.getN e.c (d.size : Nat) = gn at *
      generalize hff : Cx.getF e.c (d.size : Nat) = ff at *
      have HG : Hid (Cx.getF e.c (d.size : Nat) = ff) := hff
      clear hff
      by_cases h1 : ff = 0
      · subst h1
        rw [errV_0] at hrd
        have HFN : Hid (∀ w2 w3, Sx.Turned X w2 w.heap.size ib (Sx.takeS e.s n) → Cx.Turned w2 w3 w.heap.size rb (Cx.getS e.c (d.size : Nat)) → ∃ W4 W5, Hid (W4 = w3.setCells eb 125 (row 121 (scell (Sx.takeS e.s n)))) ∧ Hid (W5 = W4.setCells eb 246 (row 4 (ccell (Cx.getS e.c (d.size : Nat))))) ∧ w3.rangeAt ib 0 (row 121 (scell (Sx.takeS e.s n))) ∧ w3.rangeAt rb 0 (row 4 (ccell (Cx.getS e.c (d.size : Nat)))) ∧ w3.there eb 125 121 ∧ W4.there eb 246 4 ∧ Turn w W5 B eb vl vc (readS e n)) := by
          show ∀ w2 w3, _ → _ → _
          intro w2 w3 t2 t3
          have := read_end HO.out HXB.out HOB.out.hs HCB.out.hs HNE.out t2 t3 (by rw [HF.out]) HD.out.2
          exact ⟨_, _, rfl, rfl, this.1.1, this.1.2.1, this.1.2.2.1, this.1.2.2.2, this.2⟩
        have hst' : Calls Tryz.prog 38 #[.pointer (some ⟨ib, 0, none⟩), .int .i64 n] X fun ex w' => ex = .returned (.tuple #[.string d, .nilIface]) ∧ Sx.Turned X w' w.heap.size ib (Sx.takeS e.s n) := hst
        clear hst
        generalize hgs : Sx.takeS e.s n = s' at hst' hrd HFN
        generalize hgc : Cx.getS e.c (d.size : Nat) = c' at hrd HFN
        clear hgs hgc
        go_wp2_with (first | (go_at_call 38; refine hst'.mono ?_; rintro ex w2 ⟨rfl, ht2⟩; have hr2 := hrd w2 ht2; clear hst' hrd) | (go_at_call 39; refine hr2.mono ?_; rintro ex w3 ⟨rfl, ht3⟩; obtain ⟨W4, W5, HW4, HW5, hn1, hn2, hn3, hn4, hn5⟩ := HFN.out w2 w3 ht2 ht3; clear hr2 HFN) | (refine row_load_op (n := 121) (f := scell s') (ty := 74) rfl (.tmp 6) rfl ib 0 rfl hn1 (by kernel_rfl) (by kernel_rfl) ?_) | (refine row_load_op (n := 4) (f := ccell c') (ty := 78) rfl (.tmp 7) rfl rb 0 rfl hn2 (by kernel_rfl) (by kernel_rfl) ?_) | (refine row_store_to (n := 121) (f := scell s') (ty := 74) rfl (.tmp 42) (.tmp 39) rfl eb 125 rfl rfl hn3 (by kernel_rfl) (fun i => scell_one _ i) HW4 ?_) | (refine row_store_to (n := 4) (f := ccell c') (ty := 78) rfl (.tmp 44) (.tmp 40) rfl eb 246 rfl rfl hn4 (by kernel_rfl) (fun i => ccell_one _ i) HW5 ?_))
        go_ret2
        refine ⟨?_, hn5⟩
        have e1 : readF e n = 0 := HF.out
        rw [e1, show readB e n = strOfNums (Sx.takeL e.s n) from if_pos e1, HD.out.1]
        rfl
      · have e1 : readF e n = ff := HF.out
        have HE : Hid (readF e n = ff ∧ readB e n = { data := #[] } ∧ readS e n = e) := ⟨e1, if_neg (by rw [e1]; exact h1), if_neg (by rw [e1]; exact h1)⟩
        clear e1
        rw [errV_f h1] at hrd
        go_wp2_with (first | (go_at_call 38; refine hst.mono ?_; rintro ex w2 ⟨rfl, ht2⟩; have hr2 := hrd w2 ht2) | (go_at_call 39; refine hr2.mono ?_; rintro ex w3 ⟨rfl, ht3⟩))
        go_ret2
        refine ⟨?_, ?_⟩
        · rw [HE.out.1, HE.out.2.1, errV_f h1]; rfl
        · rw [HE.out.2.2]
          have b2 := HXB.out.trans (ht2.2.below (fun k hk => by rw [hk]; exact HOB.out.hs) HOB.out.le)
          exact Turn.below HO.out (b2.trans (ht3.2.below (fun k hk => by rw [hk]; exact HCB.out.hs) b2.size))
  · go_simp
    refine hK.out _ (w.drew.alloc (.cells zc 78)) ⟨World.rangeAt_alloc hHeld.1 _, World.rangeAt_alloc hHeld.2 _⟩ (fun hHeld => ?_)
    clear hK K
    try simp only [Act.put, List.setIfInBounds_toArray, List.set_cons_zero, List.set_cons_succ]
    refine wpAnyH_ready (rs := [8]) (by kernel_rfl) (by simp) ?_
    refine AllReadyH.cons (o := { dst := some 6, op := Op.alloc 74, type := 0, pos := "end.go:70", after := #[], guard := none }) rfl (fun K hK => ?_) AllReadyH.nil
    go_simp
    refine hK.out _ ((w.drew.alloc (.cells zc 78)).alloc (.cells zs 74)) ⟨World.rangeAt_alloc hHeld.1 _, World.rangeAt_alloc hHeld.2 _⟩ (fun hHeld => ?_)
    clear hK K
    have hti : ((w.drew.alloc (.cells zc 78)).alloc (.cells zs 74)).there (w.heap.size + 1) 0 121 ∧ ((w.drew.alloc (.cells zc 78)).alloc (.cells zs 74)).there (w.heap.size) 0 4 := by
      obtain ⟨r1, r2⟩ := HZS.out
      subst r1 r2
      have q2 := there_row (w.drew.alloc (.cells (row 4 (ccell ⟨0, 0, 0, 0⟩)).toArray 78)) 74 121 (scell Sx.newS)
      rw [World.size_alloc] at q2
      have q1 := World.there_alloc (there_row w.drew 78 4 (ccell ⟨0, 0, 0, 0⟩)) (.cells (row 121 (scell Sx.newS)).toArray 74)
      exact ⟨q2, q1⟩
    have hbA : Below w.heap.size w ((w.drew.alloc (.cells zc 78)).alloc (.cells zs 74)) := (((Below.refl _ w).drew).alloc (Nat.le_refl _) _).alloc (by simp) _
    have ht1 : ((w.drew.alloc (.cells zc 78)).alloc (.cells zs 74)).there (w.heap.size + 1) 0 (row 121 (scell e.s)).toArray.size := by rw [show (row 121 (scell e.s)).toArray.size = 121 by simp [row_length]]; exact hti.1
    have ht2 : (((w.drew.alloc (.cells zc 78)).alloc (.cells zs 74)).setCells (w.heap.size + 1) 0 (row 121 (scell e.s))).there (w.heap.size) 0 (row 4 (ccell e.c)).toArray.size := by rw [show (row 4 (ccell e.c)).toArray.size = 4 by simp [row_length]]; exact World.there_setCells hti.2 _ _ _
    have iS : (Tryz.prog.info? 74).map (·.size) = some (row 121 (scell e.s)).toArray.size := by rw [List.size_toArray]; exact IS.out
    have iC : (Tryz.prog.info? 78).map (·.size) = some (row 4 (ccell e.c)).toArray.size := by rw [List.size_toArray]; exact IC.out
    have hebn : eb ≠ w.heap.size + 1 ∧ eb ≠ w.heap.size := by have := HO.out.lt; omega
    try simp only [Act.put, List.setIfInBounds_toArray, List.set_cons_zero, List.set_cons_succ]
    refine wpAnyH_ready (rs := [10]) (by kernel_rfl) (by simp) ?_
    refine AllReadyH.cons (o := { dst := none, op := Op.store 74 (Operand.tmp 6) (Operand.tmp 15), type := 0, pos := "end.go:70", after := #[{ on := 8, ground := Ground.data }, { on := 3, ground := Ground.data }, { on := 0, ground := Ground.phase }, { on := 1, ground := Ground.phase }, { on := 2, ground := Ground.phase }, { on := 3, ground := Ground.phase }, { on := 4, ground := Ground.textOnly Departure.lateStores }, { on := 5, ground := Ground.textOnly Departure.lateStoresUnsure }, { on := 6, ground := Ground.textOnly Departure.lateStoresUnsure }, { on := 7, ground := Ground.phase }, { on := 8, ground := Ground.phase }, { on := 9, ground := Ground.phase }], guard := none }) rfl (fun K hK => ?_) AllReadyH.nil
    rw [if_pos (by rfl)]
    refine wp_store_mid 74 (.tmp 6) (.tmp 15) rfl (w.heap.size + 1) 0 (row 121 (scell e.s)).toArray rfl rfl ht1 iS (row_one fun i _ => scell_one _ i) ?_
    simp only [List.toList_toArray]
    refine hK.out _ _ ⟨World.rangeAt_setCells_apart hHeld.1 _ _ _ (.inl hebn.1), World.rangeAt_setCells_apart hHeld.2 _ _ _ (.inl hebn.1)⟩ (fun hHeld => ?_)
    clear hK K
    have hr1 : (((w.drew.alloc (.cells zc 78)).alloc (.cells zs 74)).setCells (w.heap.size + 1) 0 (row 121 (scell e.s))).rangeAt (w.heap.size + 1) 0 (row 121 (scell e.s)) := World.rangeAt_setCells_same _ _ _ _ (by rw [row_length]; exact hti.1)
    have hfA : ∀ i, ((w.drew.alloc (.cells zc 78)).alloc (.cells zs 74)).frozen? ⟨w.heap.size, i, none⟩ = false := fun i => (World.frozen?_alloc_past _ _ _ (by rw [World.size_alloc]; show w.heap.size < w.heap.size + 1; omega)).trans (fz_new w.drew zc 78 i)
    have hfB : ∀ i, ((w.drew.alloc (.cells zc 78)).alloc (.cells zs 74)).frozen? ⟨w.heap.size + 1, i, none⟩ = false := fun i => by
      have := fz_new (w.drew.alloc (.cells zc 78)) zs 74 i
      rw [World.size_alloc] at this
      exact this
    have hf1 : ∀ i, (((w.drew.alloc (.cells zc 78)).alloc (.cells zs 74)).setCells (w.heap.size + 1) 0 (row 121 (scell e.s))).frozen? ⟨w.heap.size + 1, i, none⟩ = false := fun i => by rw [World.frozen?_setCells]; exact hfB i
    have hf2 : ∀ i, (((w.drew.alloc (.cells zc 78)).alloc (.cells zs 74)).setCells (w.heap.size + 1) 0 (row 121 (scell e.s))).frozen? ⟨w.heap.size, i, none⟩ = false := fun i => by rw [World.frozen?_setCells]; exact hfA i
    clear hfA hfB
    have hB1 : Below w.heap.size w (((w.drew.alloc (.cells zc 78)).alloc (.cells zs 74)).setCells (w.heap.size + 1) 0 (row 121 (scell e.s))) := below_sets (by omega) _ _ _ hbA
    generalize (((w.drew.alloc (.cells zc 78)).alloc (.cells zs 74)).setCells (w.heap.size + 1) 0 (row 121 (scell e.s))) = XX at hHeld ht2 hr1 hf1 hf2 hB1 ⊢
    try simp only [Act.put, List.setIfInBounds_toArray, List.set_cons_zero, List.set_cons_succ]
    refine wpAnyH_ready (rs := [11]) (by kernel_rfl) (by simp) ?_
    refine AllReadyH.cons (o := { dst := none, op := Op.store 78 (Operand.tmp 7) (Operand.tmp 19), type := 0, pos := "end.go:70", after := #[{ on := 9, ground := Ground.data }, { on := 7, ground := Ground.data }, { on := 10, ground := Ground.chain }, { on := 0, ground := Ground.phase }, { on := 1, ground := Ground.phase }, { on := 2, ground := Ground.phase }, { on := 3, ground := Ground.phase }, { on := 4, ground := Ground.phase }, { on := 5, ground := Ground.phase }, { on := 6, ground := Ground.phase }, { on := 7, ground := Ground.phase }, { on := 8, ground := Ground.phase }, { on := 9, ground := Ground.phase }, { on := 10, ground := Ground.phase }], guard := none }) rfl (fun K hK => ?_) AllReadyH.nil
    rw [if_pos (by rfl)]
    refine wp_store_mid 78 (.tmp 7) (.tmp 19) rfl (w.heap.size) 0 (row 4 (ccell e.c)).toArray rfl rfl ht2 iC (row_one fun i _ => ccell_one _ i) ?_
    simp only [List.toList_toArray]
    refine hK.out _ _ ⟨World.rangeAt_setCells_apart hHeld.1 _ _ _ (.inl hebn.2), World.rangeAt_setCells_apart hHeld.2 _ _ _ (.inl hebn.2)⟩ (fun hHeld => ?_)
    clear hK K
    refine wpAnyH_done (by kernel_rfl) (NoPanic.normal ?_) _
    have hri : (XX.setCells (w.heap.size) 0 (row 4 (ccell e.c))).rangeAt (w.heap.size + 1) 0 (row 121 (scell e.s)) := World.rangeAt_setCells_apart hr1 _ _ _ (.inl (by omega))
    have hrr : (XX.setCells (w.heap.size) 0 (row 4 (ccell e.c))).rangeAt (w.heap.size) 0 (row 4 (ccell e.c)) := World.rangeAt_setCells_same _ _ _ _ (by simpa [row_length] using ht2)
    have hfi : ∀ i, (XX.setCells (w.heap.size) 0 (row 4 (ccell e.c))).frozen? ⟨w.heap.size + 1, i, none⟩ = false := fun i => by rw [World.frozen?_setCells]; exact hf1 i
    have hfr : ∀ i, (XX.setCells (w.heap.size) 0 (row 4 (ccell e.c))).frozen? ⟨w.heap.size, i, none⟩ = false := fun i => by rw [World.frozen?_setCells]; exact hf2 i
    have hXB : Below w.heap.size w (XX.setCells (w.heap.size) 0 (row 4 (ccell e.c))) := below_sets (by omega) _ _ _ hB1
    have hib : w.heap.size ≤ w.heap.size + 1 := by omega
    have hrb : w.heap.size ≤ w.heap.size := by omega
    have hne : w.heap.size + 1 ≠ w.heap.size := by omega
    clear hHeld hti hbA hebn dri drr hzs hzc ht1 ht2 iS iC hr1 hf1 hf2 hB1
    generalize (XX.setCells (w.heap.size) 0 (row 4 (ccell e.c))) = X at hri hrr hfi hfr hXB ⊢
    generalize w.heap.size + 1 = ib at hri hrr hfi hfr hib hrb hne ⊢
    obtain ⟨rb, hwb⟩ : ∃ q, w.heap.size = q := ⟨_, rfl⟩
    rw [hwb]
    rw [hwb] at hrr hfr hne
    have hrb : w.heap.size ≤ rb := by omega
    have HOB : Hid (Sx.Obj X w.heap.size ib e.s) := sobj_of_range HO.out.inv.s hri hfi hib
    have HCB : Hid (Cx.Obj X w.heap.size rb e.c) := cobj_of_range HO.out.inv.c hrr hfr hrb
    have HXB : Hid (Below w.heap.size w X) := hXB
    have HNE : Hid (ib ≠ rb) := hne
    clear hri hfi hrr hfr hib hrb hXB hne
    by_cases h0 : n < 0
    · have e1 : readF e n = 1 := if_pos h0
      have e2 : readB e n = { data := #[] } := if_neg (by rw [e1]; decide)
      have e3 : readS e n = e := if_neg (by rw [e1]; decide)
      have HE : Hid (readF e n = 1 ∧ readB e n = { data := #[] } ∧ readS e n = e) := ⟨e1, e2, e3⟩
      clear e1 e2 e3
      go_wp2_with (go_at_call 38; refine (Sx.take_no HOB.out n h0).mono ?_; rintro ex w2 ⟨rfl, ht2⟩)
      go_ret2
      refine ⟨?_, ?_⟩
      · rw [HE.out.1, HE.out.2.1]; rfl
      · rw [HE.out.2.2]
        exact Turn.below HO.out (HXB.out.trans (ht2.2.below (fun k hk => by rw [hk]; exact HOB.out.hs) HOB.out.le))
    · have hst := Sx.take_calls HOB.out n (by omega)
      have hlen : (strOfNums (Sx.takeL e.s n)).size = Sx.takeN e.s n := by rw [strOfNums_size]; simp [Sx.takeL]
      have hl60 := Sx.takeN_le e.s n
      obtain ⟨d, hd⟩ : ∃ d, strOfNums (Sx.takeL e.s n) = d := ⟨_, rfl⟩
      rw [hd] at hst hlen
      have HF : Hid (readF e n = Cx.getF e.c (d.size : Nat)) := by show _ = _; rw [hlen]; exact if_neg h0
      have HD : Hid (strOfNums (Sx.takeL e.s n) = d ∧ d.size = Sx.takeN e.s n) := ⟨hd, hlen⟩
      have hrd : ∀ w2, Sx.Turned X w2 w.heap.size ib (Sx.takeS e.s n) → Calls Tryz.prog 39 #[.pointer (some ⟨rb, 0, none⟩), .int .i64 (d.size : Int)] w2 fun ex w3 => ex = .returned (.tuple #[.int .i64 (Cx.getN e.c (d.size : Nat)), errV (Cx.getF e.c (d.size : Nat))]) ∧ Cx.Turned w2 w3 w.heap.size rb (Cx.getS e.c (d.size : Nat)) := fun w2 ht => Cx.read_calls (HCB.out.off ht.2 (fun e' => HNE.out e'.symm)) _
      have hd60 : d.size ≤ 60 := by omega
      clear hd hlen hl60
      generalize Cx.getN e.c (d.size : Nat) = gn at *
      generalize hff : Cx.getF e.c (d.size : Nat) = ff at *
      have HG : Hid (Cx.getF e.c (d.size : Nat) = ff) := hff
      clear hff
      by_cases h1 : ff = 0
      · subst h1
        rw [errV_0] at hrd
        have HFN : Hid (∀ w2 w3, Sx.Turned X w2 w.heap.size ib (Sx.takeS e.s n) → Cx.Turned w2 w3 w.heap.size rb (Cx.getS e.c (d.size : Nat)) → ∃ W4 W5, Hid (W4 = w3.setCells eb 125 (row 121 (scell (Sx.takeS e.s n)))) ∧ Hid (W5 = W4.setCells eb 246 (row 4 (ccell (Cx.getS e.c (d.size : Nat))))) ∧ w3.rangeAt ib 0 (row 121 (scell (Sx.takeS e.s n))) ∧ w3.rangeAt rb 0 (row 4 (ccell (Cx.getS e.c (d.size : Nat)))) ∧ w3.there eb 125 121 ∧ W4.there eb 246 4 ∧ Turn w W5 B eb vl vc (readS e n)) := by
          show ∀ w2 w3, _ → _ → _
          intro w2 w3 t2 t3
          have := read_end HO.out HXB.out HOB.out.hs HCB.out.hs HNE.out t2 t3 (by rw [HF.out]) HD.out.2
          exact ⟨_, _, rfl, rfl, this.1.1, this.1.2.1, this.1.2.2.1, this.1.2.2.2, this.2⟩
        have hst' : Calls Tryz.prog 38 #[.pointer (some ⟨ib, 0, none⟩), .int .i64 n] X fun ex w' => ex = .returned (.tuple #[.string d, .nilIface]) ∧ Sx.Turned X w' w.heap.size ib (Sx.takeS e.s n) := hst
        clear hst
        generalize hgs : Sx.takeS e.s n = s' at hst' hrd HFN
        generalize hgc : Cx.getS e.c (d.size : Nat) = c' at hrd HFN
        clear hgs hgc
        go_wp2_with (first | (go_at_call 38; refine hst'.mono ?_; rintro ex w2 ⟨rfl, ht2⟩; have hr2 := hrd w2 ht2; clear hst' hrd) | (go_at_call 39; refine hr2.mono ?_; rintro ex w3 ⟨rfl, ht3⟩; obtain ⟨W4, W5, HW4, HW5, hn1, hn2, hn3, hn4, hn5⟩ := HFN.out w2 w3 ht2 ht3; clear hr2 HFN) | (refine row_load_op (n := 121) (f := scell s') (ty := 74) rfl (.tmp 6) rfl ib 0 rfl hn1 (by kernel_rfl) (by kernel_rfl) ?_) | (refine row_load_op (n := 4) (f := ccell c') (ty := 78) rfl (.tmp 7) rfl rb 0 rfl hn2 (by kernel_rfl) (by kernel_rfl) ?_) | (refine row_store_to (n := 121) (f := scell s') (ty := 74) rfl (.tmp 42) (.tmp 39) rfl eb 125 rfl rfl hn3 (by kernel_rfl) (fun i => scell_one _ i) HW4 ?_) | (refine row_store_to (n := 4) (f := ccell c') (ty := 78) rfl (.tmp 44) (.tmp 40) rfl eb 246 rfl rfl hn4 (by kernel_rfl) (fun i => ccell_one _ i) HW5 ?_))
        go_ret2
        refine ⟨?_, hn5⟩
        have e1 : readF e n = 0 := HF.out
        rw [e1, show readB e n = strOfNums (Sx.takeL e.s n) from if_pos e1, HD.out.1]
        rfl
      · have e1 : readF e n = ff := HF.out
        have HE : Hid (readF e n = ff ∧ readB e n = { data := #[] } ∧ readS e n = e) := ⟨e1, if_neg (by rw [e1]; exact h1), if_neg (by rw [e1]; exact h1)⟩
        clear e1
        rw [errV_f h1] at hrd
        go_wp2_with (first | (go_at_call 38; refine hst.mono ?_; rintro ex w2 ⟨rfl, ht2⟩; have hr2 := hrd w2 ht2) | (go_at_call 39; refine hr2.mono ?_; rintro ex w3 ⟨rfl, ht3⟩))
        go_ret2
        refine ⟨?_, ?_⟩
        · rw [HE.out.1, HE.out.2.1, errV_f h1]; rfl
        · rw [HE.out.2.2]
          have b2 := HXB.out.trans (ht2.2.below (fun k hk => by rw [hk]; exact HOB.out.hs) HOB.out.le)
          exact Turn.below HO.out (b2.trans (ht3.2.below (fun k hk => by rw [hk]; exact HCB.out.hs) b2.size))
end Go.Proofs.YtegelodkopommaaGreatDoor
