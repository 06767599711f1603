/- What the laws of package run need. -/
import Derived.Test.YtdokgalidhmbbaaGreatDoorHK
import Derived.Test.YtdokgalidhmbbaaGreatDoorHZB
set_option linter.unusedVariables false
set_option linter.unusedSimpArgs false
set_option maxRecDepth 100000
set_option maxHeartbeats 8000000
namespace Go.Proofs.YtdokgalidhmbbaaGreatDoor.Ez
open Go.RowKit Go.Lib Go.Sort


open Sx (bat)
variable {pz : Nat} {Qz : Nat → Option Value}

theorem run_tail60 (X : World) (eb q : Nat) (hq : q ≤ 60) : (Instr.sliceAt 96 (.pointer (some ⟨eb, pz, none⟩)) (some (.int .i64 (q : Int))) none none).run Tryz.prog X = .ok (.slice (some ⟨eb, offP pz q, none⟩) (60 - q) (60 - q)) X := by
  have hl : Tryz.prog.arrayLen 96 = 60 := by kernel_rfl
  have he : (sizeOf (Tryz.prog.elem 96)).run Tryz.prog X = .ok 1 X := by kernel_rfl
  rw [run_sliceAt_array_l X 96 ⟨eb, pz, none⟩ (by kernel_rfl) .i64 (q : Int) (by omega) (by rw [hl]; omega), he]
  simp only [Result.andThen, slicedAt, hl, offP, Addr.add_lit]
  by_cases e : 60 = q
  · subst e
    simp
  · have e2 : ¬ 60 = (q : Int).toNat := by omega
    rw [if_neg e2, if_neg e]
    simp
theorem TurnP.wrote {w W w' : World} {B eb D : Nat} {vl vc : Value} {e : En} (h : EP pz Qz w B eb vl vc e) {b : ByteArray} (hf : e.d.size + b.size ≤ 60) (hD : D = pz + e.d.size) (hW : ∀ p : Addr, W.cell? p = w.cell? p) (hWf : ∀ p : Addr, W.frozen? p = w.frozen? p) (hWo : Off (fun _ => False) w W)
    (hw : w' = (W.setCells eb D (bcs b)).setCell ⟨eb, pz + 60, none⟩ (.int .i64 ((e.d ++ b).size : Int))) : TurnP pz Qz w w' B eb vl vc (writeS e b) := by
  have hi := h.inv.write b
  have hs : writeS e b = { e with d := e.d ++ b } := by unfold writeS; rw [if_neg (by omega)]
  rw [hs] at hi ⊢
  subst hw
  have hthere : ∀ j, j < (bcs b).length → (W.cell? ⟨eb, D + j, none⟩).isSome = true := fun j hj => by
    rw [bcs_length] at hj
    rw [hW, hD, Nat.add_assoc, h.cl _ (by omega)]; rfl
  have oW : Off (fun k => k = eb) w (W.setCells eb D (bcs b)) := (hWo.mono fun _ _ h => h.elim).trans (off_sets eb (bcs b) D W)
  have oF : Off (fun k => k = eb) w ((W.setCells eb D (bcs b)).setCell ⟨eb, pz + 60, none⟩ (.int .i64 ((e.d ++ b).size : Int))) := oW.setCell (a := ⟨eb, pz + 60, none⟩) rfl _
  refine ⟨vl, vc, ⟨hi, fun i hi => ?_, fun i => ?_, fun i hi => ?_, h.hs, oF.row h.ld (fun k hk e' => by subst e'; exact h.ap.1 hk), oF.row h.cm (fun k hk e' => by subst e'; exact h.ap.2 hk), h.ap⟩, oF.mono fun k _ hk => .inl hk, fun k hk => .inl hk⟩
  · by_cases e1 : i = 60
    · subst e1
      refine World.cell?_setCell_same _ _ _ (show (W.setCells eb D (bcs b)).cell? ⟨eb, pz + 60, none⟩ = some (ecell e vl vc 60) from ?_)
      rw [World.cell?_setCells_out eb (bcs b) D W _ (fun _ _ => .inr (by rw [bcs_length]; show D + b.size ≤ pz + 60; omega)), hW]
      exact h.cl 60 (by omega)
    · rw [World.cell?_setCell_other _ _ _ _ (fun e' => by injection e' with _ e' _; omega)]
      by_cases e2 : 60 < i
      · rw [ecell_d e2, World.cell?_setCells_out eb (bcs b) D W _ (fun _ _ => by rw [bcs_length]; show pz + i < D ∨ D + b.size ≤ pz + i; omega), hW]
        exact h.cl i hi
      · have hi60 : i < 60 := by omega
        rw [ecell_out hi60]
        by_cases e3 : i < e.d.size
        · rw [bat_app_l e3, World.cell?_setCells_out eb (bcs b) D W _ (fun _ _ => .inl (by show pz + i < D; omega)), hW]
          exact h.out i hi60
        · rw [bat_app_r (by omega)]
          by_cases e4 : i - e.d.size < b.size
          · have hj : i - e.d.size < (bcs b).length := by rw [bcs_length]; exact e4
            have h1 := World.cell?_setCells_in eb (bcs b) D W hthere (i - e.d.size) hj
            rw [show D + (i - e.d.size) = pz + i by omega] at h1
            rw [h1, ← List.getElem?_eq_getElem hj, bcs_get e4]
          · rw [World.cell?_setCells_out eb (bcs b) D W _ (fun _ _ => .inr (by rw [bcs_length]; show _ ≤ pz + i; omega)), hW, h.out i hi60, bat_none (by omega), bat_none (by omega)]
  · rw [World.frozen?_setCell, World.frozen?_setCells, hWf]
    exact h.fz i
  · rw [World.cell?_setCell_other _ _ _ _ (fun e' => by injection e' with _ e' _; omega), World.cell?_setCells_out eb (bcs b) D W _ (fun _ _ => by rw [bcs_length]; show i < D ∨ D + b.size ≤ i; omega), hW]
    exact h.rs i hi
set_option maxRecDepth 100000 in
set_option maxHeartbeats 4000000 in
theorem write_no {w : World} {B eb : Nat} {vl vc : Value} {e : En} (h : EP pz Qz w B eb vl vc e) (b : ByteArray) (hl : b.size ≤ 140737488351232) (hf : 60 < e.d.size + b.size) : Calls Tryz.prog 96 #[.pointer (some ⟨eb, pz, none⟩), .string b] w fun ex w' => ex = .returned (.iface 133 (.int .i64 4)) ∧ w' = w := by
  have c60 := h.cl 60 (by omega)
  rw [ecell_wr] at c60
  have d60 := h.inv.d60
  have g1 : (60 : Int) - (e.d.size : Int) < (b.size : Int) := by omega
  clear h
  generalize e.d.size = D at *
  go_enter Tryz.func96, Tryz.ntmps96
  go_wp2_with fail
  go_ret
  exact ⟨rfl, rfl⟩
set_option maxRecDepth 100000 in
set_option maxHeartbeats 4000000 in
theorem write_yes {w : World} {B eb : Nat} {vl vc : Value} {e : En} (h : EP pz Qz w B eb vl vc e) (b : ByteArray) (hf : e.d.size + b.size ≤ 60) : Calls Tryz.prog 96 #[.pointer (some ⟨eb, pz, none⟩), .string b] w fun ex w' => ex = .returned .nilIface ∧ TurnP pz Qz w w' B eb vl vc (writeS e b) := by
  have HO : Hid (EP pz Qz w B eb vl vc e) := h
  have c60 := h.cl 60 (by omega)
  rw [ecell_wr] at c60
  have d60 := h.inv.d60
  have g1 : ¬ (60 : Int) - (e.d.size : Int) < (b.size : Int) := by omega
  obtain ⟨D0, hD0⟩ : ∃ D0, D0 = pz + e.d.size := ⟨_, rfl⟩
  have HT : Hid (∀ X : World, X = (w.drew.setCells eb D0 (bcs b)).setCell ⟨eb, pz + 60, none⟩ (.int .i64 ((e.d.size : Int) + (b.size : Int))) → TurnP pz Qz w X B eb vl vc (writeS e b)) := by
    show ∀ X, _ → _
    intro X hX
    refine TurnP.wrote h hf hD0 (W := w.drew) (fun _ => rfl) (fun _ => rfl) ⟨rfl, rfl, rfl, Nat.le_refl _, fun _ _ _ => rfl⟩ ?_
    rw [hX, ByteArray.size_append]
    simp
  have hz : ∀ i, w.drew.frozen? ⟨eb, i, none⟩ = false := h.fz
  have hth : w.drew.there eb D0 b.size := fun j hj => ⟨by rw [hD0, Nat.add_assoc, show w.drew.cell? ⟨eb, pz + (e.d.size + j), none⟩ = _ from h.cl _ (by omega)]; rfl, h.fz _⟩
  have HS : Hid (∀ X, (Instr.sliceAt 96 (.pointer (some ⟨eb, pz, none⟩)) (some (.int .i64 (e.d.size : Int))) none none).run Tryz.prog X = .ok (.slice (some ⟨eb, offP pz e.d.size, none⟩) (60 - e.d.size) (60 - e.d.size)) X) := fun X => run_tail60 X eb e.d.size d60
  have hcp : ∀ ty, (Builtin.copy_ #[37, 9] ty #[.slice (some ⟨eb, offP pz e.d.size, none⟩) (60 - e.d.size) (60 - e.d.size), .string b]).run Tryz.prog w.drew = .ok (.int .i64 (b.size : Int)) (w.drew.setCells eb D0 (bcs b)) := by
    intro ty
    by_cases e6 : e.d.size = 60
    · have hb0 : b.size = 0 := by omega
      have hn : bcs b = [] := List.eq_nil_of_length_eq_zero (by rw [bcs_length]; exact hb0)
      have := run_copy_str w.drew ty eb (offP pz e.d.size) (60 - e.d.size) (60 - e.d.size) b (by omega) (fun j hj => by omega)
      rw [hn] at this ⊢
      exact this
    · have e7 : offP pz e.d.size = D0 := by unfold offP; rw [if_neg (by omega), hD0]
      rw [e7]
      exact run_copy_str w.drew ty eb D0 _ _ b (by omega) hth
  have d60d : w.drew.cell? ⟨eb, pz + 60, none⟩ = some (.int .i64 (e.d.size : Int)) := c60
  have k60 : (w.drew.setCells eb D0 (bcs b)).cell? ⟨eb, pz + 60, none⟩ = some (.int .i64 (e.d.size : Int)) := by
    rw [World.cell?_setCells_out eb (bcs b) D0 w.drew _ (fun _ _ => .inr (by rw [bcs_length]; show D0 + b.size ≤ pz + 60; omega))]
    exact c60
  have kf : (w.drew.setCells eb D0 (bcs b)).frozen? ⟨eb, pz + 60, none⟩ = false := by rw [World.frozen?_setCells]; exact h.fz _
  have u1 := Sx.wrap_small ((e.d.size : Int) + (b.size : Int)) (by omega) (by omega)
  have HC : Hid (∀ ty, (Builtin.copy_ #[37, 9] ty #[.slice (some ⟨eb, offP pz e.d.size, none⟩) (60 - e.d.size) (60 - e.d.size), .string b]).run Tryz.prog w.drew = .ok (.int .i64 (b.size : Int)) (w.drew.setCells eb D0 (bcs b))) := hcp
  have hsl := HS.out
  clear h hth hcp HS hz hD0
  generalize w.drew.setCells eb D0 (bcs b) = Wc at *
  generalize e.d.size = D at *
  go_enter Tryz.func96, Tryz.ntmps96
  go_wp2_with fail
  go_region_law (refine step_copy (by rfl) (.tmp 25) (.tmp 26) (by rfl) (by rfl) (by rfl) (HC.out _) ?_)
  all_goals go_wp2_with fail
  all_goals go_ret
  all_goals exact ⟨rfl, HT.out _ rfl⟩
theorem write_calls {w : World} {B eb : Nat} {vl vc : Value} {e : En} (h : EP pz Qz w B eb vl vc e) (b : ByteArray) (hl : b.size ≤ 140737488351232) : Calls Tryz.prog 96 #[.pointer (some ⟨eb, pz, none⟩), .string b] w fun ex w' => ex = .returned (errV (writeF e b)) ∧ TurnP pz Qz w w' B eb vl vc (writeS e b) := by
  by_cases hf : 60 < e.d.size + b.size
  · have e1 : writeF e b = 4 := if_pos hf
    have e2 : writeS e b = e := if_pos hf
    rw [e1, e2, errV_f (by decide)]
    exact (write_no h b hl hf).mono fun ex w' ⟨h1, h2⟩ => ⟨h1, by rw [h2]; exact TurnP.same h⟩
  · have e1 : writeF e b = 0 := if_neg hf
    rw [e1, errV_0]
    exact write_yes h b (by omega)

end Go.Proofs.YtdokgalidhmbbaaGreatDoor.Ez
namespace Go.Proofs.YtdokgalidhmbbaaGreatDoor.Ez
open Go.RowKit Go.Lib Go.Sort


open Sx (bat)
variable {pz : Nat} {Qz : Nat → Option Value}

theorem EP.range_in {w : World} {B eb : Nat} {vl vc : Value} {e : En} (h : EP pz Qz w B eb vl vc e) : w.rangeAt eb (pz + 125) (row 121 (scell e.s)) := row_range fun i hi => by rw [Nat.add_assoc, h.cl _ (by omega), ecell_in hi]
theorem EP.range_room {w : World} {B eb : Nat} {vl vc : Value} {e : En} (h : EP pz Qz w B eb vl vc e) : w.rangeAt eb (pz + 246) (row 4 (ccell e.c)) := row_range fun i hi => by rw [Nat.add_assoc, h.cl _ (by omega), ecell_room hi]
theorem EP.there {w : World} {B eb : Nat} {vl vc : Value} {e : En} (h : EP pz Qz w B eb vl vc e) (o n : Nat) (hn : o + n ≤ 251) : w.there eb (pz + o) n := fun j hj => ⟨by rw [Nat.add_assoc, h.cl _ (by omega)]; rfl, h.fz _⟩
theorem read_end {w X w2 w3 : World} {B eb ib rb : Nat} {vl vc : Value} {e : En} {n : Int} {k : Nat} (h : EP pz Qz w B eb vl vc e) (hX : Below w.heap.size w X) (hib : w.heap.size ≤ ib) (hrb : w.heap.size ≤ rb) (hne : ib ≠ rb)
    (t2 : Sx.Turned X w2 w.heap.size ib (Sx.takeS e.s n)) (t3 : Cx.Turned w2 w3 w.heap.size rb (Cx.getS e.c (k : Nat))) (hf : readF e n = 0) (hk : k = Sx.takeN e.s n) :
    (w3.rangeAt ib 0 (row 121 (scell (Sx.takeS e.s n))) ∧ w3.rangeAt rb 0 (row 4 (ccell (Cx.getS e.c (k : Nat)))) ∧ w3.there eb (pz + 125) 121 ∧ (w3.setCells eb (pz + 125) (row 121 (scell (Sx.takeS e.s n)))).there eb (pz + 246) 4) ∧ TurnP pz Qz w ((w3.setCells eb (pz + 125) (row 121 (scell (Sx.takeS e.s n)))).setCells eb (pz + 246) (row 4 (ccell (Cx.getS e.c (k : Nat))))) B eb vl vc (readS e n) := by
  have hi := h.inv.read n
  have hs : readS e n = { e with s := Sx.takeS e.s n, c := Cx.getS e.c (k : Nat) } := by unfold readS; rw [if_pos hf, hk]
  rw [hs] at hi ⊢
  have b2 : Below w.heap.size w w2 := hX.trans (t2.2.below (fun j hj => by rw [hj]; exact hib) hX.size)
  have b3 : Below w.heap.size w w3 := b2.trans (t3.2.below (fun j hj => by rw [hj]; exact hrb) b2.size)
  have h3 := h.below b3
  have s3 : Sx.Obj w3 w.heap.size ib (Sx.takeS e.s n) := t2.1.off t3.2 hne
  refine ⟨⟨range_of_sobj s3, range_of_cobj t3.1, h3.there 125 121 (by omega), World.there_setCells (h3.there 246 4 (by omega)) _ _ _⟩, ?_⟩
  generalize Sx.takeS e.s n = s' at *
  generalize Cx.getS e.c (k : Nat) = c' at *
  have oF : Off (fun j => j = eb) w3 ((w3.setCells eb (pz + 125) (row 121 (scell s'))).setCells eb (pz + 246) (row 4 (ccell c'))) := (off_sets2 eb _ _ _).trans (off_sets2 eb _ _ _)
  refine ⟨vl, vc, ⟨hi, fun i hi => ?_, fun i => ?_, fun i hi => ?_, h.hs, oF.row h3.ld (fun k hk e' => by subst e'; exact h.ap.1 hk), oF.row h3.cm (fun k hk e' => by subst e'; exact h.ap.2 hk), h.ap⟩, (Off.of_below b3).trans (oF.mono fun j _ hj => .inl hj), fun j hj => .inl hj⟩
  · by_cases a1 : i < 125 ∨ 250 ≤ i
    · rw [ecell_sc a1, World.cell?_setCells_out eb _ (pz + 246) _ _ (fun _ _ => by rw [row_length]; show pz + i < pz + 246 ∨ pz + 246 + 4 ≤ pz + i; omega), World.cell?_setCells_out eb _ (pz + 125) _ _ (fun _ _ => by rw [row_length]; show pz + i < pz + 125 ∨ pz + 125 + 121 ≤ pz + i; omega)]
      exact h3.cl i hi
    · by_cases a2 : i < 246
      · obtain ⟨j, rfl⟩ : ∃ j, i = 125 + j := ⟨i - 125, by omega⟩
        rw [World.cell?_setCells_out eb _ (pz + 246) _ _ (fun _ _ => by rw [row_length]; show pz + (125 + j) < pz + 246 ∨ pz + 246 + 4 ≤ pz + (125 + j); omega), ecell_in (by omega), ← Nat.add_assoc]
        exact cell_row (World.rangeAt_setCells_same _ _ _ _ (by rw [row_length]; exact h3.there 125 121 (by omega))) (by omega)
      · obtain ⟨j, rfl⟩ : ∃ j, i = 246 + j := ⟨i - 246, by omega⟩
        rw [ecell_room (by omega), ← Nat.add_assoc]
        exact cell_row (World.rangeAt_setCells_same _ _ _ _ (by rw [row_length]; exact World.there_setCells (h3.there 246 4 (by omega)) _ _ _)) (by omega)
  · rw [World.frozen?_setCells, World.frozen?_setCells]
    exact h3.fz i
  · rw [World.cell?_setCells_out eb _ (pz + 246) _ _ (fun _ _ => by rw [row_length]; show i < pz + 246 ∨ pz + 246 + 4 ≤ i; omega), World.cell?_setCells_out eb _ (pz + 125) _ _ (fun _ _ => by rw [row_length]; show i < pz + 125 ∨ pz + 125 + 121 ≤ i; omega)]
    exact h3.rs i hi
set_option maxRecDepth 100000 in
set_option maxHeartbeats 4000000 in
theorem read_calls {w : World} {B eb : Nat} {vl vc : Value} {e : En} (h : EP pz Qz w B eb vl vc e) (n : Int) : Calls Tryz.prog 136 #[.pointer (some ⟨eb, pz, none⟩), .int .i64 n] w fun ex w' => ex = .returned (.tuple #[.string (readB e n), errV (readF e n)]) ∧ TurnP pz Qz w w' B eb vl vc (readS e n) := by
  have HO : Hid (EP pz Qz w B eb vl vc e) := h
  obtain ⟨SD, us, sd, is⟩ := desc_row 100 121 (by kernel_rfl) (by kernel_rfl) (scell e.s)
  obtain ⟨CD, uc, cd, ic⟩ := desc_row 102 4 (by kernel_rfl) (by kernel_rfl) (ccell e.c)
  have US : Hid (Tryz.prog.underlying 100 = some SD) := us
  have UC : Hid (Tryz.prog.underlying 102 = some CD) := uc
  have IS : Hid ((Tryz.prog.info? 100).map (·.size) = some (row 121 (scell e.s)).length) := is
  have IC : Hid ((Tryz.prog.info? 102).map (·.size) = some (row 4 (ccell e.c)).length) := ic
  have SDH : Hid (SD.isRow = true) := sd
  have CDH : Hid (CD.isRow = true) := cd
  have dri : w.drew.rangeAt eb (pz + 125) (row 121 (scell e.s)) := h.range_in
  have drr : w.drew.rangeAt eb (pz + 246) (row 4 (ccell e.c)) := h.range_room
  have hzs := zero_stream2
  have hzc := zero_credit
  generalize hZS : (row 121 (scell Sx.newS)).toArray = zs at hzs
  generalize hZC : (row 4 (ccell ⟨0, 0, 0, 0⟩)).toArray = zc at hzc
  have HZS : Hid ((row 121 (scell Sx.newS)).toArray = zs ∧ (row 4 (ccell ⟨0, 0, 0, 0⟩)).toArray = zc) := ⟨hZS, hZC⟩
  clear h us uc is ic sd cd hZS hZC
  go_enter Tryz.func136, Tryz.ntmps136
  go_wp2_with fail
  refine wp_region_noPanic ?_
  refine wp_region_held_drew (S := fun w' => w'.rangeAt eb (pz + 125) (row 121 (scell e.s)) ∧ w'.rangeAt eb (pz + 246) (row 4 (ccell e.c))) (by kernel_rfl) ⟨dri, drr⟩ (fun hHeld => ?_)
  refine wpAnyH_take (i := 0) (oi := { dst := some 12, op := Op.move (Operand.tmp 0), type := 108, pos := "end.go:70", after := #[], guard := none }) (v := (.pointer (some ⟨eb, pz, none⟩))) rfl (by kernel_rfl) (by kernel_rfl) (by kernel_rfl) (fun _ _ _ h => h) (Or.inl ⟨by rfl, ?_⟩) (by assumption) ?_
  · intro wx hSw
    go_simp
  try simp only [Act.put, List.setIfInBounds_toArray, List.set_cons_zero, List.set_cons_succ]
  refine wpAnyH_take (i := 1) (oi := { dst := some 13, op := Op.nilCheck (Operand.tmp 12), type := 0, pos := "end.go:70", after := #[{ on := 0, ground := Ground.data }], guard := none }) (v := (.pointer (some ⟨eb, pz, none⟩))) rfl (by kernel_rfl) (by kernel_rfl) (by kernel_rfl) (fun _ _ _ h => h) (Or.inl ⟨by rfl, ?_⟩) (by assumption) ?_
  · intro wx hSw
    go_simp
  try simp only [Act.put, List.setIfInBounds_toArray, List.set_cons_zero, List.set_cons_succ]
  refine wpAnyH_take (i := 2) (oi := { dst := some 14, op := Op.fieldAddr 104 (Operand.tmp 13) 7, type := 0, pos := "end.go:70", after := #[{ on := 1, ground := Ground.data }], guard := none }) (v := (.pointer (some ⟨eb, pz + 125, none⟩))) rfl (by kernel_rfl) (by kernel_rfl) (by kernel_rfl) (fun _ _ _ h => h) (Or.inl ⟨by rfl, ?_⟩) (by assumption) ?_
  · intro wx hSw
    go_simp
  try simp only [Act.put, List.setIfInBounds_toArray, List.set_cons_zero, List.set_cons_succ]
  refine wpAnyH_take (i := 3) (oi := { dst := some 15, op := Op.load 100 (Operand.tmp 14), type := 100, pos := "end.go:70", after := #[{ on := 2, ground := Ground.data }], guard := none }) (v := .agg (row 121 (scell e.s)).toArray) rfl (by kernel_rfl) (by kernel_rfl) (by kernel_rfl) (fun _ _ _ h => h) (yieldsIf_load_mid (by rfl) 100 (.tmp 14) rfl eb (pz + 125) rfl (row 121 (scell e.s)) SD (fun _ h => h.1) US.out SDH.out IS.out) (by assumption) ?_
  try simp only [Act.put, List.setIfInBounds_toArray, List.set_cons_zero, List.set_cons_succ]
  refine wpAnyH_take (i := 4) (oi := { dst := some 16, op := Op.move (Operand.tmp 0), type := 108, pos := "end.go:70", after := #[], guard := none }) (v := (.pointer (some ⟨eb, pz, none⟩))) rfl (by kernel_rfl) (by kernel_rfl) (by kernel_rfl) (fun _ _ _ h => h) (Or.inl ⟨by rfl, ?_⟩) (by assumption) ?_
  · intro wx hSw
    go_simp
  try simp only [Act.put, List.setIfInBounds_toArray, List.set_cons_zero, List.set_cons_succ]
  refine wpAnyH_take (i := 5) (oi := { dst := some 17, op := Op.nilCheck (Operand.tmp 16), type := 0, pos := "end.go:70", after := #[{ on := 4, ground := Ground.data }], guard := none }) (v := (.pointer (some ⟨eb, pz, none⟩))) rfl (by kernel_rfl) (by kernel_rfl) (by kernel_rfl) (fun _ _ _ h => h) (Or.inl ⟨by rfl, ?_⟩) (by assumption) ?_
  · intro wx hSw
    go_simp
  try simp only [Act.put, List.setIfInBounds_toArray, List.set_cons_zero, List.set_cons_succ]
  refine wpAnyH_take (i := 6) (oi := { dst := some 18, op := Op.fieldAddr 104 (Operand.tmp 17) 8, type := 0, pos := "end.go:70", after := #[{ on := 5, ground := Ground.data }], guard := none }) (v := (.pointer (some ⟨eb, pz + 246, none⟩))) rfl (by kernel_rfl) (by kernel_rfl) (by kernel_rfl) (fun _ _ _ h => h) (Or.inl ⟨by rfl, ?_⟩) (by assumption) ?_
  · intro wx hSw
    go_simp
  try simp only [Act.put, List.setIfInBounds_toArray, List.set_cons_zero, List.set_cons_succ]
  refine wpAnyH_take (i := 7) (oi := { dst := some 19, op := Op.load 102 (Operand.tmp 18), type := 102, pos := "end.go:70", after := #[{ on := 6, ground := Ground.data }], guard := none }) (v := .agg (row 4 (ccell e.c)).toArray) rfl (by kernel_rfl) (by kernel_rfl) (by kernel_rfl) (fun _ _ _ h => h) (yieldsIf_load_mid (by rfl) 102 (.tmp 18) rfl eb (pz + 246) rfl (row 4 (ccell e.c)) CD (fun _ h => h.2) UC.out CDH.out IC.out) (by assumption) ?_
  try simp only [Act.put, List.setIfInBounds_toArray, List.set_cons_zero, List.set_cons_succ]
  refine wpAnyH_ready (rs := [8, 9]) (by kernel_rfl) (by simp) ?_
  refine AllReadyH.cons (o := { dst := some 6, op := Op.alloc 100, type := 0, pos := "end.go:70", after := #[], guard := none }) rfl (fun K hK => ?_) (AllReadyH.cons (o := { dst := some 7, op := Op.alloc 102, type := 0, pos := "end.go:70", after := #[], guard := none }) rfl (fun K hK => ?_) AllReadyH.nil)
  · go_simp
    refine hK.out _ (w.drew.alloc (.cells zs 100)) ⟨World.rangeAt_alloc hHeld.1 _, World.rangeAt_alloc hHeld.2 _⟩ (fun hHeld => ?_)
    clear hK K
    try simp only [Act.put, List.setIfInBounds_toArray, List.set_cons_zero, List.set_cons_succ]
    refine wpAnyH_ready (rs := [9]) (by kernel_rfl) (by simp) ?_
    refine AllReadyH.cons (o := { dst := some 7, op := Op.alloc 102, type := 0, pos := "end.go:70", after := #[], guard := none }) rfl (fun K hK => ?_) AllReadyH.nil
    go_simp
    refine hK.out _ ((w.drew.alloc (.cells zs 100)).alloc (.cells zc 102)) ⟨World.rangeAt_alloc hHeld.1 _, World.rangeAt_alloc hHeld.2 _⟩ (fun hHeld => ?_)
    clear hK K
    have hti : ((w.drew.alloc (.cells zs 100)).alloc (.cells zc 102)).there (w.heap.size) 0 121 ∧ ((w.drew.alloc (.cells zs 100)).alloc (.cells zc 102)).there (w.heap.size + 1) 0 4 := by
      obtain ⟨r1, r2⟩ := HZS.out
      subst r1 r2
      have q2 := there_row (w.drew.alloc (.cells (row 121 (scell Sx.newS)).toArray 100)) 102 4 (ccell ⟨0, 0, 0, 0⟩)
      rw [World.size_alloc] at q2
      have q1 := World.there_alloc (there_row w.drew 100 121 (scell Sx.newS)) (.cells (row 4 (ccell ⟨0, 0, 0, 0⟩)).toArray 102)
      exact ⟨q1, q2⟩
    have hbA : Below w.heap.size w ((w.drew.alloc (.cells zs 100)).alloc (.cells zc 102)) := (((Below.refl _ w).drew).alloc (Nat.le_refl _) _).alloc (by simp) _
    have ht1 : ((w.drew.alloc (.cells zs 100)).alloc (.cells zc 102)).there (w.heap.size) 0 (row 121 (scell e.s)).toArray.size := by rw [show (row 121 (scell e.s)).toArray.size = 121 by simp [row_length]]; exact hti.1
    have ht2 : (((w.drew.alloc (.cells zs 100)).alloc (.cells zc 102)).setCells (w.heap.size) 0 (row 121 (scell e.s))).there (w.heap.size + 1) 0 (row 4 (ccell e.c)).toArray.size := by rw [show (row 4 (ccell e.c)).toArray.size = 4 by simp [row_length]]; exact World.there_setCells hti.2 _ _ _
    have iS : (Tryz.prog.info? 100).map (·.size) = some (row 121 (scell e.s)).toArray.size := by rw [List.size_toArray]; exact IS.out
    have iC : (Tryz.prog.info? 102).map (·.size) = some (row 4 (ccell e.c)).toArray.size := by rw [List.size_toArray]; exact IC.out
    have hebn : eb ≠ w.heap.size ∧ eb ≠ w.heap.size + 1 := by have := HO.out.lt; omega
    try simp only [Act.put, List.setIfInBounds_toArray, List.set_cons_zero, List.set_cons_succ]
    refine wpAnyH_ready (rs := [10]) (by kernel_rfl) (by simp) ?_
    refine AllReadyH.cons (o := { dst := none, op := Op.store 100 (Operand.tmp 6) (Operand.tmp 15), type := 0, pos := "end.go:70", after := #[{ on := 8, ground := Ground.data }, { on := 3, ground := Ground.data }, { on := 0, ground := Ground.phase }, { on := 1, ground := Ground.phase }, { on := 2, ground := Ground.phase }, { on := 3, ground := Ground.phase }, { on := 4, ground := Ground.textOnly Departure.lateStores }, { on := 5, ground := Ground.textOnly Departure.lateStoresUnsure }, { on := 6, ground := Ground.textOnly Departure.lateStoresUnsure }, { on := 7, ground := Ground.phase }, { on := 8, ground := Ground.phase }, { on := 9, ground := Ground.phase }], guard := none }) rfl (fun K hK => ?_) AllReadyH.nil
    rw [if_pos (by rfl)]
    refine wp_store_mid 100 (.tmp 6) (.tmp 15) rfl (w.heap.size) 0 (row 121 (scell e.s)).toArray rfl rfl ht1 iS (row_one fun i _ => scell_one _ i) ?_
    simp only [List.toList_toArray]
    refine hK.out _ _ ⟨World.rangeAt_setCells_apart hHeld.1 _ _ _ (.inl hebn.1), World.rangeAt_setCells_apart hHeld.2 _ _ _ (.inl hebn.1)⟩ (fun hHeld => ?_)
    clear hK K
    have hr1 : (((w.drew.alloc (.cells zs 100)).alloc (.cells zc 102)).setCells (w.heap.size) 0 (row 121 (scell e.s))).rangeAt (w.heap.size) 0 (row 121 (scell e.s)) := World.rangeAt_setCells_same _ _ _ _ (by rw [row_length]; exact hti.1)
    have hfA : ∀ i, ((w.drew.alloc (.cells zs 100)).alloc (.cells zc 102)).frozen? ⟨w.heap.size, i, none⟩ = false := fun i => (World.frozen?_alloc_past _ _ _ (by rw [World.size_alloc]; show w.heap.size < w.heap.size + 1; omega)).trans (fz_new w.drew zs 100 i)
    have hfB : ∀ i, ((w.drew.alloc (.cells zs 100)).alloc (.cells zc 102)).frozen? ⟨w.heap.size + 1, i, none⟩ = false := fun i => by
      have := fz_new (w.drew.alloc (.cells zs 100)) zc 102 i
      rw [World.size_alloc] at this
      exact this
    have hf1 : ∀ i, (((w.drew.alloc (.cells zs 100)).alloc (.cells zc 102)).setCells (w.heap.size) 0 (row 121 (scell e.s))).frozen? ⟨w.heap.size, i, none⟩ = false := fun i => by rw [World.frozen?_setCells]; exact hfA i
    have hf2 : ∀ i, (((w.drew.alloc (.cells zs 100)).alloc (.cells zc 102)).setCells (w.heap.size) 0 (row 121 (scell e.s))).frozen? ⟨w.heap.size + 1, i, none⟩ = false := fun i => by rw [World.frozen?_setCells]; exact hfB i
    clear hfA hfB
    have hB1 : Below w.heap.size w (((w.drew.alloc (.cells zs 100)).alloc (.cells zc 102)).setCells (w.heap.size) 0 (row 121 (scell e.s))) := below_sets (by omega) _ _ _ hbA
    generalize (((w.drew.alloc (.cells zs 100)).alloc (.cells zc 102)).setCells (w.heap.size) 0 (row 121 (scell e.s))) = XX at hHeld ht2 hr1 hf1 hf2 hB1 ⊢
    try simp only [Act.put, List.setIfInBounds_toArray, List.set_cons_zero, List.set_cons_succ]
    refine wpAnyH_ready (rs := [11]) (by kernel_rfl) (by simp) ?_
    refine AllReadyH.cons (o := { dst := none, op := Op.store 102 (Operand.tmp 7) (Operand.tmp 19), type := 0, pos := "end.go:70", after := #[{ on := 9, ground := Ground.data }, { on := 7, ground := Ground.data }, { on := 10, ground := Ground.chain }, { on := 0, ground := Ground.phase }, { on := 1, ground := Ground.phase }, { on := 2, ground := Ground.phase }, { on := 3, ground := Ground.phase }, { on := 4, ground := Ground.phase }, { on := 5, ground := Ground.phase }, { on := 6, ground := Ground.phase }, { on := 7, ground := Ground.phase }, { on := 8, ground := Ground.phase }, { on := 9, ground := Ground.phase }, { on := 10, ground := Ground.phase }], guard := none }) rfl (fun K hK => ?_) AllReadyH.nil
    rw [if_pos (by rfl)]
    refine wp_store_mid 102 (.tmp 7) (.tmp 19) rfl (w.heap.size + 1) 0 (row 4 (ccell e.c)).toArray rfl rfl ht2 iC (row_one fun i _ => ccell_one _ i) ?_
    simp only [List.toList_toArray]
    refine hK.out _ _ ⟨World.rangeAt_setCells_apart hHeld.1 _ _ _ (.inl hebn.2), World.rangeAt_setCells_apart hHeld.2 _ _ _ (.inl hebn.2)⟩ (fun hHeld => ?_)
    clear hK K
    refine wpAnyH_done (by kernel_rfl) (NoPanic.normal ?_) _
    have hri : (XX.setCells (w.heap.size + 1) 0 (row 4 (ccell e.c))).rangeAt (w.heap.size) 0 (row 121 (scell e.s)) := World.rangeAt_setCells_apart hr1 _ _ _ (.inl (by omega))
    have hrr : (XX.setCells (w.heap.size + 1) 0 (row 4 (ccell e.c))).rangeAt (w.heap.size + 1) 0 (row 4 (ccell e.c)) := World.rangeAt_setCells_same _ _ _ _ (by simpa [row_length] using ht2)
    have hfi : ∀ i, (XX.setCells (w.heap.size + 1) 0 (row 4 (ccell e.c))).frozen? ⟨w.heap.size, i, none⟩ = false := fun i => by rw [World.frozen?_setCells]; exact hf1 i
    have hfr : ∀ i, (XX.setCells (w.heap.size + 1) 0 (row 4 (ccell e.c))).frozen? ⟨w.heap.size + 1, i, none⟩ = false := fun i => by rw [World.frozen?_setCells]; exact hf2 i
    have hXB : Below w.heap.size w (XX.setCells (w.heap.size + 1) 0 (row 4 (ccell e.c))) := below_sets (by omega) _ _ _ hB1
    have hib : w.heap.size ≤ w.heap.size := by omega
    have hrb : w.heap.size ≤ w.heap.size + 1 := by omega
    have hne : w.heap.size ≠ w.heap.size + 1 := by omega
    clear hHeld hti hbA hebn dri drr hzs hzc ht1 ht2 iS iC hr1 hf1 hf2 hB1
    generalize (XX.setCells (w.heap.size + 1) 0 (row 4 (ccell e.c))) = X at hri hrr hfi hfr hXB ⊢
    generalize w.heap.size + 1 = rb at hri hrr hfi hfr hib hrb hne ⊢
    obtain ⟨ib, hwb⟩ : ∃ q, w.heap.size = q := ⟨_, rfl⟩
    rw [hwb]
    rw [hwb] at hri hfi hne
    have hib : w.heap.size ≤ ib := by omega
    have HOB : Hid (Sx.Obj X w.heap.size ib e.s) := sobj_of_range HO.out.inv.s hri hfi hib
    have HCB : Hid (Cx.Obj X w.heap.size rb e.c) := cobj_of_range HO.out.inv.c hrr hfr hrb
    have HXB : Hid (Below w.heap.size w X) := hXB
    have HNE : Hid (ib ≠ rb) := hne
    clear hri hfi hrr hfr hib hrb hXB hne
    by_cases h0 : n < 0
    · have e1 : readF e n = 1 := if_pos h0
      have e2 : readB e n = { data := #[] } := if_neg (by rw [e1]; decide)
      have e3 : readS e n = e := if_neg (by rw [e1]; decide)
      have HE : Hid (readF e n = 1 ∧ readB e n = { data := #[] } ∧ readS e n = e) := ⟨e1, e2, e3⟩
      clear e1 e2 e3
      go_wp2_with (go_at_call 163; refine (Sx.take_no HOB.out n h0).mono ?_; rintro ex w2 ⟨rfl, ht2⟩)
      go_ret2
      refine ⟨?_, ?_⟩
      · rw [HE.out.1, HE.out.2.1]; rfl
      · rw [HE.out.2.2]
        exact TurnP.below HO.out (HXB.out.trans (ht2.2.below (fun k hk => by rw [hk]; exact HOB.out.hs) HOB.out.le))
    · have hst := Sx.take_calls HOB.out n (by omega)
      have hlen : (strOfNums (Sx.takeL e.s n)).size = Sx.takeN e.s n := by rw [strOfNums_size]; simp [Sx.takeL]
      have hl60 := Sx.takeN_le e.s n
      obtain ⟨d, hd⟩ : ∃ d, strOfNums (Sx.takeL e.s n) = d := ⟨_, rfl⟩
      rw [hd] at hst hlen
      have HF : Hid (readF e n = Cx.getF e.c (d.size : Nat)) := by show _ = _; rw [hlen]; exact if_neg h0
      have HD : Hid (strOfNums (Sx.takeL e.s n) = d ∧ d.size = Sx.takeN e.s n) := ⟨hd, hlen⟩
      have hrd : ∀ w2, Sx.Turned X w2 w.heap.size ib (Sx.takeS e.s n) → Calls Tryz.prog 164 #[.pointer (some ⟨rb, 0, none⟩), .int .i64 (d.size : Int)] w2 fun ex w3 => ex = .returned (.tuple #[.int .i64 (Cx.getN e.c (d.size : Nat)), errV (Cx.getF e.c (d.size : Nat))]) ∧ Cx.Turned w2 w3 w.heap.size rb (Cx.getS e.c (d.size : Nat)) := fun w2 ht => Cx.read_calls (HCB.out.off ht.2 (fun e' => HNE.out e'.symm)) _
      have hd60 : d.size ≤ 60 := by omega
      clear hd hlen hl60
      generalize Cx.getN e.c (d.size : Nat) = gn at *
      generalize hff : Cx.getF e.c (d.size : Nat) = ff at *
      have HG : Hid (Cx.getF e.c (d.size : Nat) = ff) := hff
      clear hff
      by_cases h1 : ff = 0
      · subst h1
        rw [errV_0] at hrd
        have HFN : Hid (∀ w2 w3, Sx.Turned X w2 w.heap.size ib (Sx.takeS e.s n) → Cx.Turned w2 w3 w.heap.size rb (Cx.getS e.c (d.size : Nat)) → ∃ W4 W5, Hid (W4 = w3.setCells eb (pz + 125) (row 121 (scell (Sx.takeS e.s n)))) ∧ Hid (W5 = W4.setCells eb (pz + 246) (row 4 (ccell (Cx.getS e.c (d.size : Nat))))) ∧ w3.rangeAt ib 0 (row 121 (scell (Sx.takeS e.s n))) ∧ w3.rangeAt rb 0 (row 4 (ccell (Cx.getS e.c (d.size : Nat)))) ∧ w3.there eb (pz + 125) 121 ∧ W4.there eb (pz + 246) 4 ∧ TurnP pz Qz w W5 B eb vl vc (readS e n)) := by
          show ∀ w2 w3, _ → _ → _
          intro w2 w3 t2 t3
          have := read_end HO.out HXB.out HOB.out.hs HCB.out.hs HNE.out t2 t3 (by rw [HF.out]) HD.out.2
          exact ⟨_, _, rfl, rfl, this.1.1, this.1.2.1, this.1.2.2.1, this.1.2.2.2, this.2⟩
        have hst' : Calls Tryz.prog 163 #[.pointer (some ⟨ib, 0, none⟩), .int .i64 n] X fun ex w' => ex = .returned (.tuple #[.string d, .nilIface]) ∧ Sx.Turned X w' w.heap.size ib (Sx.takeS e.s n) := hst
        clear hst
        generalize hgs : Sx.takeS e.s n = s' at hst' hrd HFN
        generalize hgc : Cx.getS e.c (d.size : Nat) = c' at hrd HFN
        clear hgs hgc
        go_wp2_with (first | (go_at_call 163; refine hst'.mono ?_; rintro ex w2 ⟨rfl, ht2⟩; have hr2 := hrd w2 ht2; clear hst' hrd) | (go_at_call 164; refine hr2.mono ?_; rintro ex w3 ⟨rfl, ht3⟩; obtain ⟨W4, W5, HW4, HW5, hn1, hn2, hn3, hn4, hn5⟩ := HFN.out w2 w3 ht2 ht3; clear hr2 HFN) | (refine row_load_op (n := 121) (f := scell s') (ty := 100) rfl (.tmp 6) rfl ib 0 rfl hn1 (by kernel_rfl) (by kernel_rfl) ?_) | (refine row_load_op (n := 4) (f := ccell c') (ty := 102) rfl (.tmp 7) rfl rb 0 rfl hn2 (by kernel_rfl) (by kernel_rfl) ?_) | (refine row_store_to (n := 121) (f := scell s') (ty := 100) rfl (.tmp 42) (.tmp 39) rfl eb (pz + 125) rfl rfl hn3 (by kernel_rfl) (fun i => scell_one _ i) HW4 ?_) | (refine row_store_to (n := 4) (f := ccell c') (ty := 102) rfl (.tmp 44) (.tmp 40) rfl eb (pz + 246) rfl rfl hn4 (by kernel_rfl) (fun i => ccell_one _ i) HW5 ?_))
        go_ret2
        refine ⟨?_, hn5⟩
        have e1 : readF e n = 0 := HF.out
        rw [e1, show readB e n = strOfNums (Sx.takeL e.s n) from if_pos e1, HD.out.1]
        rfl
      · have e1 : readF e n = ff := HF.out
        have HE : Hid (readF e n = ff ∧ readB e n = { data := #[] } ∧ readS e n = e) := ⟨e1, if_neg (by rw [e1]; exact h1), if_neg (by rw [e1]; exact h1)⟩
        clear e1
        rw [errV_f h1] at hrd
        go_wp2_with (first | (go_at_call 163; refine hst.mono ?_; rintro ex w2 ⟨rfl, ht2⟩; have hr2 := hrd w2 ht2) | (go_at_call 164; refine hr2.mono ?_; rintro ex w3 ⟨rfl, ht3⟩))
        go_ret2
        refine ⟨?_, ?_⟩
        · rw [HE.out.1, HE.out.2.1, errV_f h1]; rfl
        · rw [HE.out.2.2]
          have b2 := HXB.out.trans (ht2.2.below (fun k hk => by rw [hk]; exact HOB.out.hs) HOB.out.le)
          exact TurnP.below HO.out (b2.trans (ht3.2.below (fun k hk => by rw [hk]; exact HCB.out.hs) b2.size))
  · go_simp
    refine hK.out _ (w.drew.alloc (.cells zc 102)) ⟨World.rangeAt_alloc hHeld.1 _, World.rangeAt_alloc hHeld.2 _⟩ (fun hHeld => ?_)
    clear hK K
    try simp only [Act.put, List.setIfInBounds_toArray, List.set_cons_zero, List.set_cons_succ]
    refine wpAnyH_ready (rs := [8]) (by kernel_rfl) (by simp) ?_
    refine AllReadyH.cons (o := { dst := some 6, op := Op.alloc 100, type := 0, pos := "end.go:70", after := #[], guard := none }) rfl (fun K hK => ?_) AllReadyH.nil
    go_simp
    refine hK.out _ ((w.drew.alloc (.cells zc 102)).alloc (.cells zs 100)) ⟨World.rangeAt_alloc hHeld.1 _, World.rangeAt_alloc hHeld.2 _⟩ (fun hHeld => ?_)
    clear hK K
    have hti : ((w.drew.alloc (.cells zc 102)).alloc (.cells zs 100)).there (w.heap.size + 1) 0 121 ∧ ((w.drew.alloc (.cells zc 102)).alloc (.cells zs 100)).there (w.heap.size) 0 4 := by
      obtain ⟨r1, r2⟩ := HZS.out
      subst r1 r2
      have q2 := there_row (w.drew.alloc (.cells (row 4 (ccell ⟨0, 0, 0, 0⟩)).toArray 102)) 100 121 (scell Sx.newS)
      rw [World.size_alloc] at q2
      have q1 := World.there_alloc (there_row w.drew 102 4 (ccell ⟨0, 0, 0, 0⟩)) (.cells (row 121 (scell Sx.newS)).toArray 100)
      exact ⟨q2, q1⟩
    have hbA : Below w.heap.size w ((w.drew.alloc (.cells zc 102)).alloc (.cells zs 100)) := (((Below.refl _ w).drew).alloc (Nat.le_refl _) _).alloc (by simp) _
    have ht1 : ((w.drew.alloc (.cells zc 102)).alloc (.cells zs 100)).there (w.heap.size + 1) 0 (row 121 (scell e.s)).toArray.size := by rw [show (row 121 (scell e.s)).toArray.size = 121 by simp [row_length]]; exact hti.1
    have ht2 : (((w.drew.alloc (.cells zc 102)).alloc (.cells zs 100)).setCells (w.heap.size + 1) 0 (row 121 (scell e.s))).there (w.heap.size) 0 (row 4 (ccell e.c)).toArray.size := by rw [show (row 4 (ccell e.c)).toArray.size = 4 by simp [row_length]]; exact World.there_setCells hti.2 _ _ _
    have iS : (Tryz.prog.info? 100).map (·.size) = some (row 121 (scell e.s)).toArray.size := by rw [List.size_toArray]; exact IS.out
    have iC : (Tryz.prog.info? 102).map (·.size) = some (row 4 (ccell e.c)).toArray.size := by rw [List.size_toArray]; exact IC.out
    have hebn : eb ≠ w.heap.size + 1 ∧ eb ≠ w.heap.size := by have := HO.out.lt; omega
    try simp only [Act.put, List.setIfInBounds_toArray, List.set_cons_zero, List.set_cons_succ]
    refine wpAnyH_ready (rs := [10]) (by kernel_rfl) (by simp) ?_
    refine AllReadyH.cons (o := { dst := none, op := Op.store 100 (Operand.tmp 6) (Operand.tmp 15), type := 0, pos := "end.go:70", after := #[{ on := 8, ground := Ground.data }, { on := 3, ground := Ground.data }, { on := 0, ground := Ground.phase }, { on := 1, ground := Ground.phase }, { on := 2, ground := Ground.phase }, { on := 3, ground := Ground.phase }, { on := 4, ground := Ground.textOnly Departure.lateStores }, { on := 5, ground := Ground.textOnly Departure.lateStoresUnsure }, { on := 6, ground := Ground.textOnly Departure.lateStoresUnsure }, { on := 7, ground := Ground.phase }, { on := 8, ground := Ground.phase }, { on := 9, ground := Ground.phase }], guard := none }) rfl (fun K hK => ?_) AllReadyH.nil
    rw [if_pos (by rfl)]
    refine wp_store_mid 100 (.tmp 6) (.tmp 15) rfl (w.heap.size + 1) 0 (row 121 (scell e.s)).toArray rfl rfl ht1 iS (row_one fun i _ => scell_one _ i) ?_
    simp only [List.toList_toArray]
    refine hK.out _ _ ⟨World.rangeAt_setCells_apart hHeld.1 _ _ _ (.inl hebn.1), World.rangeAt_setCells_apart hHeld.2 _ _ _ (.inl hebn.1)⟩ (fun hHeld => ?_)
    clear hK K
    have hr1 : (((w.drew.alloc (.cells zc 102)).alloc (.cells zs 100)).setCells (w.heap.size + 1) 0 (row 121 (scell e.s))).rangeAt (w.heap.size + 1) 0 (row 121 (scell e.s)) := World.rangeAt_setCells_same _ _ _ _ (by rw [row_length]; exact hti.1)
    have hfA : ∀ i, ((w.drew.alloc (.cells zc 102)).alloc (.cells zs 100)).frozen? ⟨w.heap.size, i, none⟩ = false := fun i => (World.frozen?_alloc_past _ _ _ (by rw [World.size_alloc]; show w.heap.size < w.heap.size + 1; omega)).trans (fz_new w.drew zc 102 i)
    have hfB : ∀ i, ((w.drew.alloc (.cells zc 102)).alloc (.cells zs 100)).frozen? ⟨w.heap.size + 1, i, none⟩ = false := fun i => by
      have := fz_new (w.drew.alloc (.cells zc 102)) zs 100 i
      rw [World.size_alloc] at this
      exact this
    have hf1 : ∀ i, (((w.drew.alloc (.cells zc 102)).alloc (.cells zs 100)).setCells (w.heap.size + 1) 0 (row 121 (scell e.s))).frozen? ⟨w.heap.size + 1, i, none⟩ = false := fun i => by rw [World.frozen?_setCells]; exact hfB i
    have hf2 : ∀ i, (((w.drew.alloc (.cells zc 102)).alloc (.cells zs 100)).setCells (w.heap.size + 1) 0 (row 121 (scell e.s))).frozen? ⟨w.heap.size, i, none⟩ = false := fun i => by rw [World.frozen?_setCells]; exact hfA i
    clear hfA hfB
    have hB1 : Below w.heap.size w (((w.drew.alloc (.cells zc 102)).alloc (.cells zs 100)).setCells (w.heap.size + 1) 0 (row 121 (scell e.s))) := below_sets (by omega) _ _ _ hbA
    generalize (((w.drew.alloc (.cells zc 102)).alloc (.cells zs 100)).setCells (w.heap.size + 1) 0 (row 121 (scell e.s))) = XX at hHeld ht2 hr1 hf1 hf2 hB1 ⊢
    try simp only [Act.put, List.setIfInBounds_toArray, List.set_cons_zero, List.set_cons_succ]
    refine wpAnyH_ready (rs := [11]) (by kernel_rfl) (by simp) ?_
    refine AllReadyH.cons (o := { dst := none, op := Op.store 102 (Operand.tmp 7) (Operand.tmp 19), type := 0, pos := "end.go:70", after := #[{ on := 9, ground := Ground.data }, { on := 7, ground := Ground.data }, { on := 10, ground := Ground.chain }, { on := 0, ground := Ground.phase }, { on := 1, ground := Ground.phase }, { on := 2, ground := Ground.phase }, { on := 3, ground := Ground.phase }, { on := 4, ground := Ground.phase }, { on := 5, ground := Ground.phase }, { on := 6, ground := Ground.phase }, { on := 7, ground := Ground.phase }, { on := 8, ground := Ground.phase }, { on := 9, ground := Ground.phase }, { on := 10, ground := Ground.phase }], guard := none }) rfl (fun K hK => ?_) AllReadyH.nil
    rw [if_pos (by rfl)]
    refine wp_store_mid 102 (.tmp 7) (.tmp 19) rfl (w.heap.size) 0 (row 4 (ccell e.c)).toArray rfl rfl ht2 iC (row_one fun i _ => ccell_one _ i) ?_
    simp only [List.toList_toArray]
    refine hK.out _ _ ⟨World.rangeAt_setCells_apart hHeld.1 _ _ _ (.inl hebn.2), World.rangeAt_setCells_apart hHeld.2 _ _ _ (.inl hebn.2)⟩ (fun hHeld => ?_)
    clear hK K
    refine wpAnyH_done (by kernel_rfl) (NoPanic.normal ?_) _
    have hri : (XX.setCells (w.heap.size) 0 (row 4 (ccell e.c))).rangeAt (w.heap.size + 1) 0 (row 121 (scell e.s)) := World.rangeAt_setCells_apart hr1 _ _ _ (.inl (by omega))
    have hrr : (XX.setCells (w.heap.size) 0 (row 4 (ccell e.c))).rangeAt (w.heap.size) 0 (row 4 (ccell e.c)) := World.rangeAt_setCells_same _ _ _ _ (by simpa [row_length] using ht2)
    have hfi : ∀ i, (XX.setCells (w.heap.size) 0 (row 4 (ccell e.c))).frozen? ⟨w.heap.size + 1, i, none⟩ = false := fun i => by rw [World.frozen?_setCells]; exact hf1 i
    have hfr : ∀ i, (XX.setCells (w.heap.size) 0 (row 4 (ccell e.c))).frozen? ⟨w.heap.size, i, none⟩ = false := fun i => by rw [World.frozen?_setCells]; exact hf2 i
    have hXB : Below w.heap.size w (XX.setCells (w.heap.size) 0 (row 4 (ccell e.c))) := below_sets (by omega) _ _ _ hB1
    have hib : w.heap.size ≤ w.heap.size + 1 := by omega
    have hrb : w.heap.size ≤ w.heap.size := by omega
    have hne : w.heap.size + 1 ≠ w.heap.size := by omega
    clear hHeld hti hbA hebn dri drr hzs hzc ht1 ht2 iS iC hr1 hf1 hf2 hB1
    generalize (XX.setCells (w.heap.size) 0 (row 4 (ccell e.c))) = X at hri hrr hfi hfr hXB ⊢
    generalize w.heap.size + 1 = ib at hri hrr hfi hfr hib hrb hne ⊢
    obtain ⟨rb, hwb⟩ : ∃ q, w.heap.size = q := ⟨_, rfl⟩
    rw [hwb]
    rw [hwb] at hrr hfr hne
    have hrb : w.heap.size ≤ rb := by omega
    have HOB : Hid (Sx.Obj X w.heap.size ib e.s) := sobj_of_range HO.out.inv.s hri hfi hib
    have HCB : Hid (Cx.Obj X w.heap.size rb e.c) := cobj_of_range HO.out.inv.c hrr hfr hrb
    have HXB : Hid (Below w.heap.size w X) := hXB
    have HNE : Hid (ib ≠ rb) := hne
    clear hri hfi hrr hfr hib hrb hXB hne
    by_cases h0 : n < 0
    · have e1 : readF e n = 1 := if_pos h0
      have e2 : readB e n = { data := #[] } := if_neg (by rw [e1]; decide)
      have e3 : readS e n = e := if_neg (by rw [e1]; decide)
      have HE : Hid (readF e n = 1 ∧ readB e n = { data := #[] } ∧ readS e n = e) := ⟨e1, e2, e3⟩
      clear e1 e2 e3
      go_wp2_with (go_at_call 163; refine (Sx.take_no HOB.out n h0).mono ?_; rintro ex w2 ⟨rfl, ht2⟩)
      go_ret2
      refine ⟨?_, ?_⟩
      · rw [HE.out.1, HE.out.2.1]; rfl
      · rw [HE.out.2.2]
        exact TurnP.below HO.out (HXB.out.trans (ht2.2.below (fun k hk => by rw [hk]; exact HOB.out.hs) HOB.out.le))
    · have hst := Sx.take_calls HOB.out n (by omega)
      have hlen : (strOfNums (Sx.takeL e.s n)).size = Sx.takeN e.s n := by rw [strOfNums_size]; simp [Sx.takeL]
      have hl60 := Sx.takeN_le e.s n
      obtain ⟨d, hd⟩ : ∃ d, strOfNums (Sx.takeL e.s n) = d := ⟨_, rfl⟩
      rw [hd] at hst hlen
      have HF : Hid (readF e n = Cx.getF e.c (d.size : Nat)) := by show _ = _; rw [hlen]; exact if_neg h0
      have HD : Hid (strOfNums (Sx.takeL e.s n) = d ∧ d.size = Sx.takeN e.s n) := ⟨hd, hlen⟩
      have hrd : ∀ w2, Sx.Turned X w2 w.heap.size ib (Sx.takeS e.s n) → Calls Tryz.prog 164 #[.pointer (some ⟨rb, 0, none⟩), .int .i64 (d.size : Int)] w2 fun ex w3 => ex = .returned (.tuple #[.int .i64 (Cx.getN e.c (d.size : Nat)), errV (Cx.getF e.c (d.size : Nat))]) ∧ Cx.Turned w2 w3 w.heap.size rb (Cx.getS e.c (d.size : Nat)) := fun w2 ht => Cx.read_calls (HCB.out.off ht.2 (fun e' => HNE.out e'.symm)) _
      have hd60 : d.size ≤ 60 := by omega
      clear hd hlen hl60
      generalize Cx.getN e.c (d.size : Nat) = gn at *
      generalize hff : Cx.getF e.c (d.size : Nat) = ff at *
      have HG : Hid (Cx.getF e.c (d.size : Nat) = ff) := hff
      clear hff
      by_cases h1 : ff = 0
      · subst h1
        rw [errV_0] at hrd
        have HFN : Hid (∀ w2 w3, Sx.Turned X w2 w.heap.size ib (Sx.takeS e.s n) → Cx.Turned w2 w3 w.heap.size rb (Cx.getS e.c (d.size : Nat)) → ∃ W4 W5, Hid (W4 = w3.setCells eb (pz + 125) (row 121 (scell (Sx.takeS e.s n)))) ∧ Hid (W5 = W4.setCells eb (pz + 246) (row 4 (ccell (Cx.getS e.c (d.size : Nat))))) ∧ w3.rangeAt ib 0 (row 121 (scell (Sx.takeS e.s n))) ∧ w3.rangeAt rb 0 (row 4 (ccell (Cx.getS e.c (d.size : Nat)))) ∧ w3.there eb (pz + 125) 121 ∧ W4.there eb (pz + 246) 4 ∧ TurnP pz Qz w W5 B eb vl vc (readS e n)) := by
          show ∀ w2 w3, _ → _ → _
          intro w2 w3 t2 t3
          have := read_end HO.out HXB.out HOB.out.hs HCB.out.hs HNE.out t2 t3 (by rw [HF.out]) HD.out.2
          exact ⟨_, _, rfl, rfl, this.1.1, this.1.2.1, this.1.2.2.1, this.1.2.2.2, this.2⟩
        have hst' : Calls Tryz.prog 163 #[.pointer (some ⟨ib, 0, none⟩), .int .i64 n] X fun ex w' => ex = .returned (.tuple #[.string d, .nilIface]) ∧ Sx.Turned X w' w.heap.size ib (Sx.takeS e.s n) := hst
        clear hst
        generalize hgs : Sx.takeS e.s n = s' at hst' hrd HFN
        generalize hgc : Cx.getS e.c (d.size : Nat) = c' at hrd HFN
        clear hgs hgc
        go_wp2_with (first | (go_at_call 163; refine hst'.mono ?_; rintro ex w2 ⟨rfl, ht2⟩; have hr2 := hrd w2 ht2; clear hst' hrd) | (go_at_call 164; refine hr2.mono ?_; rintro ex w3 ⟨rfl, ht3⟩; obtain ⟨W4, W5, HW4, HW5, hn1, hn2, hn3, hn4, hn5⟩ := HFN.out w2 w3 ht2 ht3; clear hr2 HFN) | (refine row_load_op (n := 121) (f := scell s') (ty := 100) rfl (.tmp 6) rfl ib 0 rfl hn1 (by kernel_rfl) (by kernel_rfl) ?_) | (refine row_load_op (n := 4) (f := ccell c') (ty := 102) rfl (.tmp 7) rfl rb 0 rfl hn2 (by kernel_rfl) (by kernel_rfl) ?_) | (refine row_store_to (n := 121) (f := scell s') (ty := 100) rfl (.tmp 42) (.tmp 39) rfl eb (pz + 125) rfl rfl hn3 (by kernel_rfl) (fun i => scell_one _ i) HW4 ?_) | (refine row_store_to (n := 4) (f := ccell c') (ty := 102) rfl (.tmp 44) (.tmp 40) rfl eb (pz + 246) rfl rfl hn4 (by kernel_rfl) (fun i => ccell_one _ i) HW5 ?_))
        go_ret2
        refine ⟨?_, hn5⟩
        have e1 : readF e n = 0 := HF.out
        rw [e1, show readB e n = strOfNums (Sx.takeL e.s n) from if_pos e1, HD.out.1]
        rfl
      · have e1 : readF e n = ff := HF.out
        have HE : Hid (readF e n = ff ∧ readB e n = { data := #[] } ∧ readS e n = e) := ⟨e1, if_neg (by rw [e1]; exact h1), if_neg (by rw [e1]; exact h1)⟩
        clear e1
        rw [errV_f h1] at hrd
        go_wp2_with (first | (go_at_call 163; refine hst.mono ?_; rintro ex w2 ⟨rfl, ht2⟩; have hr2 := hrd w2 ht2) | (go_at_call 164; refine hr2.mono ?_; rintro ex w3 ⟨rfl, ht3⟩))
        go_ret2
        refine ⟨?_, ?_⟩
        · rw [HE.out.1, HE.out.2.1, errV_f h1]; rfl
        · rw [HE.out.2.2]
          have b2 := HXB.out.trans (ht2.2.below (fun k hk => by rw [hk]; exact HOB.out.hs) HOB.out.le)
          exact TurnP.below HO.out (b2.trans (ht3.2.below (fun k hk => by rw [hk]; exact HCB.out.hs) b2.size))

end Go.Proofs.YtdokgalidhmbbaaGreatDoor.Ez
