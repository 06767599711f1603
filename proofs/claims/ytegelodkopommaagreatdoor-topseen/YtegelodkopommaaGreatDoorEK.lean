/- What Write answers, and what it leaves. -/
import Derived.Test.YtegelodkopommaaGreatDoorEB
import Derived.Deep.RegionHeld3
import Derived.Great.Walk
import Derived.Deep.RegionLaw
namespace Go.Proofs.YtegelodkopommaaGreatDoor
open Go.RowKit Go.Lib Go.Sort
set_option linter.unusedVariables false
set_option linter.unusedSimpArgs false


open Sx (bat)
def bcs (s : ByteArray) : List Value := s.data.toList.map fun b => .int .u8 (b.toNat : Int)
theorem bcs_length (s : ByteArray) : (bcs s).length = s.size := by simp [bcs]
theorem bcs_one (s : ByteArray) : ∀ v ∈ bcs s, v.oneCell' = true := by
  intro v hv
  obtain ⟨b, _, rfl⟩ := List.mem_map.1 hv
  rfl
theorem bcs_get {s : ByteArray} {i : Nat} (h : i < s.size) : (bcs s)[i]? = some (.int .u8 (bat s i)) := by
  have h' : i < s.data.size := h
  unfold bcs bat
  rw [List.getElem?_map, Array.getElem?_toList, Array.getElem?_eq_getElem h']
  rfl
/-- A string copied into cells that are there. -/
theorem run_copy_str (w : World) (ty : TypeId) (b o dLen dCap : Nat) (s : ByteArray) (hle : s.size ≤ dLen) (ht : w.there b o s.size) :
    (Builtin.copy_ #[50, 9] ty #[.slice (some ⟨b, o, none⟩) dLen dCap, .string s]).run Tryz.prog w = .ok (.int .i64 (s.size : Int)) (w.setCells b o (bcs s)) := by
  have hst := run_storeCells_cells (P := Tryz.prog) b o (bcs s) 0 w (fun j hj => by rw [Nat.add_zero]; exact (ht j (by rwa [bcs_length] at hj)).1) (fun j hj => by rw [Nat.add_zero]; exact (ht j (by rwa [bcs_length] at hj)).2) (bcs_one s)
  rw [Nat.add_zero] at hst
  have hmin : Nat.min s.size dLen = s.size := Nat.min_eq_left hle
  have htk : List.take s.size (List.map (fun b : UInt8 => Value.int IntKind.u8 (b.toNat : Int)) s.data.toList) = bcs s := by
    rw [List.take_of_length_le (by rw [List.length_map]; exact Nat.le_refl _)]
    rfl
  have hi : ∃ i, Tryz.prog.info? 5 = some i ∧ i.size = 1 := by
    have h : (Tryz.prog.info? 5).map (·.size) = some 1 := by kernel_rfl
    cases hq : Tryz.prog.info? 5 with
    | none => rw [hq] at h; cases h
    | some i => rw [hq] at h; exact ⟨i, rfl, by simpa using h⟩
  obtain ⟨i, hi, _⟩ := hi
  simp [Builtin.copy_, run_underlying Tryz.underlying50, Builtin.lenOf, Builtin.firstCells, sizeOf, typeInfo, hi, hmin]
  rw [htk, hst]
  simp [Result.andThen, goInt]
theorem step_copy {ops : Array Oper} {o : Oper} {a : Act} {w w' : World} {K : Act → World → Prop} {Q : Exit → Act → World → Prop} {E : Prop} {u v r : Value} (hgd : o.guard = none) (x y : Operand) (ho : o.op = .call { callee := .builtin .copy, args := #[x, y], argTypes := #[50, 9] }) (hx : a.eval x = u) (hy : a.eval y = v)
    (hr : (Builtin.copy_ #[50, 9] o.type #[u, v]).run Tryz.prog w = .ok r w') (h : K (a.put o.dst r) w') :
    if Region.wanted o (yielded ops a.tmps) = true then Oper.wp Tryz.prog o a w K Q else E := by
  have hw : Region.wanted o (yielded ops a.tmps) = true := by simp [Region.wanted, hgd]
  rw [if_pos hw]
  unfold Oper.wp execOp
  simp only [ho, resolve, invoke, builtin, Sem.run_bind, Sem.run_pure, Result.andThen_ok, List.map_toArray, List.map_cons, List.map_nil, hx, hy, hr]
  exact h
theorem run_tail60 (X : World) (eb q : Nat) (hq : q ≤ 60) : (Instr.sliceAt 71 (.pointer (some ⟨eb, 0, none⟩)) (some (.int .i64 (q : Int))) none none).run Tryz.prog X = .ok (.slice (some ⟨eb, Sx.offAt q, none⟩) (60 - q) (60 - q)) X := by
  have hl : Tryz.prog.arrayLen 71 = 60 := by kernel_rfl
  have he : (sizeOf (Tryz.prog.elem 71)).run Tryz.prog X = .ok 1 X := by kernel_rfl
  rw [run_sliceAt_array_l X 71 ⟨eb, 0, none⟩ (by kernel_rfl) .i64 (q : Int) (by omega) (by rw [hl]; omega), he]
  simp only [Result.andThen, slicedAt, hl, Sx.offAt, Addr.add_lit]
  by_cases e : 60 = q
  · subst e
    simp
  · have e2 : ¬ 60 = (q : Int).toNat := by omega
    rw [if_neg e2, if_neg e]
    simp
theorem ecell_d {e : En} {d : ByteArray} {vl vc : Value} {i : Nat} (h : 60 < i) : ecell { e with d := d } vl vc i = ecell e vl vc i := by
  have h1 : ¬ i < 60 := by omega
  have h2 : ¬ i = 60 := by omega
  unfold ecell
  simp only [h1, h2, if_false]
theorem bat_ints' (d : ByteArray) (i : Nat) : bat d i = (V.ints d)[i]?.getD 0 := by
  unfold bat V.ints
  rw [List.getElem?_map, Array.getElem?_toList]
  cases d.data[i]? <;> rfl
theorem off_sets (b : Nat) : ∀ (vs : List Value) (o : Nat) (w : World), Off (fun k => k = b) w (w.setCells b o vs)
  | [], _, w => Off.refl _ _
  | v :: vs, o, w => ((Off.refl _ _).setCell (K := fun k => k = b) (a := ⟨b, o, none⟩) rfl v).trans (off_sets b vs (o + 1) _)
theorem bat_app_l {a b : ByteArray} {i : Nat} (h : i < a.size) : bat (a ++ b) i = bat a i := by
  rw [bat_ints', bat_ints', V.ints_app, List.getElem?_append_left (by rw [ints_length]; exact h)]
theorem bat_app_r {a b : ByteArray} {i : Nat} (h : a.size ≤ i) : bat (a ++ b) i = bat b (i - a.size) := by
  rw [bat_ints', bat_ints', V.ints_app, List.getElem?_append_right (by rw [ints_length]; exact h), ints_length]
theorem bat_none {a : ByteArray} {i : Nat} (h : a.size ≤ i) : bat a i = 0 := by
  have h' : a.data.size ≤ i := h
  unfold bat
  rw [Array.getElem?_eq_none h']
  rfl
theorem Turn.wrote {w W w' : World} {B eb : Nat} {vl vc : Value} {e : En} (h : EO w B eb vl vc e) {b : ByteArray} (hf : e.d.size + b.size ≤ 60) (hW : ∀ p : Addr, W.cell? p = w.cell? p) (hWf : ∀ p : Addr, W.frozen? p = w.frozen? p) (hWo : Off (fun _ => False) w W)
    (hw : w' = (W.setCells eb e.d.size (bcs b)).setCell ⟨eb, 60, none⟩ (.int .i64 ((e.d ++ b).size : Int))) : Turn w w' B eb vl vc (writeS e b) := by
  have hi := h.inv.write b
  have hs : writeS e b = { e with d := e.d ++ b } := by unfold writeS; rw [if_neg (by omega)]
  rw [hs] at hi ⊢
  subst hw
  have hthere : ∀ j, j < (bcs b).length → (W.cell? ⟨eb, e.d.size + j, none⟩).isSome = true := fun j hj => by
    rw [bcs_length] at hj
    rw [hW, h.cl _ (by omega)]; rfl
  have oW : Off (fun k => k = eb) w (W.setCells eb e.d.size (bcs b)) := (hWo.mono fun _ _ h => h.elim).trans (off_sets eb (bcs b) e.d.size W)
  have oF : Off (fun k => k = eb) w ((W.setCells eb e.d.size (bcs b)).setCell ⟨eb, 60, none⟩ (.int .i64 ((e.d ++ b).size : Int))) := oW.setCell (a := ⟨eb, 60, none⟩) rfl _
  refine ⟨vl, vc, ⟨hi, fun i hi => ?_, fun i => ?_, h.hs, oF.row h.ld (fun k hk e' => by subst e'; exact h.ap.1 hk), oF.row h.cm (fun k hk e' => by subst e'; exact h.ap.2 hk), h.ap⟩, oF.mono fun k _ hk => .inl hk, fun k hk => .inl hk⟩
  · by_cases e1 : i = 60
    · subst e1
      refine World.cell?_setCell_same _ _ _ (show (W.setCells eb e.d.size (bcs b)).cell? ⟨eb, 60, none⟩ = some (ecell e vl vc 60) from ?_)
      rw [World.cell?_setCells_out eb (bcs b) e.d.size W _ (fun _ _ => .inr (by rw [bcs_length]; exact hf)), hW]
      exact h.cl 60 (by omega)
    · rw [World.cell?_setCell_other _ _ _ _ (fun e' => by injection e' with _ e' _; exact e1 e'.symm)]
      by_cases e2 : 60 < i
      · rw [ecell_d e2, World.cell?_setCells_out eb (bcs b) e.d.size W _ (fun _ _ => .inr (by rw [bcs_length]; show _ ≤ i; omega)), hW]
        exact h.cl i hi
      · have hi60 : i < 60 := by omega
        rw [ecell_out hi60]
        by_cases e3 : i < e.d.size
        · rw [bat_app_l e3, World.cell?_setCells_out eb (bcs b) e.d.size W _ (fun _ _ => .inl e3), hW]
          exact h.out i hi60
        · rw [bat_app_r (by omega)]
          by_cases e4 : i - e.d.size < b.size
          · have hj : i - e.d.size < (bcs b).length := by rw [bcs_length]; exact e4
            have h1 := World.cell?_setCells_in eb (bcs b) e.d.size W hthere (i - e.d.size) hj
            rw [show e.d.size + (i - e.d.size) = i by omega] at h1
            rw [h1, ← List.getElem?_eq_getElem hj, bcs_get e4]
          · rw [World.cell?_setCells_out eb (bcs b) e.d.size W _ (fun _ _ => .inr (by rw [bcs_length]; show _ ≤ i; omega)), hW, h.out i hi60, bat_none (by omega), bat_none (by omega)]
  · rw [World.frozen?_setCell, World.frozen?_setCells, hWf]
    exact h.fz i
set_option maxRecDepth 100000 in
set_option maxHeartbeats 4000000 in
theorem write_no {w : World} {B eb : Nat} {vl vc : Value} {e : En} (h : EO w B eb vl vc e) (b : ByteArray) (hl : b.size ≤ 140737488351232) (hf : 60 < e.d.size + b.size) : Calls Tryz.prog 15 #[.pointer (some ⟨eb, 0, none⟩), .string b] w fun ex w' => ex = .returned (.iface 55 (.int .i64 4)) ∧ w' = w := by
  have c60 := h.cl 60 (by omega)
  rw [ecell_wr] at c60
  have d60 := h.inv.d60
  have g1 : (60 : Int) - (e.d.size : Int) < (b.size : Int) := by omega
  clear h
  generalize e.d.size = D at *
  go_enter Tryz.func15, Tryz.ntmps15
  go_wp2_with fail
  go_ret
  exact ⟨rfl, rfl⟩
set_option maxRecDepth 100000 in
set_option maxHeartbeats 4000000 in
theorem write_yes {w : World} {B eb : Nat} {vl vc : Value} {e : En} (h : EO w B eb vl vc e) (b : ByteArray) (hf : e.d.size + b.size ≤ 60) : Calls Tryz.prog 15 #[.pointer (some ⟨eb, 0, none⟩), .string b] w fun ex w' => ex = .returned .nilIface ∧ Turn w w' B eb vl vc (writeS e b) := by
  have HO : Hid (EO w B eb vl vc e) := h
  have c60 := h.cl 60 (by omega)
  rw [ecell_wr] at c60
  have d60 := h.inv.d60
  have g1 : ¬ (60 : Int) - (e.d.size : Int) < (b.size : Int) := by omega
  have HT : Hid (∀ X : World, X = (w.drew.setCells eb e.d.size (bcs b)).setCell ⟨eb, 60, none⟩ (.int .i64 ((e.d.size : Int) + (b.size : Int))) → Turn w X B eb vl vc (writeS e b)) := by
    show ∀ X, _ → _
    intro X hX
    refine Turn.wrote h hf (W := w.drew) (fun _ => rfl) (fun _ => rfl) ⟨rfl, rfl, rfl, Nat.le_refl _, fun _ _ _ => rfl⟩ ?_
    rw [hX, ByteArray.size_append]
    simp
  have hz : ∀ i, w.drew.frozen? ⟨eb, i, none⟩ = false := h.fz
  have hth : w.drew.there eb e.d.size b.size := fun j hj => ⟨by rw [show w.drew.cell? ⟨eb, e.d.size + j, none⟩ = _ from h.cl _ (by omega)]; rfl, h.fz _⟩
  have HS : Hid (∀ X, (Instr.sliceAt 71 (.pointer (some ⟨eb, 0, none⟩)) (some (.int .i64 (e.d.size : Int))) none none).run Tryz.prog X = .ok (.slice (some ⟨eb, Sx.offAt e.d.size, none⟩) (60 - e.d.size) (60 - e.d.size)) X) := fun X => run_tail60 X eb e.d.size d60
  have hcp : ∀ ty, (Builtin.copy_ #[50, 9] ty #[.slice (some ⟨eb, Sx.offAt e.d.size, none⟩) (60 - e.d.size) (60 - e.d.size), .string b]).run Tryz.prog w.drew = .ok (.int .i64 (b.size : Int)) (w.drew.setCells eb e.d.size (bcs b)) := by
    intro ty
    by_cases e6 : e.d.size = 60
    · have hb0 : b.size = 0 := by omega
      have hn : bcs b = [] := List.eq_nil_of_length_eq_zero (by rw [bcs_length]; exact hb0)
      have := run_copy_str w.drew ty eb (Sx.offAt e.d.size) (60 - e.d.size) (60 - e.d.size) b (by omega) (fun j hj => by omega)
      rw [hn] at this ⊢
      exact this
    · have e7 : Sx.offAt e.d.size = e.d.size := by unfold Sx.offAt; rw [if_neg (by omega)]
      rw [e7]
      exact run_copy_str w.drew ty eb e.d.size _ _ b (by omega) hth
  have d60d : w.drew.cell? ⟨eb, 60, none⟩ = some (.int .i64 (e.d.size : Int)) := c60
  have k60 : (w.drew.setCells eb e.d.size (bcs b)).cell? ⟨eb, 60, none⟩ = some (.int .i64 (e.d.size : Int)) := by
    rw [World.cell?_setCells_out eb (bcs b) e.d.size w.drew _ (fun _ _ => .inr (by rw [bcs_length]; exact hf))]
    exact c60
  have kf : (w.drew.setCells eb e.d.size (bcs b)).frozen? ⟨eb, 60, none⟩ = false := by rw [World.frozen?_setCells]; exact h.fz _
  have u1 := Sx.wrap_small ((e.d.size : Int) + (b.size : Int)) (by omega) (by omega)
  have HC : Hid (∀ ty, (Builtin.copy_ #[50, 9] ty #[.slice (some ⟨eb, Sx.offAt e.d.size, none⟩) (60 - e.d.size) (60 - e.d.size), .string b]).run Tryz.prog w.drew = .ok (.int .i64 (b.size : Int)) (w.drew.setCells eb e.d.size (bcs b))) := hcp
  have hsl := HS.out
  clear h hth hcp HS hz
  generalize w.drew.setCells eb e.d.size (bcs b) = Wc at *
  generalize e.d.size = D at *
  go_enter Tryz.func15, Tryz.ntmps15
  go_wp2_with fail
  go_region_law (refine step_copy (by rfl) (.tmp 25) (.tmp 26) (by rfl) (by rfl) (by rfl) (HC.out _) ?_)
  all_goals go_wp2_with fail
  all_goals go_ret
  all_goals exact ⟨rfl, HT.out _ rfl⟩
theorem write_calls {w : World} {B eb : Nat} {vl vc : Value} {e : En} (h : EO w B eb vl vc e) (b : ByteArray) (hl : b.size ≤ 140737488351232) : Calls Tryz.prog 15 #[.pointer (some ⟨eb, 0, none⟩), .string b] w fun ex w' => ex = .returned (errV (writeF e b)) ∧ Turn w w' B eb vl vc (writeS e b) := by
  by_cases hf : 60 < e.d.size + b.size
  · have e1 : writeF e b = 4 := if_pos hf
    have e2 : writeS e b = e := if_pos hf
    rw [e1, e2, errV_f (by decide)]
    exact (write_no h b hl hf).mono fun ex w' ⟨h1, h2⟩ => ⟨h1, by rw [h2]; exact Turn.same h⟩
  · have e1 : writeF e b = 0 := if_neg hf
    rw [e1, errV_0]
    exact write_yes h b (by omega)
end Go.Proofs.YtegelodkopommaaGreatDoor
