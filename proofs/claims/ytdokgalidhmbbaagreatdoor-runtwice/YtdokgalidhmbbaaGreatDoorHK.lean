/- What the laws of package run need. -/
import Derived.Test.YtdokgalidhmbbaaGreatDoorHE
import Derived.Great.Walk
import Derived.Deep.RegionLaw
set_option linter.unusedVariables false
set_option linter.unusedSimpArgs false
set_option maxRecDepth 100000
set_option maxHeartbeats 8000000
namespace Go.Proofs.YtdokgalidhmbbaaGreatDoor
open Go.RowKit Go.Lib Go.Sort


open Sx (bat)
def bcs (s : ByteArray) : List Value := s.data.toList.map fun b => .int .u8 (b.toNat : Int)
theorem bcs_length (s : ByteArray) : (bcs s).length = s.size := by simp [bcs]
theorem bcs_one (s : ByteArray) : ∀ v ∈ bcs s, v.oneCell' = true := by
  intro v hv
  obtain ⟨b, _, rfl⟩ := List.mem_map.1 hv
  rfl
theorem bcs_get {s : ByteArray} {i : Nat} (h : i < s.size) : (bcs s)[i]? = some (.int .u8 (bat s i)) := by
  have h' : i < s.data.size := h
  unfold bcs bat
  rw [List.getElem?_map, Array.getElem?_toList, Array.getElem?_eq_getElem h']
  rfl
/-- A string copied into cells that are there. -/
theorem run_copy_str (w : World) (ty : TypeId) (b o dLen dCap : Nat) (s : ByteArray) (hle : s.size ≤ dLen) (ht : w.there b o s.size) :
    (Builtin.copy_ #[37, 9] ty #[.slice (some ⟨b, o, none⟩) dLen dCap, .string s]).run Tryz.prog w = .ok (.int .i64 (s.size : Int)) (w.setCells b o (bcs s)) := by
  have hst := run_storeCells_cells (P := Tryz.prog) b o (bcs s) 0 w (fun j hj => by rw [Nat.add_zero]; exact (ht j (by rwa [bcs_length] at hj)).1) (fun j hj => by rw [Nat.add_zero]; exact (ht j (by rwa [bcs_length] at hj)).2) (bcs_one s)
  rw [Nat.add_zero] at hst
  have hmin : Nat.min s.size dLen = s.size := Nat.min_eq_left hle
  have htk : List.take s.size (List.map (fun b : UInt8 => Value.int IntKind.u8 (b.toNat : Int)) s.data.toList) = bcs s := by
    rw [List.take_of_length_le (by rw [List.length_map]; exact Nat.le_refl _)]
    rfl
  have hi : ∃ i, Tryz.prog.info? 5 = some i ∧ i.size = 1 := by
    have h : (Tryz.prog.info? 5).map (·.size) = some 1 := by kernel_rfl
    cases hq : Tryz.prog.info? 5 with
    | none => rw [hq] at h; cases h
    | some i => rw [hq] at h; exact ⟨i, rfl, by simpa using h⟩
  obtain ⟨i, hi, _⟩ := hi
  simp [Builtin.copy_, run_underlying Tryz.underlying37, Builtin.lenOf, Builtin.firstCells, sizeOf, typeInfo, hi, hmin]
  rw [htk, hst]
  simp [Result.andThen, goInt]
theorem step_copy {ops : Array Oper} {o : Oper} {a : Act} {w w' : World} {K : Act → World → Prop} {Q : Exit → Act → World → Prop} {E : Prop} {u v r : Value} (hgd : o.guard = none) (x y : Operand) (ho : o.op = .call { callee := .builtin .copy, args := #[x, y], argTypes := #[37, 9] }) (hx : a.eval x = u) (hy : a.eval y = v)
    (hr : (Builtin.copy_ #[37, 9] o.type #[u, v]).run Tryz.prog w = .ok r w') (h : K (a.put o.dst r) w') :
    if Region.wanted o (yielded ops a.tmps) = true then Oper.wp Tryz.prog o a w K Q else E := by
  have hw : Region.wanted o (yielded ops a.tmps) = true := by simp [Region.wanted, hgd]
  rw [if_pos hw]
  unfold Oper.wp execOp
  simp only [ho, resolve, invoke, builtin, Sem.run_bind, Sem.run_pure, Result.andThen_ok, List.map_toArray, List.map_cons, List.map_nil, hx, hy, hr]
  exact h
theorem ecell_d {e : En} {d : ByteArray} {vl vc : Value} {i : Nat} (h : 60 < i) : ecell { e with d := d } vl vc i = ecell e vl vc i := by
  have h1 : ¬ i < 60 := by omega
  have h2 : ¬ i = 60 := by omega
  unfold ecell
  simp only [h1, h2, if_false]
theorem bat_ints' (d : ByteArray) (i : Nat) : bat d i = (V.ints d)[i]?.getD 0 := by
  unfold bat V.ints
  rw [List.getElem?_map, Array.getElem?_toList]
  cases d.data[i]? <;> rfl
theorem off_sets (b : Nat) : ∀ (vs : List Value) (o : Nat) (w : World), Off (fun k => k = b) w (w.setCells b o vs)
  | [], _, w => Off.refl _ _
  | v :: vs, o, w => ((Off.refl _ _).setCell (K := fun k => k = b) (a := ⟨b, o, none⟩) rfl v).trans (off_sets b vs (o + 1) _)
theorem bat_app_l {a b : ByteArray} {i : Nat} (h : i < a.size) : bat (a ++ b) i = bat a i := by
  rw [bat_ints', bat_ints', V.ints_app, List.getElem?_append_left (by rw [ints_length]; exact h)]
theorem bat_app_r {a b : ByteArray} {i : Nat} (h : a.size ≤ i) : bat (a ++ b) i = bat b (i - a.size) := by
  rw [bat_ints', bat_ints', V.ints_app, List.getElem?_append_right (by rw [ints_length]; exact h), ints_length]
theorem bat_none {a : ByteArray} {i : Nat} (h : a.size ≤ i) : bat a i = 0 := by
  have h' : a.data.size ≤ i := h
  unfold bat
  rw [Array.getElem?_eq_none h']
  rfl
end Go.Proofs.YtdokgalidhmbbaaGreatDoor
namespace Go.Proofs.YtdokgalidhmbbaaGreatDoor
open Go.RowKit Go.Lib Go.Sort


theorem cell_row {w : World} {b o n : Nat} {f : Nat → Value} (h : w.rangeAt b o (row n f)) {i : Nat} (hi : i < n) : w.cell? ⟨b, o + i, none⟩ = some (f i) := h i _ (row_get hi)
theorem row_range {w : World} {b o n : Nat} {f : Nat → Value} (h : ∀ i, i < n → w.cell? ⟨b, o + i, none⟩ = some (f i)) : w.rangeAt b o (row n f) := fun j v hv => by
  obtain ⟨hj, rfl⟩ := row_out hv
  exact h j hj
theorem sobj_of_range {w : World} {B ib : Nat} {s : Sx.St} (hi : Sx.Inv s) (h : w.rangeAt ib 0 (row 121 (scell s))) (hf : ∀ i, w.frozen? ⟨ib, i, none⟩ = false) (hb : B ≤ ib) : Sx.Obj w B ib s := by
  have c : ∀ i, i < 121 → w.cell? ⟨ib, i, none⟩ = some (scell s i) := fun i hi => by have := cell_row h hi; rwa [Nat.zero_add] at this
  exact ⟨hi, fun i h => by rw [c i (by omega), scell_b h], fun i h => by rw [c _ (by omega), scell_c h], by rw [c 120 (by omega), scell_t], fun i _ => hf i, hb⟩
theorem range_of_sobj {w : World} {B ib : Nat} {s : Sx.St} (h : Sx.Obj w B ib s) : w.rangeAt ib 0 (row 121 (scell s)) := row_range fun j hj => by
  rw [Nat.zero_add]
  by_cases h1 : j < 60
  · rw [scell_b h1]; exact h.cb j h1
  · by_cases h2 : j < 120
    · have h3 := h.cc (j - 60) (by omega)
      have h4 := scell_c (s := s) (i := j - 60) (by omega)
      rw [show 60 + (j - 60) = j by omega] at h3 h4
      rw [h3, h4]
    · obtain rfl : j = 120 := by omega
      exact h.ct
theorem cobj_of_range {w : World} {B rb : Nat} {c : Cx.St} (hi : Cx.Inv c) (h : w.rangeAt rb 0 (row 4 (ccell c))) (hf : ∀ i, w.frozen? ⟨rb, i, none⟩ = false) (hb : B ≤ rb) : Cx.Obj w B rb c := by
  have g : ∀ i, i < 4 → w.cell? ⟨rb, i, none⟩ = some (ccell c i) := fun i hi => by have := cell_row h hi; rwa [Nat.zero_add] at this
  exact ⟨hi, ⟨g 0 (by omega), g 1 (by omega), g 2 (by omega), g 3 (by omega), hf 1, hf 2, hf 3, hf 0⟩, hb⟩
theorem range_of_cobj {w : World} {B rb : Nat} {c : Cx.St} (h : Cx.Obj w B rb c) : w.rangeAt rb 0 (row 4 (ccell c)) := row_range fun j hj => by
  rw [Nat.zero_add]
  match j, hj with
  | 0, _ => exact h.four.c0
  | 1, _ => exact h.four.c1
  | 2, _ => exact h.four.c2
  | 3, _ => exact h.four.c3
theorem desc_row (ty n : Nat) (h : (Tryz.prog.underlying ty).map (·.isRow) = some true) (hs : (Tryz.prog.info? ty).map (·.size) = some n) (f : Nat → Value) : ∃ d, Tryz.prog.underlying ty = some d ∧ d.isRow = true ∧ (Tryz.prog.info? ty).map (·.size) = some (row n f).length := by
  cases hd : Tryz.prog.underlying ty with
  | none => rw [hd] at h; cases h
  | some d =>
    rw [hd] at h
    exact ⟨d, rfl, by simpa using h, by rw [row_length]; exact hs⟩
theorem zero_credit (W : World) : (zeroValue 102).run Tryz.prog W = .ok (.agg (row 4 (ccell ⟨0, 0, 0, 0⟩)).toArray) W := by kernel_rfl
theorem zero_stream2 (W : World) : (zeroValue 100).run Tryz.prog W = .ok (.agg (row 121 (scell Sx.newS)).toArray) W := by kernel_rfl
theorem fz_new (W : World) (cs : Array Value) (t : TypeId) (i : Nat) : (W.alloc (.cells cs t)).frozen? ⟨W.heap.size, i, none⟩ = false := by simp
theorem there_row (w : World) (t : TypeId) (n : Nat) (f : Nat → Value) : (w.alloc (.cells (row n f).toArray t)).there w.heap.size 0 n := fun j hj => by
  rw [Nat.zero_add]
  simp [row, hj]
theorem row_load_op {ops : Array Oper} {rest : List Oper} {op : Oper} {a : Act} {w : World} {Q : Exit → Act → World → Prop} {n : Nat} {f : Nat → Value} {ty : TypeId} (hgd : op.guard = none) (x : Operand) (ho : op.op = .load ty x)
    (b o : Nat) (hx : a.eval x = .pointer (some ⟨b, o, none⟩)) (hc : w.rangeAt b o (row n f)) (hu : (Tryz.prog.underlying ty).map (·.isRow) = some true) (hi : (Tryz.prog.info? ty).map (·.size) = some n) (h : wpList Tryz.prog ops Q rest (a.put op.dst (.agg (row n f).toArray)) w) : wpList Tryz.prog ops Q (op :: rest) a w := by
  obtain ⟨d, h1, h2, h3⟩ := desc_row ty n hu hi f
  exact wpList_load_mid hgd ty x ho b o hx (row n f) d hc h1 h2 h3 h
theorem row_store_op {ops : Array Oper} {rest : List Oper} {op : Oper} {a : Act} {w : World} {Q : Exit → Act → World → Prop} {n : Nat} {f : Nat → Value} {ty : TypeId} (hgd : op.guard = none) (x y : Operand) (ho : op.op = .store ty x y)
    (b o : Nat) (hx : a.eval x = .pointer (some ⟨b, o, none⟩)) (hy : a.eval y = .agg (row n f).toArray) (ht : w.there b o n) (hi : (Tryz.prog.info? ty).map (·.size) = some n) (h1 : ∀ i, (f i).oneCell' = true) (h : wpList Tryz.prog ops Q rest (a.put op.dst undef) (w.setCells b o (row n f))) : wpList Tryz.prog ops Q (op :: rest) a w :=
  wpList_store_mid hgd ty x y ho b o (row n f).toArray hx hy (by simpa [row_length] using ht) (by simpa [row_length] using hi) (row_one fun i _ => h1 i) (by simpa using h)
theorem row_store_to {ops : Array Oper} {rest : List Oper} {op : Oper} {a : Act} {w W : World} {Q : Exit → Act → World → Prop} {n : Nat} {f : Nat → Value} {ty : TypeId} (hgd : op.guard = none) (x y : Operand) (ho : op.op = .store ty x y)
    (b o : Nat) (hx : a.eval x = .pointer (some ⟨b, o, none⟩)) (hy : a.eval y = .agg (row n f).toArray) (ht : w.there b o n) (hi : (Tryz.prog.info? ty).map (·.size) = some n) (h1 : ∀ i, (f i).oneCell' = true) (hW : Hid (W = w.setCells b o (row n f))) (h : wpList Tryz.prog ops Q rest (a.put op.dst undef) W) : wpList Tryz.prog ops Q (op :: rest) a w :=
  row_store_op hgd x y ho b o hx hy ht hi h1 (by rw [← hW.out]; exact h)
theorem ecell_sc {e : En} {s : Sx.St} {c : Cx.St} {vl vc : Value} {i : Nat} (h : i < 125 ∨ 250 ≤ i) : ecell { e with s := s, c := c } vl vc i = ecell e vl vc i := by
  have h1 : ¬ (¬ i < 60 ∧ ¬ i = 60 ∧ ¬ i < 121 ∧ ¬ i = 121 ∧ ¬ i = 122 ∧ ¬ i = 123 ∧ ¬ i = 124 ∧ i < 246) := by omega
  unfold ecell
  rcases h with h | h
  · by_cases a1 : i < 60
    · simp only [a1, if_true]
    · by_cases a2 : i = 60
      · subst a2; rfl
      · by_cases a3 : i < 121
        · simp only [a1, a2, a3, if_true, if_false]
        · have : i = 121 ∨ i = 122 ∨ i = 123 ∨ i = 124 := by omega
          rcases this with rfl | rfl | rfl | rfl <;> rfl
  · have a1 : ¬ i < 60 := by omega
    have a2 : ¬ i = 60 := by omega
    have a3 : ¬ i < 121 := by omega
    have a4 : ¬ i = 121 := by omega
    have a5 : ¬ i = 122 := by omega
    have a6 : ¬ i = 123 := by omega
    have a7 : ¬ i = 124 := by omega
    have a8 : ¬ i < 246 := by omega
    have a9 : ¬ i < 250 := by omega
    simp only [a1, a2, a3, a4, a5, a6, a7, a8, a9, if_false]
theorem off_sets2 (b : Nat) : ∀ (vs : List Value) (o : Nat) (w : World), Off (fun k => k = b) w (w.setCells b o vs)
  | [], _, w => Off.refl _ _
  | v :: vs, o, w => ((Off.refl _ _).setCell (K := fun k => k = b) (a := ⟨b, o, none⟩) rfl v).trans (off_sets2 b vs (o + 1) _)


/-- The End is now e; its loads and what came lie where they did. -/
def TurnI (w w' : World) (B eb : Nat) (vl vc : Value) (e : En) : Prop := EO w' B eb vl vc e ∧ Off (fun k => k = eb) w w'
theorem TurnI.trans {w w1 w2 : World} {B eb : Nat} {vl vc : Value} {e1 e2 : En} (h1 : TurnI w w1 B eb vl vc e1) (h2 : TurnI w1 w2 B eb vl vc e2) : TurnI w w2 B eb vl vc e2 := ⟨h2.1, h1.2.trans h2.2⟩
theorem TurnI.below {w w' : World} {B eb : Nat} {vl vc : Value} {e : En} (h : EO w B eb vl vc e) (hb : Below w.heap.size w w') : TurnI w w' B eb vl vc e := ⟨h.below hb, Off.of_below hb⟩
theorem ecell_c {e : En} {c : Cx.St} {vl vc : Value} {i : Nat} (h : i < 246 ∨ 250 ≤ i) : ecell { e with c := c } vl vc i = ecell e vl vc i := by
  unfold ecell
  rcases h with h | h
  · by_cases b1 : i < 60
    · simp only [b1, if_true]
    · by_cases b2 : i = 60
      · subst b2; rfl
      · by_cases b3 : i < 121
        · simp only [b1, b2, b3, if_true, if_false]
        · by_cases b4 : i < 125
          · have : i = 121 ∨ i = 122 ∨ i = 123 ∨ i = 124 := by omega
            rcases this with rfl | rfl | rfl | rfl <;> rfl
          · have a4 : ¬ i = 121 := by omega
            have a5 : ¬ i = 122 := by omega
            have a6 : ¬ i = 123 := by omega
            have a7 : ¬ i = 124 := by omega
            simp only [b1, b2, b3, a4, a5, a6, a7, h, if_true, if_false]
  · have a1 : ¬ i < 60 := by omega
    have a2 : ¬ i = 60 := by omega
    have a3 : ¬ i < 121 := by omega
    have a4 : ¬ i = 121 := by omega
    have a5 : ¬ i = 122 := by omega
    have a6 : ¬ i = 123 := by omega
    have a7 : ¬ i = 124 := by omega
    have a8 : ¬ i < 246 := by omega
    have a9 : ¬ i < 250 := by omega
    simp only [a1, a2, a3, a4, a5, a6, a7, a8, a9, if_false]
theorem ecell_s {e : En} {s : Sx.St} {vl vc : Value} {i : Nat} (h : i < 125 ∨ 246 ≤ i) : ecell { e with s := s } vl vc i = ecell e vl vc i := by
  unfold ecell
  rcases h with h | h
  · by_cases b1 : i < 60
    · simp only [b1, if_true]
    · by_cases b2 : i = 60
      · subst b2; rfl
      · by_cases b3 : i < 121
        · simp only [b1, b2, b3, if_true, if_false]
        · have : i = 121 ∨ i = 122 ∨ i = 123 ∨ i = 124 := by omega
          rcases this with rfl | rfl | rfl | rfl <;> rfl
  · have a1 : ¬ i < 60 := by omega
    have a2 : ¬ i = 60 := by omega
    have a3 : ¬ i < 121 := by omega
    have a4 : ¬ i = 121 := by omega
    have a5 : ¬ i = 122 := by omega
    have a6 : ¬ i = 123 := by omega
    have a7 : ¬ i = 124 := by omega
    have a8 : ¬ i < 246 := by omega
    simp only [a1, a2, a3, a4, a5, a6, a7, a8, if_false]
theorem EO.turnC {w w' : World} {B eb : Nat} {vl vc : Value} {e : En} {c : Cx.St} (h : EO w B eb vl vc e) (t : Cy.Turned w w' eb c) : TurnI w w' B eb vl vc { e with c := c } := by
  refine ⟨⟨⟨h.inv.d60, h.inv.t1, h.inv.l0, h.inv.l1, h.inv.m1, h.inv.k0, h.inv.k1, h.inv.ls, h.inv.s, t.obj.inv, h.inv.cm, h.inv.ll⟩, fun i hi => ?_, fun i => (t.fz i).trans (h.fz i), h.hs, t.off.row h.ld (fun k hk e' => by subst e'; exact h.ap.1 hk), t.off.row h.cm (fun k hk e' => by subst e'; exact h.ap.2 hk), h.ap⟩, t.off⟩
  by_cases a1 : i < 246 ∨ 250 ≤ i
  · rw [t.rest i a1, h.cl i hi]
    exact congrArg some (ecell_c a1).symm
  · obtain ⟨j, rfl⟩ : ∃ j, i = 246 + j := ⟨i - 246, by omega⟩
    rw [ecell_room (by omega)]
    have hj : j < 4 := by omega
    match j, hj with
    | 0, _ => exact t.obj.c0
    | 1, _ => exact t.obj.c1
    | 2, _ => exact t.obj.c2
    | 3, _ => exact t.obj.c3
theorem EO.turnS {w w' : World} {B eb : Nat} {vl vc : Value} {e : En} {s : Sx.St} (h : EO w B eb vl vc e) (t : Sy.Turned w w' eb s) : TurnI w w' B eb vl vc { e with s := s } := by
  obtain ⟨o, f⟩ := t
  refine ⟨⟨⟨h.inv.d60, h.inv.t1, h.inv.l0, h.inv.l1, h.inv.m1, h.inv.k0, h.inv.k1, h.inv.ls, o.inv, h.inv.c, h.inv.cm, h.inv.ll⟩, fun i hi => ?_, fun i => (f.fz i).trans (h.fz i), h.hs, f.off.row h.ld (fun k hk e' => by subst e'; exact h.ap.1 hk), f.off.row h.cm (fun k hk e' => by subst e'; exact h.ap.2 hk), h.ap⟩, f.off⟩
  by_cases a1 : i < 125 ∨ 246 ≤ i
  · rw [f.rest i (by omega), h.cl i hi]
    exact congrArg some (ecell_s a1).symm
  · obtain ⟨j, rfl⟩ : ∃ j, i = 125 + j := ⟨i - 125, by omega⟩
    rw [ecell_in (by omega)]
    by_cases b1 : j < 60
    · rw [scell_b b1]; exact o.cb j b1
    · by_cases b2 : j < 120
      · have h3 := o.cc (j - 60) (by omega)
        have h4 := scell_c (s := s) (i := j - 60) (by omega)
        rw [show 185 + (j - 60) = 125 + j by omega] at h3
        rw [show 60 + (j - 60) = j by omega] at h4
        rw [h3, h4]
      · obtain rfl : j = 120 := by omega
        exact o.ct
def pieceF (e : En) (p : Int) (d : ByteArray) : Int := if Cx.takeF e.c (p + d.size) ≠ 0 then Cx.takeF e.c (p + d.size) else Sx.putF e.s p d
def pieceS (e : En) (p : Int) (d : ByteArray) : En := if Cx.takeF e.c (p + d.size) ≠ 0 then e else { e with c := Cx.takeS e.c (p + d.size), s := Sx.putS e.s p d }
theorem stp_piece (e : En) (p : Int) (d : ByteArray) : stpE e (3, [p], d) = (pieceF e p d, pieceS e p d) := by
  unfold stpE
  rw [if_neg (show ¬ (3 : Int) = 2 by decide), if_neg (show ¬ (3 : Int) = 4 by decide), if_pos rfl]
  show (if Cx.takeF e.c (p + d.size) ≠ 0 then (Cx.takeF e.c (p + d.size), e) else (Sx.putF e.s p d, { e with c := Cx.takeS e.c (p + d.size), s := Sx.putS e.s p d })) = _
  unfold pieceF pieceS
  split <;> rfl
set_option maxRecDepth 100000 in
set_option maxHeartbeats 4000000 in
theorem takePiece_calls {w : World} {B eb : Nat} {vl vc : Value} {e : En} (h : EO w B eb vl vc e) (p : Int) (d : ByteArray) (hp0 : 0 ≤ p) (hp1 : p ≤ 1073741823) (hd : d.size ≤ 20) : Calls Tryz.prog 161 #[.pointer (some ⟨eb, 0, none⟩), .agg #[.int .i64 p, .string d]] w fun ex w' => ex = .returned (errV (pieceF e p d)) ∧ TurnI w w' B eb vl vc (pieceS e p d) := by
  have HO : Hid (EO w B eb vl vc e) := h
  have hb0 : Below w.heap.size w (w.alloc (.cells #[.int .i64 p, .string d] 146)) := (Below.refl _ _).alloc (Nat.le_refl _) _
  obtain ⟨q0, q1⟩ := Sx.box_cells w p d
  have hpb : w.heap.size < (w.alloc (.cells #[.int .i64 p, .string d] 146)).heap.size := by simp
  have hne : w.heap.size ≠ eb := by have := h.lt; omega
  have u1 := Sx.wrap_small (p + (d.size : Int)) (by omega) (by omega)
  obtain ⟨u, hu⟩ : ∃ u, p + (d.size : Int) = u := ⟨_, rfl⟩
  have HU : Hid (p + (d.size : Int) = u) := hu
  clear h
  go_enter Tryz.func161, Tryz.ntmps161
  go_wp2_with fail
  have HB0 : Hid (Below w.heap.size w (w.alloc (.cells #[.int .i64 p, .string d] 146))) := hb0
  generalize w.alloc (.cells #[.int .i64 p, .string d] 146) = W at *
  have k0 : W.drew.cell? ⟨w.heap.size, 0, none⟩ = some (.int .i64 p) := q0
  have k1 : W.drew.cell? ⟨w.heap.size, 1, none⟩ = some (.string d) := q1
  have HOW : Hid (EO W.drew B eb vl vc e) := HO.out.below (HB0.out.drew)
  have HCT := Cy.take_calls HOW.out.cy u
  rw [hu] at u1
  obtain ⟨f, hf⟩ : ∃ f, Cx.takeF e.c u = f := ⟨_, rfl⟩
  have HFF : Hid (Cx.takeF e.c u = f) := hf
  rw [hf] at HCT
  clear hf q0 q1 hb0
  have hrw : IntKind.i64.wrap (p + (d.size : Int)) = u := by rw [hu]; exact u1
  clear hu
  go_region_held3 (fun w' => w'.cell? ⟨w.heap.size, 0, none⟩ = some (.int .i64 p) ∧ w'.cell? ⟨w.heap.size, 1, none⟩ = some (.string d)) (go_keep) (first | (go_at_call 185; refine HCT.mono ?_; rintro ex w2 ⟨rfl, ht2⟩; have z0 := ht2.off.cell k0 hne; have z1 := ht2.off.cell k1 hne))
  have HT2 : Hid (TurnI w w2 B eb vl vc { e with c := Cx.takeS e.c u }) := ⟨(HOW.out.turnC ht2).1, (Off.of_below (HB0.out.drew)).trans ht2.off⟩
  by_cases h0 : f = 0
  · subst h0
    rw [errV_0]
    have HOW2 : Hid (EO w2.drew B eb vl vc { e with c := Cx.takeS e.c u }) := HT2.out.1.below ((Below.refl _ _).drew)
    have HPT := Sy.put_calls HOW2.out.sy HOW2.out.lt p d (by omega)
    have y0 : w2.drew.cell? ⟨w.heap.size, 0, none⟩ = some (.int .i64 p) := z0
    have y1 : w2.drew.cell? ⟨w.heap.size, 1, none⟩ = some (.string d) := z1
    have HPF : Hid (pieceF e p d = Sx.putF e.s p d ∧ pieceS e p d = { e with c := Cx.takeS e.c u, s := Sx.putS e.s p d }) := by
      unfold pieceF pieceS
      rw [HU.out, HFF.out]
      exact ⟨rfl, rfl⟩
    clear HCT
    generalize hpf : Sx.putF e.s p d = pf at HPT HPF
    clear hpf
    go_wp2_with fail
    go_region_held3 (fun w' => w'.cell? ⟨w.heap.size, 0, none⟩ = some (.int .i64 p) ∧ w'.cell? ⟨w.heap.size, 1, none⟩ = some (.string d)) (go_keep) (first | (go_at_call 186; refine HPT.mono ?_; rintro ex w3 ⟨rfl, ht3⟩; have x0 := ht3.2.off.cell y0 hne; have x1 := ht3.2.off.cell y1 hne))
    all_goals go_wp2_with fail
    all_goals go_ret
    all_goals refine ⟨by rw [HPF.out.1]; rfl, ?_⟩
    all_goals rw [HPF.out.2]
    all_goals exact ⟨(HOW2.out.turnS ht3).1, (HT2.out.2.trans (Off.of_below ((Below.refl _ _).drew))).trans ht3.2.off⟩
  · have HPF : Hid (pieceF e p d = f ∧ pieceS e p d = e) := by
      unfold pieceF pieceS
      rw [HU.out, HFF.out, if_pos h0, if_pos h0]
      exact ⟨rfl, rfl⟩
    have hts : Cx.takeS e.c u = e.c := Cx.takeS_no (by rw [HFF.out]; exact h0)
    rw [errV_f h0]
    go_wp2_with fail
    go_ret
    refine ⟨by rw [HPF.out.1, errV_f h0]; rfl, ?_⟩
    rw [HPF.out.2]
    have := HT2.out
    rw [hts] at this
    exact this


theorem ecell_l {e : En} {l : Int} {vl vc : Value} {i : Nat} (h : i ≠ 121) : ecell { e with l := l } vl vc i = ecell e vl vc i := by
  unfold ecell
  simp only [h, if_false]
theorem EO.setL {w : World} {B eb : Nat} {vl vc : Value} {e : En} {l z : Int} (h : EO w B eb vl vc e) (hi : EInv { e with l := l }) (hz : z = l) : TurnI w (w.setCell ⟨eb, 121, none⟩ (.int .i64 z)) B eb vl vc { e with l := l } := by
  subst hz
  have o : Off (fun k => k = eb) w (w.setCell ⟨eb, 121, none⟩ (.int .i64 z)) := (Off.refl _ _).setCell (K := fun k => k = eb) (a := ⟨eb, 121, none⟩) rfl _
  refine ⟨⟨hi, fun i hi => ?_, fun i => by simpa using h.fz i, h.hs, o.row h.ld (fun k hk e' => by subst e'; exact h.ap.1 hk), o.row h.cm (fun k hk e' => by subst e'; exact h.ap.2 hk), h.ap⟩, o⟩
  by_cases e1 : i = 121
  · subst e1
    exact World.cell?_setCell_same _ _ _ (h.cl 121 (by omega))
  · rw [World.cell?_setCell_other _ _ _ _ (fun e' => by injection e' with _ e' _; exact e1 e'.symm), h.cl i hi]
    exact congrArg some (ecell_l e1).symm
set_option maxRecDepth 100000 in
set_option maxHeartbeats 4000000 in
theorem tf_other {w : World} {B eb : Nat} {vl vc u : Value} {e : En} {ns : List Int} {d : ByteArray} (h : EO w B eb vl vc e) (hR : IRow w u ns) (hue : u.ownBlock ≠ some eb) {k : Int} (k2 : ¬ k = 2) (k4 : ¬ k = 4) (k3 : ¬ k = 3) : Calls Tryz.prog 134 #[.pointer (some ⟨eb, 0, none⟩), .agg #[.int .i64 k, u, .string d]] w fun ex w' => ex = .returned (.iface 133 (.int .i64 3)) ∧ TurnI w w' B eb vl vc e := by
  have HO : Hid (EO w B eb vl vc e) := h
  obtain ⟨ao, c, rfl, hl, hc, hz⟩ := hR
  have hb0 : Below w.heap.size w (w.alloc (.cells #[.int .i64 k, .slice ao ns.length c, .string d] 141)) := (Below.refl _ _).alloc (Nat.le_refl _) _
  have q0 : (w.alloc (.cells #[.int .i64 k, .slice ao ns.length c, .string d] 141)).cell? ⟨w.heap.size, 0, none⟩ = some (.int .i64 k) := by simp
  have q1 : (w.alloc (.cells #[.int .i64 k, .slice ao ns.length c, .string d] 141)).cell? ⟨w.heap.size, 1, none⟩ = some (.slice ao ns.length c) := by simp
  have q2 : (w.alloc (.cells #[.int .i64 k, .slice ao ns.length c, .string d] 141)).cell? ⟨w.heap.size, 2, none⟩ = some (.string d) := by simp
  have hpb : w.heap.size < (w.alloc (.cells #[.int .i64 k, .slice ao ns.length c, .string d] 141)).heap.size := by simp
  have hne : w.heap.size ≠ eb := by have := h.lt; omega
  have HB0 : Hid (Below w.heap.size w (w.alloc (.cells #[.int .i64 k, .slice ao ns.length c, .string d] 141))) := hb0
  clear h hb0
  go_enter Tryz.func134, Tryz.ntmps134
  go_wp2_with fail
  go_ret
  exact ⟨rfl, TurnI.below HO.out HB0.out⟩
set_option maxRecDepth 100000 in
set_option maxHeartbeats 4000000 in
theorem tf_piece {w : World} {B eb : Nat} {vl vc u : Value} {e : En} {ns : List Int} {d : ByteArray} (h : EO w B eb vl vc e) (hR : IRow w u ns) (hue : u.ownBlock ≠ some eb) {z : Int} (hns : ns = [z]) (hz0 : 0 ≤ z) (hz1 : z ≤ 1073741823) (hd : d.size ≤ 20) : Calls Tryz.prog 134 #[.pointer (some ⟨eb, 0, none⟩), .agg #[.int .i64 3, u, .string d]] w fun ex w' => ex = .returned (errV (pieceF e z d)) ∧ TurnI w w' B eb vl vc (pieceS e z d) := by
  subst hns
  have HO : Hid (EO w B eb vl vc e) := h
  obtain ⟨ao, c, rfl, hl, hc, hz⟩ := hR
  have hb0 : Below w.heap.size w (w.alloc (.cells #[.int .i64 3, .slice ao [z].length c, .string d] 141)) := (Below.refl _ _).alloc (Nat.le_refl _) _
  have q0 : (w.alloc (.cells #[.int .i64 3, .slice ao [z].length c, .string d] 141)).cell? ⟨w.heap.size, 0, none⟩ = some (.int .i64 3) := by simp
  have q1 : (w.alloc (.cells #[.int .i64 3, .slice ao [z].length c, .string d] 141)).cell? ⟨w.heap.size, 1, none⟩ = some (.slice ao [z].length c) := by simp
  have q2 : (w.alloc (.cells #[.int .i64 3, .slice ao [z].length c, .string d] 141)).cell? ⟨w.heap.size, 2, none⟩ = some (.string d) := by simp
  have hpb : w.heap.size < (w.alloc (.cells #[.int .i64 3, .slice ao [z].length c, .string d] 141)).heap.size := by simp
  have hne : w.heap.size ≠ eb := by have := h.lt; omega
  have HB0 : Hid (Below w.heap.size w (w.alloc (.cells #[.int .i64 3, .slice ao [z].length c, .string d] 141))) := hb0
  obtain ⟨b, off, rfl, hb, hC⟩ : ∃ b off, ao = some ⟨b, off, none⟩ ∧ b < w.heap.size ∧ ICells w b off [z] := by
    rcases hz with e1 | e1
    · cases e1
    · exact e1
  have n0 : w.cell? ⟨b, off, none⟩ = some (.int .i64 z) := by simpa using hC 0 (by simp)
  obtain ⟨pf, hpf⟩ : ∃ pf, pieceF e z d = pf := ⟨_, rfl⟩
  rw [hpf]
  clear h hb0
  go_enter Tryz.func134, Tryz.ntmps134
  go_wp2_with fail
  have p0 := (HB0.out.cell (p := ⟨b, off, none⟩) hb).trans n0
  have hlen : [z].length = 1 := rfl
  generalize w.alloc (.cells #[.int .i64 3, .slice (some ⟨b, off, none⟩) [z].length c, .string d] 141) = W at *
  rw [hlen] at *
  have k0 : W.drew.cell? ⟨w.heap.size, 0, none⟩ = some (.int .i64 3) := q0
  have k1 : W.drew.cell? ⟨w.heap.size, 1, none⟩ = some (.slice (some ⟨b, off, none⟩) 1 c) := q1
  have k2 : W.drew.cell? ⟨w.heap.size, 2, none⟩ = some (.string d) := q2
  have k3 : W.drew.cell? ⟨b, off, none⟩ = some (.int .i64 z) := p0
  have HOW : Hid (EO W.drew B eb vl vc e) := HO.out.below (HB0.out.drew)
  have HTP := takePiece_calls HOW.out z d hz0 hz1 hd
  have HFW : Hid (Off (fun k => k = eb) w W.drew) := Off.of_below (HB0.out.drew)
  have hbe : b ≠ eb := fun e' => hue (by rw [← e']; rfl)
  rw [hpf] at HTP
  clear hpf
  go_region_held3 (fun w' => w'.cell? ⟨w.heap.size, 1, none⟩ = some (.slice (some ⟨b, off, none⟩) 1 c) ∧ w'.cell? ⟨w.heap.size, 2, none⟩ = some (.string d) ∧ w'.cell? ⟨b, off, none⟩ = some (.int .i64 z)) (go_keep) (first | (go_at_call 161; refine HTP.mono ?_; rintro ex w2 ⟨rfl, ht2⟩; have z1 := ht2.2.cell k1 hne; have z2 := ht2.2.cell k2 hne; have z3 := ht2.2.cell k3 hbe))
  all_goals go_wp2_with fail
  all_goals go_ret
  all_goals exact ⟨rfl, ht2.1, HFW.out.trans ht2.2⟩
set_option maxRecDepth 100000 in
set_option maxHeartbeats 4000000 in
theorem tf_credit {w : World} {B eb : Nat} {vl vc u : Value} {e : En} {ns : List Int} {d : ByteArray} (h : EO w B eb vl vc e) (hR : IRow w u ns) (hue : u.ownBlock ≠ some eb) {z : Int} (hns : ns = [z]) (hi : EInv { e with l := max e.l z }) : Calls Tryz.prog 134 #[.pointer (some ⟨eb, 0, none⟩), .agg #[.int .i64 4, u, .string d]] w fun ex w' => ex = .returned .nilIface ∧ TurnI w w' B eb vl vc { e with l := max e.l z } := by
  subst hns
  have HO : Hid (EO w B eb vl vc e) := h
  obtain ⟨ao, c, rfl, hl, hc, hz⟩ := hR
  have hb0 : Below w.heap.size w (w.alloc (.cells #[.int .i64 4, .slice ao [z].length c, .string d] 141)) := (Below.refl _ _).alloc (Nat.le_refl _) _
  have q0 : (w.alloc (.cells #[.int .i64 4, .slice ao [z].length c, .string d] 141)).cell? ⟨w.heap.size, 0, none⟩ = some (.int .i64 4) := by simp
  have q1 : (w.alloc (.cells #[.int .i64 4, .slice ao [z].length c, .string d] 141)).cell? ⟨w.heap.size, 1, none⟩ = some (.slice ao [z].length c) := by simp
  have q2 : (w.alloc (.cells #[.int .i64 4, .slice ao [z].length c, .string d] 141)).cell? ⟨w.heap.size, 2, none⟩ = some (.string d) := by simp
  have hpb : w.heap.size < (w.alloc (.cells #[.int .i64 4, .slice ao [z].length c, .string d] 141)).heap.size := by simp
  have hne : w.heap.size ≠ eb := by have := h.lt; omega
  have HB0 : Hid (Below w.heap.size w (w.alloc (.cells #[.int .i64 4, .slice ao [z].length c, .string d] 141))) := hb0
  obtain ⟨b, off, rfl, hb, hC⟩ : ∃ b off, ao = some ⟨b, off, none⟩ ∧ b < w.heap.size ∧ ICells w b off [z] := by
    rcases hz with e1 | e1
    · cases e1
    · exact e1
  have n0 : w.cell? ⟨b, off, none⟩ = some (.int .i64 z) := by simpa using hC 0 (by simp)
  clear h hb0
  go_enter Tryz.func134, Tryz.ntmps134
  go_wp2_with fail
  have p0 := (HB0.out.cell (p := ⟨b, off, none⟩) hb).trans n0
  have hlen : [z].length = 1 := rfl
  generalize w.alloc (.cells #[.int .i64 4, .slice (some ⟨b, off, none⟩) [z].length c, .string d] 141) = W at *
  rw [hlen] at *
  have HOW : Hid (EO W B eb vl vc e) := HO.out.below HB0.out
  have c121 := HOW.out.cl 121 (by omega)
  have f121 := HOW.out.fz 121
  rw [ecell_let] at c121
  have HI : Hid (EInv { e with l := max e.l z }) := hi
  clear hi
  have HT : Hid (∀ v, v = max e.l z → TurnI w (W.setCell ⟨eb, 121, none⟩ (.int .i64 v)).drew B eb vl vc { e with l := max e.l z }) := by
    show ∀ v, _ → _
    intro v hv
    have h1 := HOW.out.setL HI.out hv
    have h2 := TurnI.below h1.1 ((Below.refl _ (W.setCell ⟨eb, 121, none⟩ (.int .i64 v))).drew)
    exact ⟨h2.1, ((Off.of_below HB0.out).trans h1.2).trans h2.2⟩
  go_region
  all_goals go_wp2_with fail
  all_goals go_ret
  all_goals exact ⟨rfl, HT.out _ rfl⟩
/-- takeAck, of an Ack whose numbers lie apart from the End. -/
def AckC (ns : List Int) : Prop := ∀ (w : World) (B eb : Nat) (vl vc u : Value) (e : En), EO w B eb vl vc e → IRow w u ns → u.ownBlock ≠ some eb → Calls Tryz.prog 160 #[.pointer (some ⟨eb, 0, none⟩), u] w fun ex w' => ex = .returned (errV (stpE e (2, ns, nilB)).1) ∧ TurnI w w' B eb vl vc (stpE e (2, ns, nilB)).2
set_option maxRecDepth 100000 in
set_option maxHeartbeats 4000000 in
theorem tf_ack {w : World} {B eb : Nat} {vl vc u : Value} {e : En} {ns : List Int} {d : ByteArray} (h : EO w B eb vl vc e) (hR : IRow w u ns) (hue : u.ownBlock ≠ some eb) (hA : AckC ns) : Calls Tryz.prog 134 #[.pointer (some ⟨eb, 0, none⟩), .agg #[.int .i64 2, u, .string d]] w fun ex w' => ex = .returned (errV (stpE e (2, ns, nilB)).1) ∧ TurnI w w' B eb vl vc (stpE e (2, ns, nilB)).2 := by
  have HO : Hid (EO w B eb vl vc e) := h
  obtain ⟨ao, c, rfl, hl, hc, hz⟩ := hR
  have hb0 : Below w.heap.size w (w.alloc (.cells #[.int .i64 2, .slice ao ns.length c, .string d] 141)) := (Below.refl _ _).alloc (Nat.le_refl _) _
  have q0 : (w.alloc (.cells #[.int .i64 2, .slice ao ns.length c, .string d] 141)).cell? ⟨w.heap.size, 0, none⟩ = some (.int .i64 2) := by simp
  have q1 : (w.alloc (.cells #[.int .i64 2, .slice ao ns.length c, .string d] 141)).cell? ⟨w.heap.size, 1, none⟩ = some (.slice ao ns.length c) := by simp
  have q2 : (w.alloc (.cells #[.int .i64 2, .slice ao ns.length c, .string d] 141)).cell? ⟨w.heap.size, 2, none⟩ = some (.string d) := by simp
  have hpb : w.heap.size < (w.alloc (.cells #[.int .i64 2, .slice ao ns.length c, .string d] 141)).heap.size := by simp
  have hne : w.heap.size ≠ eb := by have := h.lt; omega
  have HB0 : Hid (Below w.heap.size w (w.alloc (.cells #[.int .i64 2, .slice ao ns.length c, .string d] 141))) := hb0
  obtain ⟨pf, hpf⟩ : ∃ pf, (stpE e (2, ns, nilB)).1 = pf := ⟨_, rfl⟩
  rw [hpf]
  clear h hb0
  go_enter Tryz.func134, Tryz.ntmps134
  go_wp2_with fail
  have HA := hA _ B eb vl vc (.slice ao ns.length c) e (HO.out.below HB0.out) (IRow.below ⟨ao, c, rfl, hl, hc, hz⟩ HB0.out) hue
  rw [hpf] at HA
  clear hpf
  refine HA.mono ?_
  rintro ex w2 ⟨rfl, ht2⟩
  go_wp2_with fail
  go_ret
  exact ⟨rfl, ht2.1, (Off.of_below HB0.out).trans ht2.2⟩
/-- takeFrame, of a frame that is right, whose numbers lie apart from the End. -/
theorem takeFrame_calls {w : World} {B eb : Nat} {vl vc u : Value} {e : En} (h : EO w B eb vl vc e) (f : F) (hf : fF f = 0) (hR : IRow w u f.2.1) (hue : u.ownBlock ≠ some eb) (hA : f.1 = 2 → AckC f.2.1) : Calls Tryz.prog 134 #[.pointer (some ⟨eb, 0, none⟩), .agg #[.int .i64 f.1, u, .string f.2.2]] w fun ex w' => ex = .returned (errV (stpE e f).1) ∧ TurnI w w' B eb vl vc (stpE e f).2 := by
  have hi := h.inv.stp hf
  obtain ⟨k, ns, d⟩ := f
  obtain ⟨h1, h2, h3, h4, h5, h6⟩ := frF_ok hf
  simp only at hR hA h1 h2 h3 h4 h5 h6 ⊢
  by_cases k2 : k = 2
  · subst k2
    have hd : d = nilB := by
      have := h3 (by decide)
      apply ByteArray.ext
      exact Array.eq_empty_of_size_eq_zero this
    subst hd
    exact tf_ack h hR hue (hA rfl)
  · have hl : ns.length = cntK k := by
      unfold cntB at h2
      rw [if_neg k2] at h2
      exact of_decide_eq_true h2
    by_cases k4 : k = 4
    · subst k4
      obtain ⟨z, rfl⟩ : ∃ z, ns = [z] := List.length_eq_one_iff.1 hl
      have e1 : stpE e (4, [z], d) = (0, { e with l := max e.l z }) := rfl
      rw [e1] at hi ⊢
      exact tf_credit h hR hue rfl hi
    · by_cases k3 : k = 3
      · subst k3
        obtain ⟨z, rfl⟩ : ∃ z, ns = [z] := List.length_eq_one_iff.1 hl
        have hz := h4 z (by simp)
        rw [stp_piece]
        exact tf_piece h hR hue rfl (by omega) (by omega) h5
      · have e1 : stpE e (k, ns, d) = (3, e) := by
          unfold stpE
          rw [if_neg k2, if_neg k4, if_neg k3]
        rw [e1]
        exact tf_other h hR hue k2 k4 k3
end Go.Proofs.YtdokgalidhmbbaaGreatDoor
