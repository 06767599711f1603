/- What keep leaves. What Make answers, and what it leaves. What keep leaves, where packets were made ahead. -/
import Derived.Test.YtdnehibcpkjafaaGreatDoorGE
import Derived.Test.YtdnehibcpkjafaaGreatDoorGQ
import Derived.Laws.OwnMore
import Derived.Deep.AppendLies
import Derived.Great.Walk
import Derived.Deep.RegionHeld3
namespace Go.Proofs.YtdnehibcpkjafaaGreatDoor
open Go.RowKit Go.Lib Go.Sort
set_option linter.unusedVariables false
set_option linter.unusedSimpArgs false


theorem keepL_same {ls : List Ld} {x : Ld} {m a b : Nat} (h1 : x.a = a) (h2 : x.b = b) : keepL (ls ++ [x]) m a b = ls ++ [⟨x.lo, m, a, b⟩] := by
  unfold keepL
  rw [List.getLast?_concat]
  simp only [h1, h2, and_self, if_true, List.dropLast_concat]
theorem keepL_new {ls : List Ld} {x : Ld} {m a b : Nat} (h : ¬ (x.a = a ∧ x.b = b)) : keepL (ls ++ [x]) m a b = (ls ++ [x]) ++ [⟨m, m, a, b⟩] := by
  unfold keepL
  rw [List.getLast?_concat]
  simp only [h, if_false]
def hadF (a b : Nat) (i : Nat) : Bool := decide (a ≤ i ∧ i < b)
theorem lds1_brow (lo hi a b : Nat) : lds1 ⟨lo, hi, a, b⟩ = .int .i64 lo :: .int .i64 hi :: brow (hadF a b) := rfl
theorem had_same {a b c d : Nat} (h1 : a < b ∨ (a = 0 ∧ b = 0)) (h2 : c < d ∨ (c = 0 ∧ d = 0)) (hb : b ≤ 60) (hd : d ≤ 60) : ((List.range 60).all fun i => hadF a b i == hadF c d i) = decide (a = c ∧ b = d) := by
  by_cases h : a = c ∧ b = d
  · rw [decide_eq_true h, List.all_eq_true]
    obtain ⟨rfl, rfl⟩ := h
    intro i _
    simp
  · rw [decide_eq_false h, List.all_eq_false]
    have key : ∃ i, i < 60 ∧ hadF a b i ≠ hadF c d i := by
      rcases h1 with h1 | ⟨rfl, rfl⟩
      · rcases h2 with h2 | ⟨rfl, rfl⟩
        · by_cases e : a = c
          · subst e
            by_cases e2 : b < d
            · exact ⟨b, by omega, by unfold hadF; rw [decide_eq_false (by omega), decide_eq_true (by omega)]; decide⟩
            · exact ⟨d, by omega, by unfold hadF; rw [decide_eq_true (by omega), decide_eq_false (by omega)]; decide⟩
          · by_cases e2 : a < c
            · exact ⟨a, by omega, by unfold hadF; rw [decide_eq_true (by omega), decide_eq_false (by omega)]; decide⟩
            · exact ⟨c, by omega, by unfold hadF; rw [decide_eq_false (by omega), decide_eq_true (by omega)]; decide⟩
        · exact ⟨a, by omega, by unfold hadF; rw [decide_eq_true (by omega), decide_eq_false (by omega)]; decide⟩
      · rcases h2 with h2 | ⟨rfl, rfl⟩
        · exact ⟨c, by omega, by unfold hadF; rw [decide_eq_false (by omega), decide_eq_true (by omega)]; decide⟩
        · exact absurd ⟨rfl, rfl⟩ h
    obtain ⟨i, hi, hne⟩ := key
    exact ⟨i, by simpa using hi, by simpa using hne⟩
theorem yields_load {ops : Array Oper} {S : World → Prop} {op : Oper} {a : Act} {L : Array Value} {m : Int} {f : Nat → Bool} (hw : Region.wanted op (yielded ops a.tmps) = true) (x y : Operand) (ho : op.op = .build 143 #[(0, x), (1, y)]) (hx : a.eval x = .agg #[.int .i64 m, .int .i64 m]) (hy : a.eval y = .agg (brow f).toArray)
    (hb : ∀ W : World, (Instr.build 143 #[(0, .agg #[.int .i64 m, .int .i64 m]), (1, .agg (brow f).toArray)]).run Tryz.prog W = .ok (.agg L) W) : YieldsIf Tryz.prog ops S op (.agg L) a :=
  .inl ⟨hw, fun w _ => by
    unfold execOp
    simp only [ho, List.map_toArray, List.map_cons, List.map_nil, hx, hy, Sem.run_bind, hb, Result.andThen_ok, Sem.run_pure]⟩
theorem step_loads {ops : Array Oper} {o : Oper} {a : Act} {w : World} {K : Act → World → Prop} {Q : Exit → Act → World → Prop} {E : Prop} {L : Array Value} (hgd : o.guard = none) (x : Operand) (ho : o.op = .buildSlice 63 1 #[(0, x)]) (hx : a.eval x = .agg L)
    (hb : ∀ W : World, (Instr.buildSlice 63 1 #[(0, .agg L)]).run Tryz.prog W = .ok (.slice (some ⟨W.heap.size, 0, none⟩) 1 1) (W.alloc (.cells L 143))) (h : K (a.put o.dst (.slice (some ⟨w.heap.size, 0, none⟩) 1 1)) (w.alloc (.cells L 143))) :
    if Region.wanted o (yielded ops a.tmps) = true then Oper.wp Tryz.prog o a w K Q else E := by
  have hw : Region.wanted o (yielded ops a.tmps) = true := by simp [Region.wanted, hgd]
  rw [if_pos hw]
  unfold Oper.wp execOp
  simp only [ho, List.map_toArray, List.map_cons, List.map_nil, hx, Sem.run_bind, hb, Result.andThen_ok, Sem.run_pure]
  exact h
/-- What keep leaves: the loads are now ls. -/
structure KeepPost (w w' : World) (B eb : Nat) (vl vc : Value) (e : En) (vl' : Value) (ls : List Ld) : Prop where
  cl : ∀ i, i < 251 → w'.cell? ⟨eb, i, none⟩ = some (ecell e vl' vc i)
  fz : ∀ i, w'.frozen? ⟨eb, i, none⟩ = false
  ld : w'.ownsRow B 143 62 vl' ls.length (lds ls)
  cm : w'.ownsRow B 129 2 vc e.cm.length (flat e.cm)
  ap : vl'.ownBlock ≠ some eb
  off : Off (OwnE eb vl vc) w w'
  own : ∀ k, vl'.ownBlock = some k → vl.ownBlock = some k ∨ w.heap.size ≤ k
theorem ecell_vl {e : En} {vl vl' vc : Value} {i : Nat} (h : i ≠ 124) : ecell e vl' vc i = ecell e vl vc i := by
  unfold ecell
  simp only [h, if_false]
theorem loads_apart {w : World} {B B' n m : Nat} {u v : Value} {xs ys : List Value} (h : w.ownsRow B 143 62 u n xs) (h' : w.ownsRow B' 129 2 v m ys) : ∀ k, v.ownBlock = some k → u.ownBlock ≠ some k := by
  intro k hk hu
  rcases h.2 with ⟨rfl, _⟩ | ⟨g, cap, cur, rfl, _, hg, _⟩
  · cases hu
  · rcases h'.2 with ⟨rfl, _⟩ | ⟨g', cap', cur', rfl, _, hg', _⟩
    · cases hk
    · obtain rfl : g = k := by simpa [Value.ownBlock] using hu
      obtain rfl : g' = g := by simpa [Value.ownBlock] using hk
      rw [hg] at hg'
      cases hg'
theorem infoL : (Tryz.prog.info? 143).map (fun i => (i.zero, i.size, i.bytes)) = some (some (.agg (lds1 ⟨0, 0, 0, 0⟩).toArray), 62, 80) := by kernel_rfl
theorem build_load (m : Int) (f : Nat → Bool) (W : World) : (Instr.build 143 #[(0, .agg #[.int .i64 m, .int .i64 m]), (1, .agg (brow f).toArray)]).run Tryz.prog W = .ok (.agg (.int .i64 m :: .int .i64 m :: brow f).toArray) W := by kernel_rfl
theorem build_loads (m : Int) (f : Nat → Bool) (W : World) : (Instr.buildSlice 63 1 #[(0, .agg (.int .i64 m :: .int .i64 m :: brow f).toArray)]).run Tryz.prog W = .ok (.slice (some ⟨W.heap.size, 0, none⟩) 1 1) (W.alloc (.cells (.int .i64 m :: .int .i64 m :: brow f).toArray 143)) := by kernel_rfl
theorem KeepPost.grown {w X Y w' : World} {B eb n : Nat} {vl vc : Value} {e : En} {g cap m a b : Nat} (h : EO w B eb vl vc e) (hX : Below w.heap.size w X) (hg : X.grownBy Y vl.ownBlock)
    (ho : Y.ownsRow B 143 62 (.slice (some ⟨g, 0, none⟩) (n + 1) cap) (n + 1) (lds e.ls ++ lds1 ⟨m, m, a, b⟩)) (hn : n = e.ls.length) (hat : vl.ownBlock = some g ∨ g = X.heap.size) (hw : w' = Y.setCell ⟨eb, 124, none⟩ (.slice (some ⟨g, 0, none⟩) (n + 1) cap)) :
    KeepPost w w' B eb vl vc e (.slice (some ⟨g, 0, none⟩) (n + 1) cap) (e.ls ++ [⟨m, m, a, b⟩]) := by
  subst hn hw
  have hlt := h.lt
  have hltX : eb < X.heap.size := Nat.lt_of_lt_of_le hlt hX.size
  have hne : some eb ≠ vl.ownBlock := fun e => h.ap.1 e.symm
  have hgeb : g ≠ eb := by
    rcases hat with e | e
    · intro e'; subst e'; exact h.ap.1 e
    · omega
  have oY : Off (OwnE eb vl vc) w Y := (Off.of_below hX).trans (Off.of_grown hg fun k e => .inr (.inl e))
  refine ⟨fun i hi => ?_, fun i => ?_, ?_, ?_, ?_, oY.setCell (.inl rfl) _, ?_⟩
  · by_cases e1 : i = 124
    · subst e1
      rw [ecell_loads]
      refine World.cell?_setCell_same _ _ _ (show Y.cell? ⟨eb, 124, none⟩ = some vl from ?_)
      rw [hg.cell_far ⟨eb, 124, none⟩ hltX hne, hX.cell (p := ⟨eb, 124, none⟩) hlt, h.cl 124 (by omega), ecell_loads]
    · rw [ecell_vl (vl := vl) e1, World.cell?_setCell_other _ _ _ _ (fun e' => by injection e' with _ e' _; exact e1 e'.symm), hg.cell_far ⟨eb, i, none⟩ hltX hne, hX.cell (p := ⟨eb, i, none⟩) hlt]
      exact h.cl i hi
  · rw [World.frozen?_setCell, hg.frozen_far ⟨eb, i, none⟩ hltX hne, World.frozen?_of_block (hX.block eb hlt)]
    exact h.fz i
  · have h3 := ((Off.refl (fun k => k = eb) Y).setCell (a := ⟨eb, 124, none⟩) rfl (.slice (some ⟨g, 0, none⟩) (e.ls.length + 1) cap)).row ho (fun k hk e' => by
      subst e'
      simp [Value.ownBlock] at hk
      exact hgeb hk)
    have e5 : lds (e.ls ++ [⟨m, m, a, b⟩]) = lds e.ls ++ lds1 ⟨m, m, a, b⟩ := by simp [lds]
    rw [List.length_append, e5]
    exact h3
  · have h1 := own_below h.cm hX
    have h2 : Y.ownsRow B 129 2 vc e.cm.length (flat e.cm) := (Off.of_grown (K := fun k => vl.ownBlock = some k) hg fun k e => e).row h1 fun k hk => loads_apart h.ld h.cm k hk
    refine ((Off.refl (fun k => k = eb) Y).setCell (a := ⟨eb, 124, none⟩) rfl _).row h2 fun k hk e' => ?_
    subst e'
    exact h.ap.2 hk
  · intro e'
    simp [Value.ownBlock] at e'
    exact hgeb e'
  · intro k hk
    simp [Value.ownBlock] at hk
    subst hk
    rcases hat with e | e
    · exact .inl e
    · exact .inr (by rw [e]; exact hX.size)

end Go.Proofs.YtdnehibcpkjafaaGreatDoor

namespace Go.Proofs.YtdnehibcpkjafaaGreatDoor
open Go.RowKit Go.Lib Go.Sort
set_option linter.unusedVariables false
set_option linter.unusedSimpArgs false


theorem ecell_m {e : En} {ls : List Ld} {vl vc : Value} {i : Nat} (h : i ≠ 122) : ecell { e with ls := ls, m := e.m + 1 } vl vc i = ecell e vl vc i := by
  unfold ecell
  simp only [h, if_false]
theorem Turn.made {w w' : World} {B eb : Nat} {vl vc vl' : Value} {e : En} (h : EO w B eb vl vc e) (h0 : makeF e = 0) (hk : KeepPost w w' B eb vl vc e vl' (keepL e.ls e.m (pk e).1 (pk e).2)) {z : Int} (hz : z = ((e.m + 1 : Nat) : Int)) :
    Turn w (w'.setCell ⟨eb, 122, none⟩ (.int .i64 z)) B eb vl vc (makeS e) := by
  subst hz
  have hi := h.inv.make
  have hs : makeS e = { e with ls := keepL e.ls e.m (pk e).1 (pk e).2, m := e.m + 1 } := by unfold makeS; rw [if_pos h0]
  rw [hs] at hi ⊢
  refine ⟨vl', vc, ⟨hi, fun i hi => ?_, fun i => by simpa using hk.fz i, h.hs, ?_, ?_, hk.ap, h.ap.2⟩, hk.off.setCell (a := ⟨eb, 122, none⟩) (.inl rfl) _, fun k hk' => ?_⟩
  · by_cases e1 : i = 122
    · subst e1
      rw [ecell_made]
      exact World.cell?_setCell_same _ _ _ (hk.cl 122 (by omega))
    · rw [ecell_m e1, World.cell?_setCell_other _ _ _ _ (fun e' => by injection e' with _ e' _; exact e1 e'.symm)]
      exact hk.cl i hi
  · exact ((Off.refl (fun k => k = eb) w').setCell (a := ⟨eb, 122, none⟩) rfl _).row hk.ld (fun k hk' e' => by subst e'; exact hk.ap hk')
  · exact ((Off.refl (fun k => k = eb) w').setCell (a := ⟨eb, 122, none⟩) rfl _).row hk.cm (fun k hk' e' => by subst e'; exact h.ap.2 hk')
  · rcases hk' with rfl | hk' | hk'
    · exact .inl (.inl rfl)
    · rcases hk.own k hk' with h | h
      · exact .inl (.inr (.inl h))
      · exact .inr h
    · exact .inl (.inr (.inr hk'))
end Go.Proofs.YtdnehibcpkjafaaGreatDoor

namespace Go.Proofs.YtdnehibcpkjafaaGreatDoor
open Go.RowKit Go.Lib Go.Sort
set_option linter.unusedVariables false
set_option linter.unusedSimpArgs false


theorem yields_eql {ops : Array Oper} {S : World → Prop} {op : Oper} {a : Act} {f g : Nat → Bool} {r : Bool} (hw : Region.wanted op (yielded ops a.tmps) = true) (x y : Operand) (ho : op.op = .binOp .eql 62 x y 62) (hx : a.eval x = .agg (brow f).toArray) (hy : a.eval y = .agg (brow g).toArray)
    (hr : ((List.range 60).all fun i => f i == g i) = r) : YieldsIf Tryz.prog ops S op (.bool r) a :=
  .inl ⟨hw, fun w _ => by
    have h1 := eq_rows f g w
    rw [hr] at h1
    have hm : Tryz.prog.eqGuardType Tryz.prog.depth 62 = false := by kernel_rfl
    have h2 := run_eqGuard_agg (P := Tryz.prog) w .eql 62 x y (brow f).toArray (brow g).toArray hm
    unfold execOp
    simp only [ho, hx, hy, Sem.run_bind, h2, h1, Result.andThen_ok, Sem.run_pure]⟩
theorem results_none {fn : Func} (h : fn.results = #[]) (tmps : Array Value) (w : World) : (results fn tmps).run Tryz.prog w = .ok (.tuple #[]) w := by
  simp [results, h]
/-- The last load has one packet more. -/
theorem KeepPost.same {w X : World} {B eb k g cap m a b : Nat} {vl vc : Value} {e : En} {front : List Ld} {y : Ld} (h : EO w B eb vl vc e) (hX : Below w.heap.size w X) (hls : e.ls = front ++ [y]) (hk : k = front.length) (ha : y.a = a) (hb : y.b = b) (hvl : vl = .slice (some ⟨g, 0, none⟩) (k + 1) cap) :
    KeepPost w (X.setCell ⟨g, k * 62 + 1, none⟩ (.int .i64 (m : Int))).drew B eb vl vc e vl (front ++ [⟨y.lo, m, a, b⟩]) := by
  subst hk hvl
  have hX1 := h.below hX
  have hne : g ≠ eb := fun e' => h.ap.1 (by rw [e']; rfl)
  have o : Off (fun j => j = g) X (X.setCell ⟨g, front.length * 62 + 1, none⟩ (.int .i64 (m : Int))) := (Off.refl _ _).setCell (K := fun j => j = g) (a := ⟨g, front.length * 62 + 1, none⟩) rfl _
  have o2 : Off (OwnE eb (.slice (some ⟨g, 0, none⟩) (front.length + 1) cap) vc) w (X.setCell ⟨g, front.length * 62 + 1, none⟩ (.int .i64 (m : Int))).drew := ((Off.of_below hX).trans (o.mono fun j _ hj => .inr (.inl (by rw [hj]; rfl)))).drew
  have hld := hX1.ld
  rw [hls] at hld
  have hl1 : (front ++ [y]).length = front.length + 1 := by simp
  rw [hl1] at hld
  have hst := (hld.stored (front.length * 62 + 1) (.int .i64 (m : Int))).1
  have e5 : (lds (front ++ [y])).set (front.length * 62 + 1) (.int .i64 (m : Int)) = lds (front ++ [⟨y.lo, m, a, b⟩]) := by
    rw [lds_append, lds_append, List.set_append, lds_length, if_neg (by omega)]
    have : front.length * 62 + 1 - front.length * 62 = 1 := by omega
    rw [this]
    simp [lds, lds1, ha, hb]
  rw [e5] at hst
  refine ⟨fun i hi => ?_, fun i => ?_, ?_, ?_, h.ap.1, o2, fun j hj => .inl hj⟩
  · show (X.setCell _ _).cell? _ = _
    rw [World.cell?_setCell_other _ _ _ _ (fun e' => by injection e' with e' _ _; exact hne e')]
    exact hX1.cl i hi
  · show (X.setCell _ _).frozen? _ = _
    rw [World.frozen?_setCell]
    exact hX1.fz i
  · rw [List.length_append]
    exact hst
  · exact o.row hX1.cm fun j hj e' => by
      subst e'
      exact loads_apart h.ld h.cm j hj rfl

end Go.Proofs.YtdnehibcpkjafaaGreatDoor
