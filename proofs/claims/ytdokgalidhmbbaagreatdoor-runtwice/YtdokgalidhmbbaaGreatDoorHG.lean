/- What the laws of package run need. -/
import Derived.Test.YtdokgalidhmbbaaGreatDoorHE
import Derived.Deep.AppendLies
import Derived.Great.Walk
set_option linter.unusedVariables false
set_option linter.unusedSimpArgs false
set_option maxRecDepth 100000
set_option maxHeartbeats 8000000
namespace Go.Proofs.YtdokgalidhmbbaaGreatDoor
open Go.RowKit Go.Lib Go.Sort


theorem keepL_same {ls : List Ld} {x : Ld} {m a b : Nat} (h1 : x.a = a) (h2 : x.b = b) : keepL (ls ++ [x]) m a b = ls ++ [⟨x.lo, m, a, b⟩] := by
  unfold keepL
  rw [List.getLast?_concat]
  simp only [h1, h2, and_self, if_true, List.dropLast_concat]
theorem keepL_new {ls : List Ld} {x : Ld} {m a b : Nat} (h : ¬ (x.a = a ∧ x.b = b)) : keepL (ls ++ [x]) m a b = (ls ++ [x]) ++ [⟨m, m, a, b⟩] := by
  unfold keepL
  rw [List.getLast?_concat]
  simp only [h, if_false]
def hadF (a b : Nat) (i : Nat) : Bool := decide (a ≤ i ∧ i < b)
theorem lds1_brow (lo hi a b : Nat) : lds1 ⟨lo, hi, a, b⟩ = .int .i64 lo :: .int .i64 hi :: brow (hadF a b) := rfl
theorem had_same {a b c d : Nat} (h1 : a < b ∨ (a = 0 ∧ b = 0)) (h2 : c < d ∨ (c = 0 ∧ d = 0)) (hb : b ≤ 60) (hd : d ≤ 60) : ((List.range 60).all fun i => hadF a b i == hadF c d i) = decide (a = c ∧ b = d) := by
  by_cases h : a = c ∧ b = d
  · rw [decide_eq_true h, List.all_eq_true]
    obtain ⟨rfl, rfl⟩ := h
    intro i _
    simp
  · rw [decide_eq_false h, List.all_eq_false]
    have key : ∃ i, i < 60 ∧ hadF a b i ≠ hadF c d i := by
      rcases h1 with h1 | ⟨rfl, rfl⟩
      · rcases h2 with h2 | ⟨rfl, rfl⟩
        · by_cases e : a = c
          · subst e
            by_cases e2 : b < d
            · exact ⟨b, by omega, by unfold hadF; rw [decide_eq_false (by omega), decide_eq_true (by omega)]; decide⟩
            · exact ⟨d, by omega, by unfold hadF; rw [decide_eq_true (by omega), decide_eq_false (by omega)]; decide⟩
          · by_cases e2 : a < c
            · exact ⟨a, by omega, by unfold hadF; rw [decide_eq_true (by omega), decide_eq_false (by omega)]; decide⟩
            · exact ⟨c, by omega, by unfold hadF; rw [decide_eq_false (by omega), decide_eq_true (by omega)]; decide⟩
        · exact ⟨a, by omega, by unfold hadF; rw [decide_eq_true (by omega), decide_eq_false (by omega)]; decide⟩
      · rcases h2 with h2 | ⟨rfl, rfl⟩
        · exact ⟨c, by omega, by unfold hadF; rw [decide_eq_false (by omega), decide_eq_true (by omega)]; decide⟩
        · exact absurd ⟨rfl, rfl⟩ h
    obtain ⟨i, hi, hne⟩ := key
    exact ⟨i, by simpa using hi, by simpa using hne⟩
theorem yields_load {ops : Array Oper} {S : World → Prop} {op : Oper} {a : Act} {L : Array Value} {m : Int} {f : Nat → Bool} (hw : Region.wanted op (yielded ops a.tmps) = true) (x y : Operand) (ho : op.op = .build 241 #[(0, x), (1, y)]) (hx : a.eval x = .agg #[.int .i64 m, .int .i64 m]) (hy : a.eval y = .agg (brow f).toArray)
    (hb : ∀ W : World, (Instr.build 241 #[(0, .agg #[.int .i64 m, .int .i64 m]), (1, .agg (brow f).toArray)]).run Tryz.prog W = .ok (.agg L) W) : YieldsIf Tryz.prog ops S op (.agg L) a :=
  .inl ⟨hw, fun w _ => by
    unfold execOp
    simp only [ho, List.map_toArray, List.map_cons, List.map_nil, hx, hy, Sem.run_bind, hb, Result.andThen_ok, Sem.run_pure]⟩
theorem step_loads {ops : Array Oper} {o : Oper} {a : Act} {w : World} {K : Act → World → Prop} {Q : Exit → Act → World → Prop} {E : Prop} {L : Array Value} (hgd : o.guard = none) (x : Operand) (ho : o.op = .buildSlice 98 1 #[(0, x)]) (hx : a.eval x = .agg L)
    (hb : ∀ W : World, (Instr.buildSlice 98 1 #[(0, .agg L)]).run Tryz.prog W = .ok (.slice (some ⟨W.heap.size, 0, none⟩) 1 1) (W.alloc (.cells L 241))) (h : K (a.put o.dst (.slice (some ⟨w.heap.size, 0, none⟩) 1 1)) (w.alloc (.cells L 241))) :
    if Region.wanted o (yielded ops a.tmps) = true then Oper.wp Tryz.prog o a w K Q else E := by
  have hw : Region.wanted o (yielded ops a.tmps) = true := by simp [Region.wanted, hgd]
  rw [if_pos hw]
  unfold Oper.wp execOp
  simp only [ho, List.map_toArray, List.map_cons, List.map_nil, hx, Sem.run_bind, hb, Result.andThen_ok, Sem.run_pure]
  exact h
/-- What keep leaves: the loads are now ls. -/
structure KeepPost (w w' : World) (B eb : Nat) (vl vc : Value) (e : En) (vl' : Value) (ls : List Ld) : Prop where
  cl : ∀ i, i < 251 → w'.cell? ⟨eb, i, none⟩ = some (ecell e vl' vc i)
  fz : ∀ i, w'.frozen? ⟨eb, i, none⟩ = false
  ld : w'.ownsRow B 241 62 vl' ls.length (lds ls)
  cm : w'.ownsRow B 143 2 vc e.cm.length (flat e.cm)
  ap : vl'.ownBlock ≠ some eb
  off : Off (OwnE eb vl vc) w w'
  own : ∀ k, vl'.ownBlock = some k → vl.ownBlock = some k ∨ w.heap.size ≤ k
theorem ecell_vl {e : En} {vl vl' vc : Value} {i : Nat} (h : i ≠ 124) : ecell e vl' vc i = ecell e vl vc i := by
  unfold ecell
  simp only [h, if_false]
theorem loads_apart {w : World} {B B' n m : Nat} {u v : Value} {xs ys : List Value} (h : w.ownsRow B 241 62 u n xs) (h' : w.ownsRow B' 143 2 v m ys) : ∀ k, v.ownBlock = some k → u.ownBlock ≠ some k := by
  intro k hk hu
  rcases h.2 with ⟨rfl, _⟩ | ⟨g, cap, cur, rfl, _, hg, _⟩
  · cases hu
  · rcases h'.2 with ⟨rfl, _⟩ | ⟨g', cap', cur', rfl, _, hg', _⟩
    · cases hk
    · obtain rfl : g = k := by simpa [Value.ownBlock] using hu
      obtain rfl : g' = g := by simpa [Value.ownBlock] using hk
      rw [hg] at hg'
      cases hg'
theorem infoL : (Tryz.prog.info? 241).map (fun i => (i.zero, i.size, i.bytes)) = some (some (.agg (lds1 ⟨0, 0, 0, 0⟩).toArray), 62, 80) := by kernel_rfl
theorem build_load (m : Int) (f : Nat → Bool) (W : World) : (Instr.build 241 #[(0, .agg #[.int .i64 m, .int .i64 m]), (1, .agg (brow f).toArray)]).run Tryz.prog W = .ok (.agg (.int .i64 m :: .int .i64 m :: brow f).toArray) W := by kernel_rfl
theorem build_loads (m : Int) (f : Nat → Bool) (W : World) : (Instr.buildSlice 98 1 #[(0, .agg (.int .i64 m :: .int .i64 m :: brow f).toArray)]).run Tryz.prog W = .ok (.slice (some ⟨W.heap.size, 0, none⟩) 1 1) (W.alloc (.cells (.int .i64 m :: .int .i64 m :: brow f).toArray 241)) := by kernel_rfl


theorem ecell_m {e : En} {ls : List Ld} {vl vc : Value} {i : Nat} (h : i ≠ 122) : ecell { e with ls := ls, m := e.m + 1 } vl vc i = ecell e vl vc i := by
  unfold ecell
  simp only [h, if_false]


theorem yields_eql {ops : Array Oper} {S : World → Prop} {op : Oper} {a : Act} {f g : Nat → Bool} {r : Bool} (hw : Region.wanted op (yielded ops a.tmps) = true) (x y : Operand) (ho : op.op = .binOp .eql 97 x y 97) (hx : a.eval x = .agg (brow f).toArray) (hy : a.eval y = .agg (brow g).toArray)
    (hr : ((List.range 60).all fun i => f i == g i) = r) : YieldsIf Tryz.prog ops S op (.bool r) a :=
  .inl ⟨hw, fun w _ => by
    have h1 := eq_rows f g w
    rw [hr] at h1
    have hm : Tryz.prog.eqGuardType Tryz.prog.depth 97 = false := by kernel_rfl
    have h2 := run_eqGuard_agg (P := Tryz.prog) w .eql 97 x y (brow f).toArray (brow g).toArray hm
    unfold execOp
    simp only [ho, hx, hy, Sem.run_bind, h2, h1, Result.andThen_ok, Sem.run_pure]⟩
theorem results_none {fn : Func} (h : fn.results = #[]) (tmps : Array Value) (w : World) : (results fn tmps).run Tryz.prog w = .ok (.tuple #[]) w := by
  simp [results, h]
end Go.Proofs.YtdokgalidhmbbaaGreatDoor
