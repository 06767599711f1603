/- What the law IDsPlay keeps: the IDs, and the document's beside them. -/
import Derived.Test.YtlmllfakoglbcaaDoorJ
import Derived.Test.YtlmllfakoglbcaaDoorP
namespace Go.Proofs.YtlmllfakoglbcaaDoor
open Go.RowKit Go.Lib Go.Sort Go.Shelf
set_option linter.unusedVariables false
set_option linter.unusedSimpArgs false

structure Two (w wr : World) (sb bm mb : Nat) (vs va vg : Value) (L : Int) (ns : List Int) (ls : List R) (ms : List Int) (gs : List Bool) : Prop where
  obj : Obj wr w.heap.size sb bm vs L ns ls
  ref : Ref wr w.heap.size mb va vg L ms gs
  far : ∀ k, own sb bm vs k → ¬ rown mb va vg k
  bel : Below w.heap.size w wr
section
variable {w wr wx : World} {sb bm mb : Nat} {vs vs' va va' vg vg' : Value} {L : Int} {ns ns' ms ms' : List Int} {ls ls' : List R} {gs gs' : List Bool}
theorem Two.off {K : Nat → Prop} (h : Two w wr sb bm mb vs va vg L ns ls ms gs) (ho : Off K wr wx) (hK : ∀ k, K k → w.heap.size ≤ k ∧ ¬ own sb bm vs k ∧ ¬ rown mb va vg k) : Two w wx sb bm mb vs va vg L ns ls ms gs :=
  ⟨h.obj.off ho (fun k hk e => (hK k e).2.1 hk), h.ref.off ho (fun k hk e => (hK k e).2.2 hk), h.far, h.bel.trans (ho.below (fun k hk => (hK k hk).1) h.obj.le)⟩
theorem Two.below (h : Two w wr sb bm mb vs va vg L ns ls ms gs) (hb : Below wr.heap.size wr wx) : Two w wx sb bm mb vs va vg L ns ls ms gs :=
  ⟨h.obj.below hb, h.ref.below hb, h.far, h.bel.trans (hb.mono h.bel.size)⟩
theorem Two.alloc (h : Two w wr sb bm mb vs va vg L ns ls ms gs) (o : Go.Obj) : Two w (wr.alloc o) sb bm mb vs va vg L ns ls ms gs := h.below ((Below.refl _ _).alloc (Nat.le_refl _) _)
theorem Two.drew (h : Two w wr sb bm mb vs va vg L ns ls ms gs) : Two w wr.drew sb bm mb vs va vg L ns ls ms gs := h.below (Below.refl _ _).drew
theorem Two.lt (h : Two w wr sb bm mb vs va vg L ns ls ms gs) {k : Nat} (hk : own sb bm vs k ∨ rown mb va vg k) : k < wr.heap.size := hk.elim (fun e => h.obj.lt e) (fun e => h.ref.lt e)
theorem Two.objTurn (h : Two w wr sb bm mb vs va vg L ns ls ms gs) (hO : Obj wx w.heap.size sb bm vs' L ns' ls') (ho : Off (own sb bm vs) wr wx) (hv : vs'.ownBlock = vs.ownBlock ∨ ∃ k, vs'.ownBlock = some k ∧ wr.heap.size ≤ k) : Two w wx sb bm mb vs' va vg L ns' ls' ms gs := by
  refine ⟨hO, h.ref.off ho (fun k hk e => h.far k e hk), fun k hk hr => ?_, h.bel.trans (ho.below (fun k hk => h.obj.ge hk) h.obj.le)⟩
  have hlt := h.ref.lt hr
  rcases hk with e | e | e
  · exact h.far k (.inl e) hr
  · exact h.far k (.inr (.inl e)) hr
  · rcases hv with hv | ⟨g, hv, hl⟩
    · exact h.far k (.inr (.inr (hv ▸ e))) hr
    · rw [hv] at e
      have : g = k := Option.some.inj e
      omega
theorem Two.refTurn (h : Two w wr sb bm mb vs va vg L ns ls ms gs) (hR : Ref wx w.heap.size mb va' vg' L ms' gs') (ho : Off (rown mb va vg) wr wx) (hv : ∀ k, rown mb va' vg' k → rown mb va vg k ∨ wr.heap.size ≤ k) : Two w wx sb bm mb vs va' vg' L ns ls ms' gs' := by
  refine ⟨h.obj.off ho (fun k hk e => h.far k hk e), hR, fun k hk hr => ?_, h.bel.trans (ho.below (fun k hk => h.ref.ge hk) h.ref.le)⟩
  rcases hv k hr with e | e
  · exact h.far k hk e
  · have := h.obj.lt hk; omega
end
theorem gone_lv (ns : List Int) (gs : List Bool) (j : Nat) : gone (lv 0 ns gs) (j : Int) = lv 0 ns (gs.set j true) := by rw [lv_set, Nat.zero_add]; rfl
theorem lv_more {ns : List Int} {gs : List Bool} (hl : gs.length = ns.length) (n : Int) : lv 0 ns gs ++ [((ns.length : Int), n)] = lv 0 (ns ++ [n]) (gs ++ [false]) := by rw [lv_snoc n ns gs 0 hl.symm, Nat.zero_add]
theorem set_length {gs : List Bool} {ns : List Int} {j : Nat} (h : gs.length = ns.length) : (gs.set j true).length = ns.length := by simpa using h
theorem snoc_length {gs : List Bool} {ns : List Int} {n : Int} (h : gs.length = ns.length) : (gs ++ [false]).length = (ns ++ [n]).length := by simp [h]
/-- One place of a box of two is written. -/
theorem IdBox.set0 {w : World} {b : Nat} {q n : Int} (h : IdBox w b q n) (q' : Int) : IdBox (w.setCell ⟨b, 0, none⟩ (.int .i64 q')) b q' n :=
  ⟨by simpa using h.lt, World.cell?_setCell_same _ _ _ h.c0, by rw [World.cell?_setCell_other _ _ _ _ (by simp)]; exact h.c1, by simpa using h.f0, by simpa using h.f1⟩
theorem IdBox.set1 {w : World} {b : Nat} {q n : Int} (h : IdBox w b q n) (n' : Int) : IdBox (w.setCell ⟨b, 1, none⟩ (.int .i64 n')) b q n' :=
  ⟨by simpa using h.lt, by rw [World.cell?_setCell_other _ _ _ _ (by simp)]; exact h.c0, World.cell?_setCell_same _ _ _ h.c1, by simpa using h.f0, by simpa using h.f1⟩
theorem wf_zero : wf64 0 := by unfold wf64; decide
/-- The one of a name among the live ones, or that there is none. -/
theorem live_name {L : Int} {ns : List Int} {gs : List Bool} (inv : Inv L ns (lv 0 ns gs)) (n : Int) : (∃ j p : Nat, ns[j]? = some n ∧ isIn (lv 0 ns gs) (j : Int) = true ∧ p < (lv 0 ns gs).length ∧ at' (lv 0 ns gs) p = ((j : Int), n) ∧ ∀ i, i < (lv 0 ns gs).length → i ≠ p → (at' (lv 0 ns gs) i).2 ≠ n) ∨
    ((∀ i, i < (lv 0 ns gs).length → (at' (lv 0 ns gs) i).2 ≠ n) ∧ (n ∉ ns ∨ ∃ j : Nat, ns[j]? = some n ∧ isIn (lv 0 ns gs) (j : Int) = false)) := by
  by_cases hn : n ∈ ns
  · obtain ⟨j, hj, e⟩ := List.getElem_of_mem hn
    have hj' : ns[j]? = some n := by rw [List.getElem?_eq_getElem hj, e]
    have key : ∀ i, i < (lv 0 ns gs).length → (at' (lv 0 ns gs) i).2 = n → at' (lv 0 ns gs) i = ((j : Int), n) := fun i hi e2 => by
      obtain ⟨q, h1, h2⟩ := inv.was _ (at_mem hi)
      rw [e2] at h2
      have : q = j := nodup_at inv.nodup h2 hj'
      exact inv.same (at_mem hi) hj' (by omega)
    cases hl : isIn (lv 0 ns gs) (j : Int) with
    | true =>
      left
      rcases pos_cases (lv 0 ns gs) (j : Int) with ⟨_, p, hp, _, hat⟩ | ⟨h1, _⟩
      · have hx := inv.same (at_mem hp) hj' hat
        refine ⟨j, p, hj', hl, hp, hx, fun i hi hne e2 => ?_⟩
        have hk := key i hi e2
        have hr := inv.rise
        rcases Nat.lt_or_gt_of_ne hne with hlt | hlt
        · have := List.pairwise_iff_getElem.1 hr i p hi hp hlt
          have a1 : at' (lv 0 ns gs) i = (lv 0 ns gs)[i] := by simp [at', hi]
          have a2 : at' (lv 0 ns gs) p = (lv 0 ns gs)[p] := by simp [at', hp]
          rw [← a1, ← a2, hk, hx] at this
          exact absurd this (Int.lt_irrefl _)
        · have := List.pairwise_iff_getElem.1 hr p i hp hi hlt
          have a1 : at' (lv 0 ns gs) i = (lv 0 ns gs)[i] := by simp [at', hi]
          have a2 : at' (lv 0 ns gs) p = (lv 0 ns gs)[p] := by simp [at', hp]
          rw [← a1, ← a2, hk, hx] at this
          exact absurd this (Int.lt_irrefl _)
      · rw [hl] at h1; cases h1
    | false =>
      refine .inr ⟨fun i hi e2 => ?_, .inr ⟨j, hj', hl⟩⟩
      have hk := key i hi e2
      have : (at' (lv 0 ns gs) i).1 ≠ (j : Int) := isIn_no hl _ (at_mem hi)
      rw [hk] at this
      exact this rfl
  · refine .inr ⟨fun i hi e2 => ?_, .inl hn⟩
    obtain ⟨q, _, h2⟩ := inv.was _ (at_mem hi)
    rw [e2] at h2
    exact hn (List.mem_of_getElem? h2)
end Go.Proofs.YtlmllfakoglbcaaDoor
