/- What the law ProofPlays keeps: what is open, the document's beside it, and a box of five integers. -/
import Derived.Test.YtkfhfljoalbkkaaDoorC
import Derived.Test.YtkfhfljoalbkkaaDoorD
import Derived.Test.YtkfhfljoalbkkaaDoorF
import Derived.Test.YtkfhfljoalbkkaaDoorP
import Derived.Test.YtkfhfljoalbkkaaDoorK
namespace Go.Proofs.YtkfhfljoalbkkaaDoor
open Go.RowKit Go.Lib Go.Sort
set_option linter.unusedVariables false
set_option linter.unusedSimpArgs false

structure Two (w wr : World) (sb bm mb : Nat) (v : Value) (ls ms : List T) : Prop where
  obj : Obj wr w.heap.size sb bm ls
  ref : Ref wr w.heap.size mb v ms
  far : ∀ k, own sb bm k → ¬ rown mb v k
  bel : Below w.heap.size w wr
section
variable {w wr wx : World} {sb bm mb : Nat} {v v' : Value} {ls ls' ms ms' : List T}
theorem Two.off {K : Nat → Prop} (h : Two w wr sb bm mb v ls ms) (ho : Off K wr wx) (hK : ∀ k, K k → w.heap.size ≤ k ∧ ¬ own sb bm k ∧ ¬ rown mb v k) : Two w wx sb bm mb v ls ms :=
  ⟨h.obj.off ho (fun k hk e => (hK k e).2.1 hk), h.ref.off ho (fun k hk e => (hK k e).2.2 hk), h.far, h.bel.trans (ho.below (fun k hk => (hK k hk).1) h.obj.le)⟩
theorem Two.below (h : Two w wr sb bm mb v ls ms) (hb : Below wr.heap.size wr wx) : Two w wx sb bm mb v ls ms :=
  ⟨h.obj.below hb, h.ref.below hb, h.far, h.bel.trans (hb.mono h.bel.size)⟩
theorem Two.alloc (h : Two w wr sb bm mb v ls ms) (o : Go.Obj) : Two w (wr.alloc o) sb bm mb v ls ms := h.below ((Below.refl _ _).alloc (Nat.le_refl _) _)
theorem Two.drew (h : Two w wr sb bm mb v ls ms) : Two w wr.drew sb bm mb v ls ms := h.below (Below.refl _ _).drew
theorem Two.lt (h : Two w wr sb bm mb v ls ms) {k : Nat} (hk : own sb bm k ∨ rown mb v k) : k < wr.heap.size := hk.elim (fun e => h.obj.lt e) (fun e => h.ref.lt e)
theorem Two.objTurn (h : Two w wr sb bm mb v ls ms) (hO : Obj wx w.heap.size sb bm ls') (ho : Off (own sb bm) wr wx) : Two w wx sb bm mb v ls' ms :=
  ⟨hO, h.ref.off ho (fun k hk e => h.far k e hk), h.far, h.bel.trans (ho.below (fun k hk => h.obj.ge hk) h.obj.le)⟩
theorem Two.refTurn (h : Two w wr sb bm mb v ls ms) (hR : Ref wx w.heap.size mb v' ms') (ho : Off (rown mb v) wr wx) (hv : ∀ k, v'.ownBlock = some k → v.ownBlock = some k ∨ wr.heap.size ≤ k) : Two w wx sb bm mb v' ls ms' := by
  refine ⟨h.obj.off ho (fun k hk e => h.far k hk e), hR, fun k hk hr => ?_, h.bel.trans (ho.below (fun k hk => h.ref.ge hk) h.ref.le)⟩
  rcases hr with e | e
  · exact h.far k hk (.inl e)
  · rcases hv k e with e | e
    · exact h.far k hk (.inr e)
    · have := h.obj.lt hk; omega
end
/-- A box of five integers, that may be written. -/
structure Five (w : World) (V : Nat) (ys : Nat → Int) : Prop where
  lt : V < w.heap.size
  c : ∀ i, i < 5 → w.cell? ⟨V, i, none⟩ = some (.int .i64 (ys i))
  f : ∀ i, i < 5 → w.frozen? ⟨V, i, none⟩ = false
theorem Five.new (w : World) : Five (w.alloc (.cells #[.int .i64 0, .int .i64 0, .int .i64 0, .int .i64 0, .int .i64 0] 38)) w.heap.size (fun _ => 0) := by
  refine ⟨by simp, fun i hi => ?_, fun i hi => ?_⟩
  · rcases (show i = 0 ∨ i = 1 ∨ i = 2 ∨ i = 3 ∨ i = 4 by omega) with rfl | rfl | rfl | rfl | rfl <;> simp
  · rcases (show i = 0 ∨ i = 1 ∨ i = 2 ∨ i = 3 ∨ i = 4 by omega) with rfl | rfl | rfl | rfl | rfl <;> simp
theorem Five.off {K : Nat → Prop} {w w' : World} {V : Nat} {ys : Nat → Int} (h : Five w V ys) (ho : Off K w w') (hK : ¬ K V) : Five w' V ys :=
  ⟨Nat.lt_of_lt_of_le h.lt ho.size, fun i hi => ho.cell (h.c i hi) hK, fun i hi => (ho.frozen (p := ⟨V, i, none⟩) h.lt hK).trans (h.f i hi)⟩
theorem Five.below {w w' : World} {V : Nat} {ys : Nat → Int} (h : Five w V ys) (hb : Below w.heap.size w w') : Five w' V ys := h.off (Off.of_below (K := fun _ => False) hb) id
def upd (ys : Nat → Int) (j : Nat) (z : Int) : Nat → Int := fun i => if i = j then z else ys i
theorem Five.set {w : World} {V : Nat} {ys : Nat → Int} (h : Five w V ys) {j : Nat} (hj : j < 5) (z : Int) : Five (w.setCell ⟨V, j, none⟩ (.int .i64 z)) V (upd ys j z) := by
  refine ⟨by simpa using h.lt, fun i hi => ?_, fun i hi => by simpa using h.f i hi⟩
  by_cases e : i = j
  · subst e
    rw [World.cell?_setCell_same _ _ _ (h.c i hi)]
    simp [upd]
  · rw [World.cell?_setCell_other _ _ _ _ (by intro e'; injection e' with _ e' _; exact e (by first | exact e' | exact e'.symm))]
    rw [h.c i hi]
    simp [upd, e]
theorem same_errV (f : Int) (w : World) (hH : Handle w) : Calls Tryd.prog 10 #[errV f, .int .i64 f] w fun e w' => e = .returned (.bool true) ∧ Below w.heap.size w w' := by
  by_cases h : f = 0
  · subst h
    exact same_nil 0 w
  · rw [errV_f h]
    have := same_err f f w hH
    rw [show (f == f) = true by simp] at this
    exact this
section
variable {w wr : World} {sb bm mb V : Nat} {v : Value} {ls ms : List T} {ys : Nat → Int}
/-- The box lies beside both. -/
structure Play (w wr : World) (sb bm mb V : Nat) (v : Value) (ls ms : List T) (ys : Nat → Int) : Prop where
  two : Two w wr sb bm mb v ls ms
  box : Five wr V ys
  nV : ¬ own sb bm V ∧ ¬ rown mb v V
  ge : w.heap.size ≤ V
theorem Play.below {wx : World} (h : Play w wr sb bm mb V v ls ms ys) (hb : Below wr.heap.size wr wx) : Play w wx sb bm mb V v ls ms ys := ⟨h.two.below hb, h.box.below hb, h.nV, h.ge⟩
theorem Play.drew (h : Play w wr sb bm mb V v ls ms ys) : Play w wr.drew sb bm mb V v ls ms ys := h.below (Below.refl _ _).drew
theorem Play.set (h : Play w wr sb bm mb V v ls ms ys) {j : Nat} (hj : j < 5) (z : Int) : Play w (wr.setCell ⟨V, j, none⟩ (.int .i64 z)) sb bm mb V v ls ms (upd ys j z) :=
  ⟨h.two.off (K := fun k => k = V) ((Off.refl _ _).setCell (K := fun k => k = V) (a := ⟨V, j, none⟩) rfl (.int .i64 z)) (fun k e => by rw [e]; exact ⟨h.ge, h.nV⟩), h.box.set hj z, h.nV, h.ge⟩
theorem Play.new (h : Two w wr sb bm mb v ls ms) : Play w (wr.alloc (.cells #[.int .i64 0, .int .i64 0, .int .i64 0, .int .i64 0, .int .i64 0] 38)) sb bm mb wr.heap.size v ls ms (fun _ => 0) :=
  ⟨h.alloc _, Five.new wr, ⟨fun e => by have := h.lt (.inl e); omega, fun e => by have := h.lt (.inr e); omega⟩, h.bel.size⟩
theorem ask_play (h : Play w wr sb bm mb V v ls ms ys) (p n t : Int) : Calls Tryd.prog 7 #[.pointer (some ⟨sb, 0, none⟩), .int .i64 p, .int .i64 n, .int .i64 t] wr fun e w' => e = .returned (errV (askF ls p n t)) ∧ Play w w' sb bm mb V v (askL ls p n t) ms ys :=
  (ask_calls h.two.obj p n t).mono fun e w' ⟨h1, h2, h3⟩ => ⟨h1, h.two.objTurn h2 h3, h.box.off h3 h.nV.1, h.nV, h.ge⟩
theorem ans_play (h : Play w wr sb bm mb V v ls ms ys) (p n t l : Int) : Calls Tryd.prog 8 #[.pointer (some ⟨sb, 0, none⟩), .int .i64 p, .int .i64 n, .int .i64 t, .int .i64 l] wr fun e w' => e = .returned (.tuple #[.bool (ansB ls p n t l), errV (ansF p n t l)]) ∧ Play w w' sb bm mb V v (ansL ls p n t l) ms ys :=
  (ans_calls h.two.obj p n t l).mono fun e w' ⟨h1, h2, h3⟩ => ⟨h1, h.two.objTurn h2 h3, h.box.off h3 h.nV.1, h.nV, h.ge⟩
theorem Play.far {wx : World} {v' : Value} {ms' : List T} (h : Play w wr sb bm mb V v ls ms ys) (hR : Ref wx w.heap.size mb v' ms') (ho : Off (rown mb v) wr wx) (hv : ∀ k, v'.ownBlock = some k → v.ownBlock = some k ∨ wr.heap.size ≤ k) : Play w wx sb bm mb V v' ls ms' ys :=
  ⟨h.two.refTurn hR ho hv, h.box.off ho h.nV.2, ⟨h.nV.1, fun e => by
    rcases e with e | e
    · exact h.nV.2 (.inl e)
    · rcases hv V e with e | e
      · exact h.nV.2 (.inr e)
      · have := h.box.lt; omega⟩, h.ge⟩
theorem rask_play (h : Play w wr sb bm mb V v ls ms ys) (hI : ms.length ≤ 8) (p n t : Int) : Calls Tryd.prog 12 #[.pointer (some ⟨mb, 0, none⟩), .int .i64 p, .int .i64 n, .int .i64 t] wr fun e w' => e = .returned (.int .i64 (askF ms p n t)) ∧ ∃ v', Play w w' sb bm mb V v' ls (askL ms p n t) ys :=
  (rask_calls h.two.ref hI p n t).mono fun e w' ⟨h1, v', h2, h3, h4⟩ => ⟨h1, v', h.far h2 h3 h4⟩
theorem rans_play (h : Play w wr sb bm mb V v ls ms ys) (hI : Inv ms) (p n t l : Int) : Calls Tryd.prog 11 #[.pointer (some ⟨mb, 0, none⟩), .int .i64 p, .int .i64 n, .int .i64 t, .int .i64 l] wr fun e w' => e = .returned (.tuple #[.bool (ansB ms p n t l), .int .i64 (ansF p n t l)]) ∧ ∃ v', Play w w' sb bm mb V v' ls (ansL ms p n t l) ys :=
  (rans_calls h.two.ref hI p n t l).mono fun e w' ⟨h1, v', h2, h3, h4⟩ => ⟨h1, v', h.far h2 h3 h4⟩
end
end Go.Proofs.YtkfhfljoalbkkaaDoor
