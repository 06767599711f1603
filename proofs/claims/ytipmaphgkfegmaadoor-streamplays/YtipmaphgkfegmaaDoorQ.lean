/- The program's stream and the document's, side by side. -/
import Derived.Test.YtipmaphgkfegmaaDoorC
import Derived.Test.YtipmaphgkfegmaaDoorT
import Derived.Test.YtipmaphgkfegmaaDoorJ
import Derived.Test.YtipmaphgkfegmaaDoorW
import Derived.Test.YtipmaphgkfegmaaDoorK
import Derived.Test.YtipmaphgkfegmaaDoorS
namespace Go.Proofs.YtipmaphgkfegmaaDoor
open Go.RowKit Go.Lib Go.Sort
set_option linter.unusedVariables false
set_option linter.unusedSimpArgs false

section
variable {w wr wx : World} {sb mb : Nat} {s m s' : St}
/-- Both streams, not below what was there when the law began; that is as it was. -/
structure Two (w wr : World) (sb mb : Nat) (s m : St) : Prop where
  obj : Obj wr w.heap.size sb s
  ref : Ref wr w.heap.size mb m
  ne : sb ≠ mb
  bel : Below w.heap.size w wr
theorem Two.off {K : Nat → Prop} (h : Two w wr sb mb s m) (ho : Off K wr wx) (hK : ∀ k, K k → w.heap.size ≤ k ∧ k ≠ sb ∧ k ≠ mb) : Two w wx sb mb s m :=
  ⟨h.obj.off ho (fun e => (hK _ e).2.1 rfl), h.ref.off ho (fun e => (hK _ e).2.2 rfl), h.ne, h.bel.trans (ho.below (fun k hk => (hK k hk).1) h.obj.le)⟩
theorem Two.below (h : Two w wr sb mb s m) (hb : Below wr.heap.size wr wx) : Two w wx sb mb s m := h.off (Off.of_below (K := fun _ => False) hb) (fun _ e => e.elim)
theorem Two.alloc (h : Two w wr sb mb s m) (o : Go.Obj) : Two w (wr.alloc o) sb mb s m := h.below ((Below.refl _ _).alloc (Nat.le_refl _) _)
theorem Two.objTurn (h : Two w wr sb mb s m) (ht : Turned wr wx w.heap.size sb s') : Two w wx sb mb s' m :=
  ⟨ht.1, h.ref.off ht.2 (fun e => h.ne e.symm), h.ne, h.bel.trans (ht.2.below (fun k hk => by rw [hk]; exact h.obj.hs) h.obj.le)⟩
theorem Two.refTurn (h : Two w wr sb mb s m) (ht : RTurned wr wx w.heap.size mb s') : Two w wx sb mb s s' :=
  ⟨h.obj.off ht.2 h.ne, ht.1, h.ne, h.bel.trans (ht.2.below (fun k hk => by rw [hk]; exact h.ref.hs) h.ref.le)⟩
/-- The program's one is made first, then the document's. -/
theorem rnew_two (h : Obj wr w.heap.size sb s) (hb : Below w.heap.size w wr) : Calls Tryd.prog 11 #[] wr fun e w' => ∃ mb, e = .returned (.pointer (some ⟨mb, 0, none⟩)) ∧ Two w w' sb mb s newS :=
  (rnew_calls wr).mono fun e w' ⟨h1, h2, h3⟩ => ⟨wr.heap.size, h1, h.below h3, h2.base hb.size, (fun e => by have := h.lt; omega), hb.trans (h3.mono hb.size)⟩
theorem ready_two (h : Two w wr sb mb s m) : Calls Tryd.prog 9 #[.pointer (some ⟨sb, 0, none⟩)] wr fun e w' => e = .returned (.int .i64 (rdy s : Int)) ∧ Two w w' sb mb s m :=
  (ready_calls h.obj).mono fun e w' ⟨h1, h2⟩ => ⟨h1, h.below h2⟩
theorem rready_two (h : Two w wr sb mb s m) : Calls Tryd.prog 14 #[.pointer (some ⟨mb, 0, none⟩)] wr fun e w' => e = .returned (.int .i64 (rdy m : Int)) ∧ Two w w' sb mb s m :=
  (rready_calls h.ref).mono fun e w' ⟨h1, h2⟩ => ⟨h1, h.below h2⟩
theorem gaps_two (h : Two w wr sb mb s m) : Calls Tryd.prog 10 #[.pointer (some ⟨sb, 0, none⟩)] wr fun e w' => ∃ v, e = .returned v ∧ Row w' v (gaps s) ∧ Two w w' sb mb s m :=
  (gaps_calls h.obj).mono fun e w' ⟨v, h1, h2, h3⟩ => ⟨v, h1, h2, h.below h3⟩
theorem rgaps_two (h : Two w wr sb mb s m) {v : Value} {l : List R} (hR : Row wr v l) : Calls Tryd.prog 16 #[.pointer (some ⟨mb, 0, none⟩)] wr fun e w' => ∃ v', e = .returned v' ∧ Row w' v l ∧ Row w' v' (gaps m) ∧ Two w w' sb mb s m :=
  (rgaps_calls h.ref).mono fun e w' ⟨v', h1, h2, h3⟩ => ⟨v', h1, hR.below h3, h2, h.below h3⟩
theorem same_two (h : Two w wr sb mb s m) {va vb : Value} {l : List R} (ha : Row wr va l) (hb : Row wr vb l) : Calls Tryd.prog 15 #[va, vb] wr fun e w' => e = .returned (.bool true) ∧ Two w w' sb mb s m :=
  (same_calls va vb l l wr ha hb).mono fun e w' ⟨h1, h2⟩ => ⟨by rw [h1]; simp, h.below h2⟩
end
/-- A box of two integers, that may be written. -/
structure Pair (w : World) (V : Nat) (ys : Nat → Int) : Prop where
  lt : V < w.heap.size
  c : ∀ i, i < 2 → w.cell? ⟨V, i, none⟩ = some (.int .i64 (ys i))
  f : ∀ i, i < 2 → w.frozen? ⟨V, i, none⟩ = false
theorem Pair.new (w : World) : Pair (w.alloc (.cells #[.int .i64 0, .int .i64 0] 41)) w.heap.size (fun _ => 0) := by
  refine ⟨by simp, fun i hi => ?_, fun i hi => ?_⟩
  · rcases (show i = 0 ∨ i = 1 by omega) with rfl | rfl <;> simp
  · rcases (show i = 0 ∨ i = 1 by omega) with rfl | rfl <;> simp
theorem Pair.off {K : Nat → Prop} {w w' : World} {V : Nat} {ys : Nat → Int} (h : Pair w V ys) (ho : Off K w w') (hK : ¬ K V) : Pair w' V ys :=
  ⟨Nat.lt_of_lt_of_le h.lt ho.size, fun i hi => ho.cell (h.c i hi) hK, fun i hi => (ho.frozen (p := ⟨V, i, none⟩) h.lt hK).trans (h.f i hi)⟩
theorem Pair.below {w w' : World} {V : Nat} {ys : Nat → Int} (h : Pair w V ys) (hb : Below w.heap.size w w') : Pair w' V ys := h.off (Off.of_below (K := fun _ => False) hb) id
def upd (ys : Nat → Int) (j : Nat) (z : Int) : Nat → Int := fun i => if i = j then z else ys i
theorem Pair.set {w : World} {V : Nat} {ys : Nat → Int} (h : Pair w V ys) {j : Nat} (hj : j < 2) (z : Int) : Pair (w.setCell ⟨V, j, none⟩ (.int .i64 z)) V (upd ys j z) := by
  refine ⟨by simpa using h.lt, fun i hi => ?_, fun i hi => by simpa using h.f i hi⟩
  by_cases e : i = j
  · subst e
    rw [World.cell?_setCell_same _ _ _ (h.c i hi)]
    simp [upd]
  · rw [World.cell?_setCell_other _ _ _ _ (by intro e'; injection e' with _ e' _; exact e (by first | exact e' | exact e'.symm))]
    rw [h.c i hi]
    simp [upd, e]
theorem same_errV (f : Int) (w : World) (hH : Handle w) : Calls Tryd.prog 8 #[errV f, .int .i64 f] w fun e w' => e = .returned (.bool true) ∧ Below w.heap.size w w' := by
  by_cases h : f = 0
  · subst h
    exact same_nil 0 w
  · rw [errV_f h]
    have := same_err f f w hH
    rw [show (f == f) = true by simp] at this
    exact this
section
variable {w wr : World} {sb mb V : Nat} {s m : St} {ys : Nat → Int}
/-- The box lies beside both. -/
structure Play (w wr : World) (sb mb V : Nat) (s m : St) (ys : Nat → Int) : Prop where
  two : Two w wr sb mb s m
  box : Pair wr V ys
  nV : V ≠ sb ∧ V ≠ mb
  ge : w.heap.size ≤ V
theorem Play.below {wx : World} (h : Play w wr sb mb V s m ys) (hb : Below wr.heap.size wr wx) : Play w wx sb mb V s m ys := ⟨h.two.below hb, h.box.below hb, h.nV, h.ge⟩
theorem Play.drew (h : Play w wr sb mb V s m ys) : Play w wr.drew sb mb V s m ys := h.below (Below.refl _ _).drew
theorem Play.set (h : Play w wr sb mb V s m ys) {j : Nat} (hj : j < 2) (z : Int) : Play w (wr.setCell ⟨V, j, none⟩ (.int .i64 z)) sb mb V s m (upd ys j z) :=
  ⟨h.two.off (K := fun k => k = V) ((Off.refl _ _).setCell (K := fun k => k = V) (a := ⟨V, j, none⟩) rfl (.int .i64 z)) (fun k e => by rw [e]; exact ⟨h.ge, h.nV⟩), h.box.set hj z, h.nV, h.ge⟩
theorem Play.new (h : Two w wr sb mb s m) : Play w (wr.alloc (.cells #[.int .i64 0, .int .i64 0] 41)) sb mb wr.heap.size s m (fun _ => 0) :=
  ⟨h.alloc _, Pair.new wr, ⟨fun e => by have := h.obj.lt; omega, fun e => by have := h.ref.lt; omega⟩, h.bel.size⟩
theorem take_play (h : Play w wr sb mb V s m ys) (n : Int) (hn : 0 ≤ n) : Calls Tryd.prog 7 #[.pointer (some ⟨sb, 0, none⟩), .int .i64 n] wr fun e w' => e = .returned (.tuple #[.string (strOfNums (takeL s n)), .nilIface]) ∧ Play w w' sb mb V (takeS s n) m ys :=
  (take_calls h.two.obj n hn).mono fun e w' ⟨h1, h2⟩ => ⟨h1, h.two.objTurn h2, h.box.off h2.2 h.nV.1, h.nV, h.ge⟩
theorem take_no_play (h : Play w wr sb mb V s m ys) (n : Int) (hn : n < 0) : Calls Tryd.prog 7 #[.pointer (some ⟨sb, 0, none⟩), .int .i64 n] wr fun e w' => e = .returned (.tuple #[.string ⟨#[]⟩, .iface 51 (.int .i64 1)]) ∧ Play w w' sb mb V s m ys :=
  (take_no h.two.obj n hn).mono fun e w' ⟨h1, h2⟩ => ⟨h1, h.two.objTurn h2, h.box.off h2.2 h.nV.1, h.nV, h.ge⟩
theorem rtake_play (h : Play w wr sb mb V s m ys) (n : Int) (hn : 0 ≤ n) : Calls Tryd.prog 12 #[.pointer (some ⟨mb, 0, none⟩), .int .i64 n] wr fun e w' => e = .returned (.string (strOfNums (takeL m n))) ∧ Play w w' sb mb V s (takeS m n) ys :=
  (rtake_calls h.two.ref n hn).mono fun e w' ⟨h1, h2⟩ => ⟨h1, h.two.refTurn h2, h.box.off h2.2 h.nV.2, h.nV, h.ge⟩
theorem put_play (h : Play w wr sb mb V s m ys) (p : Int) (d : ByteArray) (hd : d.size ≤ 140737488351232) : Calls Tryd.prog 6 #[.pointer (some ⟨sb, 0, none⟩), .agg #[.int .i64 p, .string d]] wr fun e w' => e = .returned (errV (putF s p d)) ∧ Play w w' sb mb V (putS s p d) m ys :=
  (put_calls h.two.obj p d hd).mono fun e w' ⟨h1, h2⟩ => ⟨h1, h.two.objTurn h2, h.box.off h2.2 h.nV.1, h.nV, h.ge⟩
theorem rput_play (h : Play w wr sb mb V s m ys) (p : Int) (d : ByteArray) (hd : d.size ≤ 140737488351232) : Calls Tryd.prog 13 #[.pointer (some ⟨mb, 0, none⟩), .int .i64 p, .string d] wr fun e w' => e = .returned (.int .i64 (putF m p d)) ∧ Play w w' sb mb V s (putS m p d) ys :=
  (rput_calls h.two.ref p d hd).mono fun e w' ⟨h1, h2⟩ => ⟨h1, h.two.refTurn h2, h.box.off h2.2 h.nV.2, h.nV, h.ge⟩
end
end Go.Proofs.YtipmaphgkfegmaaDoor
