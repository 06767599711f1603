/- What a call leaves as it was; a credit as it lies in memory; New, Take, Read, Limit, Left. -/
import Derived.Test.YtojhcmnmjdolpaaDoorA
import Derived.Test.YtojhcmnmjdolpaaDoorChecked
import Derived.WalkKit
import Derived.WalkSpells
import Derived.WalkLawsBesides
import Derived.LoopN
import Derived.Outline
import Derived.BigQuiet
import Derived.Deep.RegionWith
import Derived.Deep.RegionHeld3
import Derived.Shelf.SlSortCmp.QuietGrown
import Derived.Deep.LoopGhost
import Derived.Deep.DeepCutAuto
import Derived.KernelRfl
namespace Go.Proofs.YtojhcmnmjdolpaaDoor
open Go.RowKit Go.Lib Go.Sort
set_option linter.unusedVariables false
set_option linter.unusedSimpArgs false

/-- But for the blocks K and new ones the world is as it was. -/
structure Off (K : Nat → Prop) (w w' : World) : Prop where
  os : w'.os = w.os
  tape : w'.tape = w.tape
  output : w'.output = w.output
  size : w.heap.size ≤ w'.heap.size
  block : ∀ k, k < w.heap.size → ¬ K k → w'.heap[k]? = w.heap[k]?
theorem Off.refl (K : Nat → Prop) (w : World) : Off K w w := ⟨rfl, rfl, rfl, Nat.le_refl _, fun _ _ _ => rfl⟩
theorem Off.trans {K : Nat → Prop} {a b c : World} (h : Off K a b) (k : Off K b c) : Off K a c :=
  ⟨k.os.trans h.os, k.tape.trans h.tape, k.output.trans h.output, Nat.le_trans h.size k.size, fun i hi hk => (k.block i (Nat.lt_of_lt_of_le hi h.size) hk).trans (h.block i hi hk)⟩
theorem Off.mono {K K' : Nat → Prop} {w w' : World} (h : Off K w w') (hK : ∀ k, k < w.heap.size → K k → K' k) : Off K' w w' := ⟨h.os, h.tape, h.output, h.size, fun k hk hn => h.block k hk (fun e => hn (hK k hk e))⟩
theorem Off.of_below {K : Nat → Prop} {w w' : World} (h : Below w.heap.size w w') : Off K w w' := ⟨h.os, h.tape, h.output, h.size, fun k hk _ => h.block k hk⟩
theorem Off.below {K : Nat → Prop} {B : Nat} {w w' : World} (h : Off K w w') (hK : ∀ k, K k → B ≤ k) (hB : B ≤ w.heap.size) : Below B w w' :=
  ⟨h.os, h.tape, h.output, h.size, fun k hk => h.block k (by omega) (fun e => by have := hK k e; omega)⟩
theorem Off.of_grown {K : Nat → Prop} {w w' : World} {row : Option Nat} (h : w.grownBy w' row) (hK : ∀ k, row = some k → K k) : Off K w w' :=
  ⟨h.os, h.tape, h.output, h.size, fun k hk hn => h.block k hk (fun e => hn (hK k e.symm))⟩
theorem Off.setCell {K : Nat → Prop} {w w' : World} (h : Off K w w') {a : Addr} (hK : K a.block) (u : Value) : Off K w (w'.setCell a u) :=
  h.trans ⟨rfl, rfl, rfl, by simp [World.setCell], fun k _ hn => Below.heap_setCell _ _ _ _ (fun e => hn (e ▸ hK))⟩
theorem Off.alloc {K : Nat → Prop} {w w' : World} (h : Off K w w') (o : Go.Obj) : Off K w (w'.alloc o) := h.trans (Off.of_below ((Below.refl _ _).alloc (Nat.le_refl _) _))
theorem Off.drew {K : Nat → Prop} {w w' : World} (h : Off K w w') : Off K w w'.drew := ⟨h.os, h.tape, h.output, h.size, h.block⟩
theorem Off.cell {K : Nat → Prop} {w w' : World} (h : Off K w w') {p : Addr} {v : Value} (hc : w.cell? p = some v) (hn : ¬ K p.block) : w'.cell? p = some v :=
  (World.cell?_of_block (h.block p.block (World.block_lt_of_cell? w p hc) hn)).trans hc
theorem Off.frozen {K : Nat → Prop} {w w' : World} (h : Off K w w') {p : Addr} (hl : p.block < w.heap.size) (hn : ¬ K p.block) : w'.frozen? p = w.frozen? p :=
  World.frozen?_of_block (h.block p.block hl hn)
theorem below_drewN {B : Nat} {a w : World} (h : Below B a w) (q : Nat) : Below B a (w.drewN q) := ⟨h.os, h.tape, h.output, h.size, h.block⟩
theorem mixed : Tryd.prog.follows .mixedOrders = true := by kernel_rfl
/-- The block sb holds four integers; all but the first may be written. -/
structure Four (w : World) (sb : Nat) (s : St) : Prop where
  c0 : w.cell? ⟨sb, 0, none⟩ = some (.int .i64 s.win)
  c1 : w.cell? ⟨sb, 1, none⟩ = some (.int .i64 s.lim)
  c2 : w.cell? ⟨sb, 2, none⟩ = some (.int .i64 s.came)
  c3 : w.cell? ⟨sb, 3, none⟩ = some (.int .i64 s.read)
  f1 : w.frozen? ⟨sb, 1, none⟩ = false
  f2 : w.frozen? ⟨sb, 2, none⟩ = false
  f3 : w.frozen? ⟨sb, 3, none⟩ = false
section
variable {w w' : World} {B sb : Nat} {s : St}
theorem Four.lt (h : Four w sb s) : sb < w.heap.size := World.block_lt_of_cell? w _ h.c0
theorem Four.off {K : Nat → Prop} (h : Four w sb s) (ho : Off K w w') (hK : ¬ K sb) : Four w' sb s :=
  ⟨ho.cell h.c0 hK, ho.cell h.c1 hK, ho.cell h.c2 hK, ho.cell h.c3 hK, (ho.frozen (p := ⟨sb, 1, none⟩) h.lt hK).trans h.f1, (ho.frozen (p := ⟨sb, 2, none⟩) h.lt hK).trans h.f2, (ho.frozen (p := ⟨sb, 3, none⟩) h.lt hK).trans h.f3⟩
theorem cell_next {a b : Addr} {u v : Value} (h : w.cell? a = some v) (e : a.off ≠ b.off) : (w.setCell b u).cell? a = some v := by
  rw [World.cell?_setCell_other _ _ _ _ (by intro e'; subst e'; exact e rfl)]; exact h
theorem Four.set2 (h : Four w sb s) (u : Int) : Four (w.setCell ⟨sb, 2, none⟩ (.int .i64 u)) sb ⟨s.win, s.lim, u, s.read⟩ :=
  ⟨cell_next h.c0 (by simp), cell_next h.c1 (by simp), World.cell?_setCell_same _ _ _ h.c2, cell_next h.c3 (by simp), by simpa using h.f1, by simpa using h.f2, by simpa using h.f3⟩
theorem Four.set1 (h : Four w sb s) (u : Int) : Four (w.setCell ⟨sb, 1, none⟩ (.int .i64 u)) sb ⟨s.win, u, s.came, s.read⟩ :=
  ⟨cell_next h.c0 (by simp), World.cell?_setCell_same _ _ _ h.c1, cell_next h.c2 (by simp), cell_next h.c3 (by simp), by simpa using h.f1, by simpa using h.f2, by simpa using h.f3⟩
theorem Four.set3 (h : Four w sb s) (u : Int) : Four (w.setCell ⟨sb, 3, none⟩ (.int .i64 u)) sb ⟨s.win, s.lim, s.came, u⟩ :=
  ⟨cell_next h.c0 (by simp), cell_next h.c1 (by simp), cell_next h.c2 (by simp), World.cell?_setCell_same _ _ _ h.c3, by simpa using h.f1, by simpa using h.f2, by simpa using h.f3⟩
theorem Four.new (w : World) (n : Int) (t : TypeId) : Four (w.alloc (.cells #[.int .i64 n, .int .i64 n, .int .i64 0, .int .i64 0] t)) w.heap.size (newS n) := by
  constructor <;> simp [newS]
/-- A credit, not below the block B. -/
structure Obj (w : World) (B sb : Nat) (s : St) : Prop where
  inv : Inv s
  four : Four w sb s
  hs : B ≤ sb
theorem Obj.off {K : Nat → Prop} (h : Obj w B sb s) (ho : Off K w w') (hK : ¬ K sb) : Obj w' B sb s := ⟨h.inv, h.four.off ho hK, h.hs⟩
theorem Obj.below (h : Obj w B sb s) (hb : Below w.heap.size w w') : Obj w' B sb s := h.off (Off.of_below (K := fun _ => False) hb) id
theorem Obj.lt (h : Obj w B sb s) : sb < w.heap.size := h.four.lt
theorem Obj.le (h : Obj w B sb s) : B ≤ w.heap.size := by have := h.hs; have := h.lt; omega
end
/-- The credit in sb is now s; all else is as it was. -/
def Turned (w w' : World) (B sb : Nat) (s : St) : Prop := Obj w' B sb s ∧ Off (fun k => k = sb) w w'
def errV (f : Int) : Value := if f = 0 then .nilIface else .iface 41 (.int .i64 f)
theorem errV_0 : errV 0 = .nilIface := rfl
theorem errV_f {f : Int} (h : f ≠ 0) : errV f = .iface 41 (.int .i64 f) := if_neg h
theorem Turned.same {w : World} {B sb : Nat} {s : St} (h : Obj w B sb s) : Turned w w B sb s := ⟨h, Off.refl _ _⟩
theorem Turned.drewN {w : World} {B sb : Nat} {s : St} (h : Obj w B sb s) (m : Nat) : Turned w (w.drewN m) B sb s := ⟨h.below (below_drewN (Below.refl _ _) m), Off.of_below (below_drewN (Below.refl _ _) m)⟩
theorem Turned.trans {w w1 w2 : World} {B sb : Nat} {s s' : St} (h : Turned w w1 B sb s) (k : Turned w1 w2 B sb s') : Turned w w2 B sb s' := ⟨k.1, h.2.trans k.2⟩
theorem wrap_small (n : Int) (h0 : -10000000000 ≤ n) (h1 : n ≤ 10000000000) : IntKind.i64.wrap n = n := by simp [IntKind.wrap, IntKind.bits, IntKind.signed]; omega
theorem Turned.took {w : World} {B sb : Nat} {s : St} (h : Obj w B sb s) {u v : Int} (hu : u ≤ s.lim) (hv : v = if s.came < u then u else s.came) : Turned w (w.setCell ⟨sb, 2, none⟩ (.int .i64 v)) B sb (upS s u) :=
  ⟨⟨h.inv.up hu, by rw [hv]; exact h.four.set2 _, h.hs⟩, (Off.refl _ _).setCell (K := fun k => k = sb) (a := ⟨sb, 2, none⟩) rfl _⟩
theorem Turned.kept {w : World} {B sb : Nat} {s : St} (h : Obj w B sb s) {u : Int} (hu : u ≤ s.came) : Turned w w B sb (upS s u) := by
  have e : upS s u = s := by
    have : ¬ s.came < u := by omega
    cases s
    simp only [upS, this, if_false]
  rw [e]; exact Turned.same h
theorem Turned.got {w : World} {B sb : Nat} {s : St} (h : Obj w B sb s) {n a b : Int} (h0 : 0 ≤ n) (h1 : n ≤ s.came - s.read) (h2 : numB (moreL s n) = true) (ea : a = s.read + n) (eb : b = moreL s n) :
    Turned w ((w.setCell ⟨sb, 3, none⟩ (.int .i64 a)).setCell ⟨sb, 1, none⟩ (.int .i64 b)) B sb ⟨s.win, moreL s n, s.came, s.read + n⟩ :=
  ⟨⟨h.inv.got h0 h1 h2, by rw [ea, eb]; exact (h.four.set3 _).set1 _, h.hs⟩, ((Off.refl _ _).setCell (K := fun k => k = sb) (a := ⟨sb, 3, none⟩) rfl _).setCell (a := ⟨sb, 1, none⟩) rfl _⟩

set_option maxRecDepth 100000 in
set_option maxHeartbeats 2000000 in
theorem isWindow_calls (n : Int) (w : World) : Calls Tryd.prog 13 #[.int .i64 n] w fun e w' => e = .returned (.bool (winB n)) ∧ w' = w := by
  by_cases h1 : 1 ≤ n
  · by_cases h2 : n ≤ 1000
    · go_enter Tryd.func13, Tryd.ntmps13
      go_wp2
      go_ret
      exact ⟨by simp [winB] <;> omega, rfl⟩
    · go_enter Tryd.func13, Tryd.ntmps13
      go_wp2
      go_ret
      exact ⟨by simp [winB] <;> omega, rfl⟩
  · go_enter Tryd.func13, Tryd.ntmps13
    go_wp2
    go_ret
    exact ⟨by simp [winB] <;> omega, rfl⟩

set_option maxRecDepth 100000 in
set_option maxHeartbeats 2000000 in
theorem isPlace_calls (n : Int) (w : World) : Calls Tryd.prog 14 #[.int .i64 n] w fun e w' => e = .returned (.bool (numB n)) ∧ w' = w := by
  by_cases h1 : 0 ≤ n
  · by_cases h2 : n ≤ 1073741823
    · go_enter Tryd.func14, Tryd.ntmps14
      go_wp2
      go_ret
      exact ⟨by simp [numB] <;> omega, rfl⟩
    · go_enter Tryd.func14, Tryd.ntmps14
      go_wp2
      go_ret
      exact ⟨by simp [numB] <;> omega, rfl⟩
  · go_enter Tryd.func14, Tryd.ntmps14
    go_wp2
    go_ret
    exact ⟨by simp [numB] <;> omega, rfl⟩

set_option maxRecDepth 100000 in
set_option maxHeartbeats 2000000 in
theorem may_calls (n : Int) (w : World) : Calls Tryd.prog 17 #[.int .i64 n] w fun e w' => e = .returned (.bool (numB n)) ∧ w' = w := by
  by_cases h1 : 0 ≤ n
  · by_cases h2 : n ≤ 1073741823
    · go_enter Tryd.func17, Tryd.ntmps17
      go_wp2
      go_ret
      exact ⟨by simp [numB] <;> omega, rfl⟩
    · go_enter Tryd.func17, Tryd.ntmps17
      go_wp2
      go_ret
      exact ⟨by simp [numB] <;> omega, rfl⟩
  · go_enter Tryd.func17, Tryd.ntmps17
    go_wp2
    go_ret
    exact ⟨by simp [numB] <;> omega, rfl⟩

set_option maxRecDepth 100000 in
set_option maxHeartbeats 2000000 in
theorem new_no (n : Int) (w : World) (h : winB n = false) : Calls Tryd.prog 5 #[.int .i64 n] w fun e w' => e = .returned (.tuple #[.pointer none, .iface 41 (.int .i64 1)]) ∧ w' = w := by
  go_enter Tryd.func5, Tryd.ntmps5
  go_wp2_with (go_at_call 13; refine (isWindow_calls n _).mono ?_; rintro e w1 ⟨rfl, rfl⟩; rw [h])
  go_ret2
  exact ⟨rfl, rfl⟩
set_option maxRecDepth 100000 in
set_option maxHeartbeats 2000000 in
theorem new_yes (n : Int) (w : World) (h : winB n = true) : Calls Tryd.prog 5 #[.int .i64 n] w fun e w' => e = .returned (.tuple #[.pointer (some ⟨w.heap.size, 0, none⟩), .nilIface]) ∧ Obj w' w.heap.size w.heap.size (newS n) ∧ Below w.heap.size w w' := by
  have hO : Obj (w.alloc (.cells #[.int .i64 n, .int .i64 n, .int .i64 0, .int .i64 0] 43)) w.heap.size w.heap.size (newS n) := ⟨Inv.start h, Four.new w n _, Nat.le_refl _⟩
  go_enter Tryd.func5, Tryd.ntmps5
  go_wp2_with (go_at_call 13; refine (isWindow_calls n _).mono ?_; rintro e w1 ⟨rfl, rfl⟩; rw [h])
  go_ret2
  exact ⟨rfl, hO, (Below.refl _ _).alloc (Nat.le_refl _) _⟩
set_option maxRecDepth 100000 in
set_option maxHeartbeats 2000000 in
theorem limit_calls {w : World} {B sb : Nat} {s : St} (h : Obj w B sb s) : Calls Tryd.prog 9 #[.pointer (some ⟨sb, 0, none⟩)] w fun e w' => e = .returned (.int .i64 s.lim) ∧ w' = w := by
  have c1 := h.four.c1
  generalize s.lim = z at c1 ⊢
  go_enter Tryd.func9, Tryd.ntmps9
  go_wp2_with fail
  go_ret
  exact ⟨rfl, rfl⟩
set_option maxRecDepth 100000 in
set_option maxHeartbeats 2000000 in
theorem left_quiet {w : World} {B sb : Nat} {s : St} (h : Obj w B sb s) : Calls Tryd.prog 10 #[.pointer (some ⟨sb, 0, none⟩)] w fun e w' => e = .returned (.int .i64 (s.came - s.read)) ∧ ∃ m, w' = w.drewN m := by
  obtain ⟨win, lim, came, read⟩ := s
  have c0 := h.four.c0
  have c1 := h.four.c1
  have c2 := h.four.c2
  have c3 := h.four.c3
  have f1 := h.four.f1
  have f2 := h.four.f2
  have f3 := h.four.f3
  obtain ⟨w1, w2, l1, l2, a1, a2, r1, r2⟩ := h.inv
  simp only at c0 c1 c2 c3 w1 w2 l1 l2 a1 a2 r1 r2 ⊢
  have u1 := wrap_small (came - read) (by omega) (by omega)
  go_enter Tryd.func10, Tryd.ntmps10
  go_wp2_with fail
  go_quiet (fail)
  go_wp2_with fail
  go_ret
  exact ⟨rfl, _, rfl⟩
theorem left_calls {w : World} {B sb : Nat} {s : St} (h : Obj w B sb s) : Calls Tryd.prog 10 #[.pointer (some ⟨sb, 0, none⟩)] w fun e w' => e = .returned (.int .i64 (s.came - s.read)) ∧ Turned w w' B sb s :=
  (left_quiet h).mono fun e w' ⟨h1, m, h2⟩ => ⟨h1, by rw [h2]; exact Turned.drewN h m⟩

set_option maxRecDepth 100000 in
set_option maxHeartbeats 2000000 in
theorem take_range {w : World} {B sb : Nat} {win lim came read : Int} (h : Obj w B sb ⟨win, lim, came, read⟩) (u : Int) (hb : numB u = false) : Calls Tryd.prog 6 #[.pointer (some ⟨sb, 0, none⟩), .int .i64 u] w fun e w' => e = .returned (.iface 41 (.int .i64 1)) ∧ Turned w w' B sb ⟨win, lim, came, read⟩ := by
  have c0 := h.four.c0
  have c1 := h.four.c1
  have c2 := h.four.c2
  have c3 := h.four.c3
  have f1 := h.four.f1
  have f2 := h.four.f2
  have f3 := h.four.f3
  obtain ⟨w1, w2, l1, l2, a1, a2, r1, r2⟩ := h.inv
  simp only at c0 c1 c2 c3 w1 w2 l1 l2 a1 a2 r1 r2
  go_enter Tryd.func6, Tryd.ntmps6
  go_wp2_with (go_at_call 14; refine (isPlace_calls u _).mono ?_; rintro e w1 ⟨rfl, rfl⟩; rw [hb])
  go_ret
  exact ⟨rfl, Turned.same h⟩

set_option maxRecDepth 100000 in
set_option maxHeartbeats 2000000 in
theorem take_flow {w : World} {B sb : Nat} {win lim came read : Int} (h : Obj w B sb ⟨win, lim, came, read⟩) (u : Int) (hb : numB u = true) (h2 : lim < u) : Calls Tryd.prog 6 #[.pointer (some ⟨sb, 0, none⟩), .int .i64 u] w fun e w' => e = .returned (.iface 41 (.int .i64 8)) ∧ Turned w w' B sb ⟨win, lim, came, read⟩ := by
  have c0 := h.four.c0
  have c1 := h.four.c1
  have c2 := h.four.c2
  have c3 := h.four.c3
  have f1 := h.four.f1
  have f2 := h.four.f2
  have f3 := h.four.f3
  obtain ⟨w1, w2, l1, l2, a1, a2, r1, r2⟩ := h.inv
  simp only at c0 c1 c2 c3 w1 w2 l1 l2 a1 a2 r1 r2
  go_enter Tryd.func6, Tryd.ntmps6
  go_wp2_with (go_at_call 14; refine (isPlace_calls u _).mono ?_; rintro e w1 ⟨rfl, rfl⟩; rw [hb])
  go_ret
  exact ⟨rfl, Turned.same h⟩

set_option maxRecDepth 100000 in
set_option maxHeartbeats 2000000 in
theorem take_yes1 {w : World} {B sb : Nat} {win lim came read : Int} (h : Obj w B sb ⟨win, lim, came, read⟩) (u : Int) (hb : numB u = true) (h2 : u ≤ lim) (h3 : came < u) : Calls Tryd.prog 6 #[.pointer (some ⟨sb, 0, none⟩), .int .i64 u] w fun e w' => e = .returned .nilIface ∧ Turned w w' B sb (upS ⟨win, lim, came, read⟩ u) := by
  have c0 := h.four.c0
  have c1 := h.four.c1
  have c2 := h.four.c2
  have c3 := h.four.c3
  have f1 := h.four.f1
  have f2 := h.four.f2
  have f3 := h.four.f3
  obtain ⟨w1, w2, l1, l2, a1, a2, r1, r2⟩ := h.inv
  simp only at c0 c1 c2 c3 w1 w2 l1 l2 a1 a2 r1 r2
  go_enter Tryd.func6, Tryd.ntmps6
  go_wp2_with (go_at_call 14; refine (isPlace_calls u _).mono ?_; rintro e w1 ⟨rfl, rfl⟩; rw [hb])
  go_ret
  exact ⟨rfl, Turned.took h h2 (if_pos h3).symm⟩

set_option maxRecDepth 100000 in
set_option maxHeartbeats 2000000 in
theorem take_yes2 {w : World} {B sb : Nat} {win lim came read : Int} (h : Obj w B sb ⟨win, lim, came, read⟩) (u : Int) (hb : numB u = true) (h2 : u ≤ lim) (h3 : u ≤ came) : Calls Tryd.prog 6 #[.pointer (some ⟨sb, 0, none⟩), .int .i64 u] w fun e w' => e = .returned .nilIface ∧ Turned w w' B sb (upS ⟨win, lim, came, read⟩ u) := by
  have c0 := h.four.c0
  have c1 := h.four.c1
  have c2 := h.four.c2
  have c3 := h.four.c3
  have f1 := h.four.f1
  have f2 := h.four.f2
  have f3 := h.four.f3
  obtain ⟨w1, w2, l1, l2, a1, a2, r1, r2⟩ := h.inv
  simp only at c0 c1 c2 c3 w1 w2 l1 l2 a1 a2 r1 r2
  go_enter Tryd.func6, Tryd.ntmps6
  go_wp2_with (go_at_call 14; refine (isPlace_calls u _).mono ?_; rintro e w1 ⟨rfl, rfl⟩; rw [hb])
  go_ret
  exact ⟨rfl, Turned.took h h2 (if_neg (by simp only; omega)).symm⟩

theorem take_calls {w : World} {B sb : Nat} {s : St} (h : Obj w B sb s) (u : Int) : Calls Tryd.prog 6 #[.pointer (some ⟨sb, 0, none⟩), .int .i64 u] w fun e w' => e = .returned (errV (takeF s u)) ∧ Turned w w' B sb (takeS s u) := by
  obtain ⟨win, lim, came, read⟩ := s
  rcases takeF_cases ⟨win, lim, came, read⟩ u with ⟨e, hb⟩ | ⟨e, hb, h2⟩ | ⟨e, hb, h2⟩
  · rw [takeS_no (by rw [e]; decide), e, errV_f (by decide)]; exact take_range h u hb
  · rw [takeS_no (by rw [e]; decide), e, errV_f (by decide)]; exact take_flow h u hb h2
  · rw [takeS_yes e, e, errV_0]
    by_cases h3 : came < u
    · exact take_yes1 h u hb h2 h3
    · exact take_yes2 h u hb h2 (by omega)

set_option maxRecDepth 100000 in
set_option maxHeartbeats 2000000 in
theorem at_more {w : World} {B sb : Nat} {win lim came read : Int} (h : Obj w B sb ⟨win, lim, came, read⟩) (r : Int) (h0 : 0 ≤ r) (h1 : r ≤ 1073741823) (h2 : win / 2 < r - (lim - win)) : Calls Tryd.prog 15 #[.pointer (some ⟨sb, 0, none⟩), .int .i64 r] w fun e w' => e = .returned (.int .i64 (r + win)) ∧ Turned w w' B sb ⟨win, lim, came, read⟩ := by
  have c0 := h.four.c0
  have c1 := h.four.c1
  have c2 := h.four.c2
  have c3 := h.four.c3
  have f1 := h.four.f1
  have f2 := h.four.f2
  have f3 := h.four.f3
  obtain ⟨w1, w2, l1, l2, a1, a2, r1, r2⟩ := h.inv
  simp only at c0 c1 c2 c3 w1 w2 l1 l2 a1 a2 r1 r2
  have u1 := wrap_small (lim - win) (by omega) (by omega)
  go_enter Tryd.func15, Tryd.ntmps15
  go_wp2_with fail
  go_quiet (fail)
  go_wp2_with fail
  go_ret
  exact ⟨rfl, Turned.drewN h _⟩

set_option maxRecDepth 100000 in
set_option maxHeartbeats 2000000 in
theorem at_no {w : World} {B sb : Nat} {win lim came read : Int} (h : Obj w B sb ⟨win, lim, came, read⟩) (r : Int) (h0 : 0 ≤ r) (h1 : r ≤ 1073741823) (h2 : r - (lim - win) ≤ win / 2) : Calls Tryd.prog 15 #[.pointer (some ⟨sb, 0, none⟩), .int .i64 r] w fun e w' => e = .returned (.int .i64 (lim)) ∧ Turned w w' B sb ⟨win, lim, came, read⟩ := by
  have c0 := h.four.c0
  have c1 := h.four.c1
  have c2 := h.four.c2
  have c3 := h.four.c3
  have f1 := h.four.f1
  have f2 := h.four.f2
  have f3 := h.four.f3
  obtain ⟨w1, w2, l1, l2, a1, a2, r1, r2⟩ := h.inv
  simp only at c0 c1 c2 c3 w1 w2 l1 l2 a1 a2 r1 r2
  have u1 := wrap_small (lim - win) (by omega) (by omega)
  go_enter Tryd.func15, Tryd.ntmps15
  go_wp2_with fail
  go_quiet (fail)
  go_wp2_with fail
  go_ret
  exact ⟨rfl, Turned.drewN h _⟩

theorem at_calls {w : World} {B sb : Nat} {s : St} (h : Obj w B sb s) {n : Int} (h0 : 0 ≤ n) (h1 : n ≤ s.came - s.read) : Calls Tryd.prog 15 #[.pointer (some ⟨sb, 0, none⟩), .int .i64 (s.read + n)] w fun e w' => e = .returned (.int .i64 (moreL s n)) ∧ Turned w w' B sb s := by
  obtain ⟨win, lim, came, read⟩ := s
  obtain ⟨w1, w2, l1, l2, a1, a2, r1, r2⟩ := h.inv
  simp only at w1 w2 l1 l2 a1 a2 r1 r2 h1 ⊢
  by_cases h2 : win / 2 < read + n - (lim - win)
  · rw [moreL_yes (by simpa using h2)]; exact at_more h _ (by omega) (by omega) h2
  · rw [moreL_no (by simp only; omega)]; exact at_no h _ (by omega) (by omega) (by omega)

set_option maxRecDepth 100000 in
set_option maxHeartbeats 2000000 in
theorem read_range {w : World} {B sb : Nat} {win lim came read : Int} (h : Obj w B sb ⟨win, lim, came, read⟩) (n : Int) (h0 : n < 0) : Calls Tryd.prog 7 #[.pointer (some ⟨sb, 0, none⟩), .int .i64 n] w fun e w' => e = .returned (.tuple #[.int .i64 0, .iface 41 (.int .i64 1)]) ∧ Turned w w' B sb ⟨win, lim, came, read⟩ := by
  obtain ⟨w1, w2, l1, l2, a1, a2, r1, r2⟩ := h.inv
  simp only at w1 w2 l1 l2 a1 a2 r1 r2
  go_enter Tryd.func7, Tryd.ntmps7
  go_wp2_with fail
  go_ret2
  exact ⟨rfl, Turned.same h⟩

set_option maxRecDepth 100000 in
set_option maxHeartbeats 2000000 in
theorem read_flow {w : World} {B sb : Nat} {win lim came read : Int} (h : Obj w B sb ⟨win, lim, came, read⟩) (n : Int) (h0 : 0 ≤ n) (h2 : came - read < n) : Calls Tryd.prog 7 #[.pointer (some ⟨sb, 0, none⟩), .int .i64 n] w fun e w' => e = .returned (.tuple #[.int .i64 0, .iface 41 (.int .i64 8)]) ∧ Turned w w' B sb ⟨win, lim, came, read⟩ := by
  obtain ⟨w1, w2, l1, l2, a1, a2, r1, r2⟩ := h.inv
  simp only at w1 w2 l1 l2 a1 a2 r1 r2
  go_enter Tryd.func7, Tryd.ntmps7
  go_wp2_with fail
  refine (left_calls h).mono ?_
  rintro e wa ⟨rfl, ta⟩
  have k3 := ta.1.four.c3
  simp only at k3 ⊢
  go_wp2_with fail
  go_ret2
  exact ⟨rfl, ta⟩

set_option maxRecDepth 100000 in
set_option maxHeartbeats 2000000 in
theorem read_full {w : World} {B sb : Nat} {win lim came read : Int} (h : Obj w B sb ⟨win, lim, came, read⟩) (n : Int) (h0 : 0 ≤ n) (h2 : n ≤ came - read) (l : Int) (el : moreL ⟨win, lim, came, read⟩ n = l) (hb : numB l = false) : Calls Tryd.prog 7 #[.pointer (some ⟨sb, 0, none⟩), .int .i64 n] w fun e w' => e = .returned (.tuple #[.int .i64 0, .iface 41 (.int .i64 4)]) ∧ Turned w w' B sb ⟨win, lim, came, read⟩ := by
  obtain ⟨w1, w2, l1, l2, a1, a2, r1, r2⟩ := h.inv
  simp only at w1 w2 l1 l2 a1 a2 r1 r2
  go_enter Tryd.func7, Tryd.ntmps7
  go_wp2_with fail
  refine (left_calls h).mono ?_
  rintro e wa ⟨rfl, ta⟩
  have k3 := ta.1.four.c3
  simp only at k3 ⊢
  go_wp2_with fail
  have hat := at_calls ta.1 h0 h2
  rw [el] at hat
  have HE : Hid (moreL ⟨win, lim, came, read⟩ n = l) := el
  clear el
  simp only at hat
  refine hat.mono ?_
  rintro e wb ⟨rfl, tb⟩
  clear hat k3
  have tb := ta.trans tb
  clear ta
  have k1 := tb.1.four.c1
  have k3 := tb.1.four.c3
  have g1 := tb.1.four.f1
  have g3 := tb.1.four.f3
  simp only at k1 k3
  go_wp2_with (go_at_call 14; refine (isPlace_calls l _).mono ?_; rintro e wc ⟨rfl, rfl⟩; rw [hb])
  go_ret2
  exact ⟨rfl, tb⟩

set_option maxRecDepth 100000 in
set_option maxHeartbeats 2000000 in
theorem read_yes {w : World} {B sb : Nat} {win lim came read : Int} (h : Obj w B sb ⟨win, lim, came, read⟩) (n : Int) (h0 : 0 ≤ n) (h2 : n ≤ came - read) (l : Int) (el : moreL ⟨win, lim, came, read⟩ n = l) (hb : numB l = true) : Calls Tryd.prog 7 #[.pointer (some ⟨sb, 0, none⟩), .int .i64 n] w fun e w' => e = .returned (.tuple #[.int .i64 l, .nilIface]) ∧ Turned w w' B sb ⟨win, moreL ⟨win, lim, came, read⟩ n, came, read + n⟩ := by
  obtain ⟨w1, w2, l1, l2, a1, a2, r1, r2⟩ := h.inv
  simp only at w1 w2 l1 l2 a1 a2 r1 r2
  go_enter Tryd.func7, Tryd.ntmps7
  go_wp2_with fail
  refine (left_calls h).mono ?_
  rintro e wa ⟨rfl, ta⟩
  have k3 := ta.1.four.c3
  simp only at k3 ⊢
  go_wp2_with fail
  have hat := at_calls ta.1 h0 h2
  rw [el] at hat
  have HE : Hid (moreL ⟨win, lim, came, read⟩ n = l) := el
  clear el
  simp only at hat
  refine hat.mono ?_
  rintro e wb ⟨rfl, tb⟩
  clear hat k3
  have tb := ta.trans tb
  clear ta
  have k1 := tb.1.four.c1
  have k3 := tb.1.four.c3
  have g1 := tb.1.four.f1
  have g3 := tb.1.four.f3
  simp only at k1 k3
  go_wp2_with (go_at_call 14; refine (isPlace_calls l _).mono ?_; rintro e wc ⟨rfl, rfl⟩; rw [hb])
  go_ret2
  exact ⟨rfl, tb.trans (Turned.got tb.1 h0 h2 (by rw [HE.out]; exact hb) rfl HE.out.symm)⟩

theorem read_calls {w : World} {B sb : Nat} {s : St} (h : Obj w B sb s) (n : Int) : Calls Tryd.prog 7 #[.pointer (some ⟨sb, 0, none⟩), .int .i64 n] w fun e w' => e = .returned (.tuple #[.int .i64 (getN s n), errV (getF s n)]) ∧ Turned w w' B sb (getS s n) := by
  obtain ⟨win, lim, came, read⟩ := s
  rcases getF_cases ⟨win, lim, came, read⟩ n with ⟨e, h0⟩ | ⟨e, h0, h1⟩ | ⟨e, h0, h1, h2⟩ | ⟨e, h0, h1, h2⟩
  · rw [getS_no (by rw [e]; decide), getN_no (by rw [e]; decide), e, errV_f (by decide)]; exact read_range h n h0
  · rw [getS_no (by rw [e]; decide), getN_no (by rw [e]; decide), e, errV_f (by decide)]; exact read_flow h n h0 h1
  · rw [getS_no (by rw [e]; decide), getN_no (by rw [e]; decide), e, errV_f (by decide)]; exact read_full h n h0 h1 _ rfl h2
  · rw [getS_yes e, getN_yes e, e, errV_0]; exact read_yes h n h0 h1 _ rfl h2
end Go.Proofs.YtojhcmnmjdolpaaDoor
