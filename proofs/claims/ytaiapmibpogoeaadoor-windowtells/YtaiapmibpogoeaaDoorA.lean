/- What the functions of package window are to answer, as functions of integers; isSize, isWay, isPacket and Least; windows in blocks of their own. -/
import Derived.Test.YtaiapmibpogoeaaDoorChecked
import Derived.WalkKit
import Derived.WalkSpells
import Derived.WalkLawsBesides
import Derived.LoopN
import Derived.Outline
import Derived.BigQuiet
import Derived.Deep.RegionWith
import Derived.Deep.DeepCutAuto
import Derived.Shelf.SlSortCmp.QuietGrown
import Derived.KernelRfl
import Derived.Laws.ResultCell
namespace Go.Proofs.YtaiapmibpogoeaaDoor
open Go.RowKit Go.Lib Go.Sort
set_option linter.unusedVariables false
set_option linter.unusedSimpArgs false

abbrev win (s l y : Int) : Value := .agg #[.int .i64 s, .int .i64 l, .int .i64 y]
/-- Can a window be so great? -/
def szB (n : Int) : Bool := decide (400 ≤ n ∧ n ≤ 100000)
/-- Can so much be under way? -/
def wyB (n : Int) : Bool := decide (0 ≤ n ∧ n ≤ 100000)
/-- Can a packet be so long? -/
def pkB (n : Int) : Bool := decide (1 ≤ n ∧ n ≤ 200)
/-- Is a window right? -/
def wB (s l y : Int) : Bool := szB s && (szB l && wyB y)
/-- Are a window and a packet right? -/
def bB (s l y n : Int) : Bool := wB s l y && pkB n
/-- What is wrong: the error's number, or 0. -/
def flt (s l y : Int) : Int := if wB s l y = true then 0 else 1
def bothF (s l y n : Int) : Int := if bB s l y n = true then 0 else 1
def sendF (s l y n : Int) : Int := if bB s l y n = true then (if s < y + n then 8 else 0) else 1
def offF (s l y n : Int) : Int := if bB s l y n = true then (if y < n then 3 else 0) else 1
/-- How much greater a window becomes. -/
def grw (s l n : Int) : Int := if s < l then n else n * 200 / s
/-- How great it is when n came, and when some were lost. -/
def cameS (s l n : Int) : Int := if s + grw s l n < 100000 then s + grw s l n else 100000
def lostS (s : Int) : Int := if s / 2 < 400 then 400 else s / 2
theorem szB_yes {n : Int} (h : szB n = true) : 400 ≤ n ∧ n ≤ 100000 := of_decide_eq_true h
theorem wyB_yes {n : Int} (h : wyB n = true) : 0 ≤ n ∧ n ≤ 100000 := of_decide_eq_true h
theorem pkB_yes {n : Int} (h : pkB n = true) : 1 ≤ n ∧ n ≤ 200 := of_decide_eq_true h
theorem szB_no {n : Int} (h : szB n = false) : n < 400 ∨ 100000 < n := by
  have : ¬ (400 ≤ n ∧ n ≤ 100000) := of_decide_eq_false h
  omega
theorem wyB_no {n : Int} (h : wyB n = false) : n < 0 ∨ 100000 < n := by
  have : ¬ (0 ≤ n ∧ n ≤ 100000) := of_decide_eq_false h
  omega
theorem pkB_no {n : Int} (h : pkB n = false) : n < 1 ∨ 200 < n := by
  have : ¬ (1 ≤ n ∧ n ≤ 200) := of_decide_eq_false h
  omega
theorem wB_yes {s l y : Int} (h : wB s l y = true) : szB s = true ∧ szB l = true ∧ wyB y = true := by simpa [wB] using h
theorem wB_of {s l y : Int} (h1 : 400 ≤ s ∧ s ≤ 100000) (h2 : 400 ≤ l ∧ l ≤ 100000) (h3 : 0 ≤ y ∧ y ≤ 100000) : wB s l y = true := by simp [wB, szB, wyB, h1, h2, h3]
theorem wB_bd {s l y : Int} (h : wB s l y = true) : (400 ≤ s ∧ s ≤ 100000) ∧ (400 ≤ l ∧ l ≤ 100000) ∧ 0 ≤ y ∧ y ≤ 100000 := by
  obtain ⟨h1, h2, h3⟩ := wB_yes h
  exact ⟨szB_yes h1, szB_yes h2, wyB_yes h3⟩
theorem bB_yes {s l y n : Int} (h : bB s l y n = true) : wB s l y = true ∧ pkB n = true := by simpa [bB] using h
theorem bB_of {s l y n : Int} (h1 : wB s l y = true) (h2 : pkB n = true) : bB s l y n = true := by simp [bB, h1, h2]
theorem div_200 {s n : Int} (h0 : 400 ≤ s) (h1 : 1 ≤ n) (h2 : n ≤ 200) : 0 ≤ n * 200 / s ∧ n * 200 / s ≤ 100 := by
  constructor
  · exact Int.ediv_nonneg (by omega) (by omega)
  · have : n * 200 / s ≤ 40000 / s := Int.ediv_le_ediv (by omega) (by omega)
    have h3 : (40000 : Int) / s ≤ 100 := by
      have := Int.ediv_mul_le 40000 (show s ≠ 0 by omega)
      by_cases hc : (40000 : Int) / s ≤ 100
      · exact hc
      · have h4 : 101 ≤ (40000 : Int) / s := by omega
        have h5 : 101 * 400 ≤ (40000 : Int) / s * s := Int.mul_le_mul h4 h0 (by omega) (by omega)
        omega
    omega
theorem grw_bd {s l n : Int} (h0 : 400 ≤ s) (h1 : 1 ≤ n) (h2 : n ≤ 200) : 0 ≤ grw s l n ∧ grw s l n ≤ 200 := by
  have := div_200 h0 h1 h2
  unfold grw; split <;> omega
theorem cameS_bd {s l n : Int} (h0 : 400 ≤ s) (h : s ≤ 100000) (h1 : 1 ≤ n) (h2 : n ≤ 200) : s ≤ cameS s l n ∧ cameS s l n ≤ 100000 := by
  have := grw_bd (l := l) h0 h1 h2
  unfold cameS; split <;> omega
theorem lostS_bd {s : Int} (h0 : 400 ≤ s) : 400 ≤ lostS s ∧ lostS s ≤ s := by unfold lostS; split <;> omega
theorem wrap_small (x : Int) (h0 : -4000000000 ≤ x) (h1 : x ≤ 4000000000) : IntKind.i64.wrap x = x := by simp [IntKind.wrap, IntKind.bits, IntKind.signed]; omega

set_option maxRecDepth 100000 in
set_option maxHeartbeats 2000000 in
theorem isSize_calls (n : Int) (w : World) : Calls Tryd.prog 12 #[.int .i64 n] w fun e w' => e = .returned (.bool (szB n)) ∧ w' = w := by
  by_cases h1 : 400 ≤ n
  · by_cases h2 : n ≤ 100000
    · go_enter Tryd.func12, Tryd.ntmps12
      go_wp2
      go_ret
      exact ⟨by simp [szB, h1, h2], rfl⟩
    · go_enter Tryd.func12, Tryd.ntmps12
      go_wp2
      go_ret
      exact ⟨by simp [szB, h1, h2], rfl⟩
  · go_enter Tryd.func12, Tryd.ntmps12
    go_wp2
    go_ret
    exact ⟨by simp [szB] <;> omega, rfl⟩
set_option maxRecDepth 100000 in
set_option maxHeartbeats 2000000 in
theorem isWay_calls (n : Int) (w : World) : Calls Tryd.prog 13 #[.int .i64 n] w fun e w' => e = .returned (.bool (wyB n)) ∧ w' = w := by
  by_cases h1 : 0 ≤ n
  · by_cases h2 : n ≤ 100000
    · go_enter Tryd.func13, Tryd.ntmps13
      go_wp2
      go_ret
      exact ⟨by simp [wyB, h1, h2], rfl⟩
    · go_enter Tryd.func13, Tryd.ntmps13
      go_wp2
      go_ret
      exact ⟨by simp [wyB, h1, h2], rfl⟩
  · go_enter Tryd.func13, Tryd.ntmps13
    go_wp2
    go_ret
    exact ⟨by simp [wyB] <;> omega, rfl⟩
set_option maxRecDepth 100000 in
set_option maxHeartbeats 2000000 in
theorem isPacket_calls (n : Int) (w : World) : Calls Tryd.prog 18 #[.int .i64 n] w fun e w' => e = .returned (.bool (pkB n)) ∧ w' = w := by
  by_cases h1 : 1 ≤ n
  · by_cases h2 : n ≤ 200
    · go_enter Tryd.func18, Tryd.ntmps18
      go_wp2
      go_ret
      exact ⟨by simp [pkB, h1, h2], rfl⟩
    · go_enter Tryd.func18, Tryd.ntmps18
      go_wp2
      go_ret
      exact ⟨by simp [pkB, h1, h2], rfl⟩
  · go_enter Tryd.func18, Tryd.ntmps18
    go_wp2
    go_ret
    exact ⟨by simp [pkB] <;> omega, rfl⟩
set_option maxRecDepth 100000 in
set_option maxHeartbeats 2000000 in
theorem least_calls (w : World) : Calls Tryd.prog 10 #[] w fun e w' => e = .returned (.int .i64 400) ∧ w' = w := by
  go_enter Tryd.func10, Tryd.ntmps10
  go_wp2
  go_ret
  exact ⟨rfl, rfl⟩
/-- A window in a block of its own. -/
abbrev put (w : World) (s l y : Int) : World := w.alloc (.cells #[.int .i64 s, .int .i64 l, .int .i64 y] 23)
/-- The block b holds a window, and may be written. -/
structure Box (w : World) (b : Nat) (s l y : Int) : Prop where
  lt : b < w.heap.size
  c0 : w.cell? ⟨b, 0, none⟩ = some (.int .i64 s)
  c1 : w.cell? ⟨b, 1, none⟩ = some (.int .i64 l)
  c2 : w.cell? ⟨b, 2, none⟩ = some (.int .i64 y)
  f0 : w.frozen? ⟨b, 0, none⟩ = false
  f1 : w.frozen? ⟨b, 1, none⟩ = false
  f2 : w.frozen? ⟨b, 2, none⟩ = false
theorem frozen_below {w w' : World} {a : Addr} (hb : Below w.heap.size w w') (h : a.block < w.heap.size) : w'.frozen? a = w.frozen? a := by
  unfold World.frozen?; rw [hb.block _ h]
theorem Box.below {w w' : World} {b : Nat} {s l y : Int} (h : Box w b s l y) (hb : Below w.heap.size w w') : Box w' b s l y :=
  ⟨Nat.lt_of_lt_of_le h.lt hb.size, (hb.cell (p := ⟨b, 0, none⟩) h.lt).trans h.c0, (hb.cell (p := ⟨b, 1, none⟩) h.lt).trans h.c1, (hb.cell (p := ⟨b, 2, none⟩) h.lt).trans h.c2,
    (frozen_below hb h.lt).trans h.f0, (frozen_below hb h.lt).trans h.f1, (frozen_below hb h.lt).trans h.f2⟩
theorem Box.new (w : World) (s l y : Int) : Box (put w s l y) w.heap.size s l y :=
  ⟨by simp, by simp, by simp, by simp, by simp, by simp, by simp⟩
theorem Box.drew {w : World} {b : Nat} {s l y : Int} (h : Box w b s l y) : Box w.drew b s l y := ⟨h.lt, h.c0, h.c1, h.c2, h.f0, h.f1, h.f2⟩
abbrev set3 (w : World) (b : Nat) (s l y : Int) : World := ((w.setCell ⟨b, 0, none⟩ (.int .i64 s)).setCell ⟨b, 1, none⟩ (.int .i64 l)).setCell ⟨b, 2, none⟩ (.int .i64 y)
/-- One cell of a window is written. -/
theorem Box.set0 {w : World} {b : Nat} {s l y : Int} (h : Box w b s l y) (s' : Int) : Box (w.setCell ⟨b, 0, none⟩ (.int .i64 s')) b s' l y :=
  ⟨by simpa using h.lt, World.cell?_setCell_same _ _ _ h.c0, by rw [World.cell?_setCell_other _ _ _ _ (by simp)]; exact h.c1, by rw [World.cell?_setCell_other _ _ _ _ (by simp)]; exact h.c2, by simpa using h.f0, by simpa using h.f1, by simpa using h.f2⟩
theorem Box.set1 {w : World} {b : Nat} {s l y : Int} (h : Box w b s l y) (l' : Int) : Box (w.setCell ⟨b, 1, none⟩ (.int .i64 l')) b s l' y :=
  ⟨by simpa using h.lt, by rw [World.cell?_setCell_other _ _ _ _ (by simp)]; exact h.c0, World.cell?_setCell_same _ _ _ h.c1, by rw [World.cell?_setCell_other _ _ _ _ (by simp)]; exact h.c2, by simpa using h.f0, by simpa using h.f1, by simpa using h.f2⟩
theorem Box.set2 {w : World} {b : Nat} {s l y : Int} (h : Box w b s l y) (y' : Int) : Box (w.setCell ⟨b, 2, none⟩ (.int .i64 y')) b s l y' :=
  ⟨by simpa using h.lt, by rw [World.cell?_setCell_other _ _ _ _ (by simp)]; exact h.c0, by rw [World.cell?_setCell_other _ _ _ _ (by simp)]; exact h.c1, World.cell?_setCell_same _ _ _ h.c2, by simpa using h.f0, by simpa using h.f1, by simpa using h.f2⟩
theorem Box.set {w : World} {b : Nat} {s l y : Int} (h : Box w b s l y) (s' l' y' : Int) : Box (set3 w b s' l' y') b s' l' y' := ((h.set0 s').set1 l').set2 y'
theorem Box.far {w : World} {b q : Nat} {s l y : Int} (h : Box w b s l y) (hq : q ≠ b) (o : Nat) (v : Value) : Box (w.setCell ⟨q, o, none⟩ v) b s l y := by
  have far : ∀ (a : Addr), a.block = b → (w.setCell ⟨q, o, none⟩ v).cell? a = w.cell? a := fun a ha => World.cell?_setCell_other _ _ _ _ (by intro e; apply hq; rw [← ha, ← e])
  exact ⟨by simpa using h.lt, by rw [far _ rfl]; exact h.c0, by rw [far _ rfl]; exact h.c1, by rw [far _ rfl]; exact h.c2, by simpa using h.f0, by simpa using h.f1, by simpa using h.f2⟩
theorem Box.set_far {w : World} {b q : Nat} {s l y : Int} (h : Box w b s l y) (hq : q ≠ b) (s' l' y' : Int) : Box (set3 w q s' l' y') b s l y := ((h.far hq _ _).far hq _ _).far hq _ _
theorem below_set3 {B : Nat} {w w' : World} {b : Nat} (h : Below B w w') (hb : B ≤ b) (s l y : Int) : Below B w (set3 w' b s l y) :=
  ((h.setCell hb _).setCell hb _).setCell hb _
theorem below_put (w : World) (s l y : Int) : Below w.heap.size w (put w s l y) := (Below.refl _ _).alloc (Nat.le_refl _) _
theorem Below.of_drew {N : Nat} {w w' : World} (h : Below N w.drew w') : Below N w w' := ⟨h.os, h.tape, h.output, h.size, h.block⟩
/-- Two boxes made since w: the window that came in, and the one that is answered. -/
structure Pair (w W : World) (P Q : Nat) (s l y a b c : Int) : Prop where
  p : Box W P s l y
  q : Box W Q a b c
  bel : Below w.heap.size w W
  leP : w.heap.size ≤ P
  leQ : w.heap.size ≤ Q
  ne : P ≠ Q
  ne' : Q ≠ P
theorem Pair.below {w W W' : World} {P Q : Nat} {s l y a b c : Int} (h : Pair w W P Q s l y a b c) (hb : Below W.heap.size W W') : Pair w W' P Q s l y a b c :=
  ⟨h.p.below hb, h.q.below hb, h.bel.trans (hb.mono h.bel.size), h.leP, h.leQ, h.ne, h.ne'⟩
theorem Pair.drew {w W : World} {P Q : Nat} {s l y a b c : Int} (h : Pair w W P Q s l y a b c) : Pair w W.drew P Q s l y a b c :=
  ⟨h.p.drew, h.q.drew, h.bel.drew, h.leP, h.leQ, h.ne, h.ne'⟩
theorem Pair.setP {w W : World} {P Q : Nat} {s l y a b c : Int} (h : Pair w W P Q s l y a b c) (s' l' y' : Int) : Pair w (set3 W P s' l' y') P Q s' l' y' a b c :=
  ⟨h.p.set _ _ _, h.q.set_far h.ne _ _ _, below_set3 h.bel h.leP _ _ _, h.leP, h.leQ, h.ne, h.ne'⟩
theorem Pair.setQ {w W : World} {P Q : Nat} {s l y a b c : Int} (h : Pair w W P Q s l y a b c) (a' b' c' : Int) : Pair w (set3 W Q a' b' c') P Q s l y a' b' c' :=
  ⟨h.p.set_far h.ne' _ _ _, h.q.set _ _ _, below_set3 h.bel h.leQ _ _ _, h.leP, h.leQ, h.ne, h.ne'⟩
theorem Pair.setP0 {w W : World} {P Q : Nat} {s l y a b c : Int} (h : Pair w W P Q s l y a b c) (s' : Int) : Pair w (W.setCell ⟨P, 0, none⟩ (.int .i64 s')) P Q s' l y a b c :=
  ⟨h.p.set0 _, h.q.far h.ne _ _, h.bel.setCell h.leP _, h.leP, h.leQ, h.ne, h.ne'⟩
theorem pair_start (w : World) (s l y : Int) : Pair w (put (put w s l y) 0 0 0) w.heap.size (w.heap.size + 1) s l y 0 0 0 := by
  have k2 := Box.new (put w s l y) 0 0 0
  rw [show (put w s l y).heap.size = w.heap.size + 1 by simp] at k2
  exact ⟨(Box.new w s l y).below (below_put _ _ _ _), k2, (below_put w s l y).trans ((below_put _ _ _ _).mono (by simp)), by omega, by omega, by omega, by omega⟩
end Go.Proofs.YtaiapmibpogoeaaDoor
