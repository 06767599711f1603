/- The texts A,B,C,D of window, at this seat. -/
import Derived.Test.YtoabfilliiopmaaGreatDoorChecked
import Derived.WalkKit
import Derived.WalkSpells
import Derived.WalkLawsBesides
import Derived.LoopN
import Derived.Outline
import Derived.BigQuiet
import Derived.Deep.RegionWith
import Derived.Deep.DeepCutAuto
import Derived.Shelf.SlSortCmp.QuietGrown
import Derived.KernelRfl
import Derived.Laws.ResultCell
namespace Go.Proofs.YtoabfilliiopmaaGreatDoor.Wx
open Go.RowKit Go.Lib Go.Sort
set_option linter.unusedVariables false
set_option linter.unusedSimpArgs false


abbrev win (s l y : Int) : Value := .agg #[.int .i64 s, .int .i64 l, .int .i64 y]
/-- Can a window be so great? -/
def szB (n : Int) : Bool := decide (400 ≤ n ∧ n ≤ 100000)
/-- Can so much be under way? -/
def wyB (n : Int) : Bool := decide (0 ≤ n ∧ n ≤ 100000)
/-- Can a packet be so long? -/
def pkB (n : Int) : Bool := decide (1 ≤ n ∧ n ≤ 200)
/-- Is a window right? -/
def wB (s l y : Int) : Bool := szB s && (szB l && wyB y)
/-- Are a window and a packet right? -/
def bB (s l y n : Int) : Bool := wB s l y && pkB n
/-- What is wrong: the error's number, or 0. -/
def flt (s l y : Int) : Int := if wB s l y = true then 0 else 1
def bothF (s l y n : Int) : Int := if bB s l y n = true then 0 else 1
def sendF (s l y n : Int) : Int := if bB s l y n = true then (if s < y + n then 8 else 0) else 1
def offF (s l y n : Int) : Int := if bB s l y n = true then (if y < n then 3 else 0) else 1
/-- How much greater a window becomes. -/
def grw (s l n : Int) : Int := if s < l then n else n * 200 / s
/-- How great it is when n came, and when some were lost. -/
def cameS (s l n : Int) : Int := if s + grw s l n < 100000 then s + grw s l n else 100000
def lostS (s : Int) : Int := if s / 2 < 400 then 400 else s / 2
theorem szB_yes {n : Int} (h : szB n = true) : 400 ≤ n ∧ n ≤ 100000 := of_decide_eq_true h
theorem wyB_yes {n : Int} (h : wyB n = true) : 0 ≤ n ∧ n ≤ 100000 := of_decide_eq_true h
theorem pkB_yes {n : Int} (h : pkB n = true) : 1 ≤ n ∧ n ≤ 200 := of_decide_eq_true h
theorem szB_no {n : Int} (h : szB n = false) : n < 400 ∨ 100000 < n := by
  have : ¬ (400 ≤ n ∧ n ≤ 100000) := of_decide_eq_false h
  omega
theorem wyB_no {n : Int} (h : wyB n = false) : n < 0 ∨ 100000 < n := by
  have : ¬ (0 ≤ n ∧ n ≤ 100000) := of_decide_eq_false h
  omega
theorem pkB_no {n : Int} (h : pkB n = false) : n < 1 ∨ 200 < n := by
  have : ¬ (1 ≤ n ∧ n ≤ 200) := of_decide_eq_false h
  omega
theorem wB_yes {s l y : Int} (h : wB s l y = true) : szB s = true ∧ szB l = true ∧ wyB y = true := by simpa [wB] using h
theorem wB_of {s l y : Int} (h1 : 400 ≤ s ∧ s ≤ 100000) (h2 : 400 ≤ l ∧ l ≤ 100000) (h3 : 0 ≤ y ∧ y ≤ 100000) : wB s l y = true := by simp [wB, szB, wyB, h1, h2, h3]
theorem wB_bd {s l y : Int} (h : wB s l y = true) : (400 ≤ s ∧ s ≤ 100000) ∧ (400 ≤ l ∧ l ≤ 100000) ∧ 0 ≤ y ∧ y ≤ 100000 := by
  obtain ⟨h1, h2, h3⟩ := wB_yes h
  exact ⟨szB_yes h1, szB_yes h2, wyB_yes h3⟩
theorem bB_yes {s l y n : Int} (h : bB s l y n = true) : wB s l y = true ∧ pkB n = true := by simpa [bB] using h
theorem bB_of {s l y n : Int} (h1 : wB s l y = true) (h2 : pkB n = true) : bB s l y n = true := by simp [bB, h1, h2]
theorem div_200 {s n : Int} (h0 : 400 ≤ s) (h1 : 1 ≤ n) (h2 : n ≤ 200) : 0 ≤ n * 200 / s ∧ n * 200 / s ≤ 100 := by
  constructor
  · exact Int.ediv_nonneg (by omega) (by omega)
  · have : n * 200 / s ≤ 40000 / s := Int.ediv_le_ediv (by omega) (by omega)
    have h3 : (40000 : Int) / s ≤ 100 := by
      have := Int.ediv_mul_le 40000 (show s ≠ 0 by omega)
      by_cases hc : (40000 : Int) / s ≤ 100
      · exact hc
      · have h4 : 101 ≤ (40000 : Int) / s := by omega
        have h5 : 101 * 400 ≤ (40000 : Int) / s * s := Int.mul_le_mul h4 h0 (by omega) (by omega)
        omega
    omega
theorem grw_bd {s l n : Int} (h0 : 400 ≤ s) (h1 : 1 ≤ n) (h2 : n ≤ 200) : 0 ≤ grw s l n ∧ grw s l n ≤ 200 := by
  have := div_200 h0 h1 h2
  unfold grw; split <;> omega
theorem cameS_bd {s l n : Int} (h0 : 400 ≤ s) (h : s ≤ 100000) (h1 : 1 ≤ n) (h2 : n ≤ 200) : s ≤ cameS s l n ∧ cameS s l n ≤ 100000 := by
  have := grw_bd (l := l) h0 h1 h2
  unfold cameS; split <;> omega
theorem lostS_bd {s : Int} (h0 : 400 ≤ s) : 400 ≤ lostS s ∧ lostS s ≤ s := by unfold lostS; split <;> omega
theorem wrap_small (x : Int) (h0 : -4000000000 ≤ x) (h1 : x ≤ 4000000000) : IntKind.i64.wrap x = x := by simp [IntKind.wrap, IntKind.bits, IntKind.signed]; omega

set_option maxRecDepth 100000 in
set_option maxHeartbeats 2000000 in
theorem isSize_calls (n : Int) (w : World) : Calls Tryz.prog 150 #[.int .i64 n] w fun e w' => e = .returned (.bool (szB n)) ∧ w' = w := by
  by_cases h1 : 400 ≤ n
  · by_cases h2 : n ≤ 100000
    · go_enter Tryz.func150, Tryz.ntmps150
      go_wp2
      go_ret
      exact ⟨by simp [szB, h1, h2], rfl⟩
    · go_enter Tryz.func150, Tryz.ntmps150
      go_wp2
      go_ret
      exact ⟨by simp [szB, h1, h2], rfl⟩
  · go_enter Tryz.func150, Tryz.ntmps150
    go_wp2
    go_ret
    exact ⟨by simp [szB] <;> omega, rfl⟩
set_option maxRecDepth 100000 in
set_option maxHeartbeats 2000000 in
theorem isWay_calls (n : Int) (w : World) : Calls Tryz.prog 151 #[.int .i64 n] w fun e w' => e = .returned (.bool (wyB n)) ∧ w' = w := by
  by_cases h1 : 0 ≤ n
  · by_cases h2 : n ≤ 100000
    · go_enter Tryz.func151, Tryz.ntmps151
      go_wp2
      go_ret
      exact ⟨by simp [wyB, h1, h2], rfl⟩
    · go_enter Tryz.func151, Tryz.ntmps151
      go_wp2
      go_ret
      exact ⟨by simp [wyB, h1, h2], rfl⟩
  · go_enter Tryz.func151, Tryz.ntmps151
    go_wp2
    go_ret
    exact ⟨by simp [wyB] <;> omega, rfl⟩
set_option maxRecDepth 100000 in
set_option maxHeartbeats 2000000 in
theorem isPacket_calls (n : Int) (w : World) : Calls Tryz.prog 119 #[.int .i64 n] w fun e w' => e = .returned (.bool (pkB n)) ∧ w' = w := by
  by_cases h1 : 1 ≤ n
  · by_cases h2 : n ≤ 200
    · go_enter Tryz.func119, Tryz.ntmps119
      go_wp2
      go_ret
      exact ⟨by simp [pkB, h1, h2], rfl⟩
    · go_enter Tryz.func119, Tryz.ntmps119
      go_wp2
      go_ret
      exact ⟨by simp [pkB, h1, h2], rfl⟩
  · go_enter Tryz.func119, Tryz.ntmps119
    go_wp2
    go_ret
    exact ⟨by simp [pkB] <;> omega, rfl⟩
/-- A window in a block of its own. -/
abbrev put (w : World) (s l y : Int) : World := w.alloc (.cells #[.int .i64 s, .int .i64 l, .int .i64 y] 73)
/-- The block b holds a window, and may be written. -/
structure Box (w : World) (b : Nat) (s l y : Int) : Prop where
  lt : b < w.heap.size
  c0 : w.cell? ⟨b, 0, none⟩ = some (.int .i64 s)
  c1 : w.cell? ⟨b, 1, none⟩ = some (.int .i64 l)
  c2 : w.cell? ⟨b, 2, none⟩ = some (.int .i64 y)
  f0 : w.frozen? ⟨b, 0, none⟩ = false
  f1 : w.frozen? ⟨b, 1, none⟩ = false
  f2 : w.frozen? ⟨b, 2, none⟩ = false
theorem frozen_below {w w' : World} {a : Addr} (hb : Below w.heap.size w w') (h : a.block < w.heap.size) : w'.frozen? a = w.frozen? a := by
  unfold World.frozen?; rw [hb.block _ h]
theorem Box.below {w w' : World} {b : Nat} {s l y : Int} (h : Box w b s l y) (hb : Below w.heap.size w w') : Box w' b s l y :=
  ⟨Nat.lt_of_lt_of_le h.lt hb.size, (hb.cell (p := ⟨b, 0, none⟩) h.lt).trans h.c0, (hb.cell (p := ⟨b, 1, none⟩) h.lt).trans h.c1, (hb.cell (p := ⟨b, 2, none⟩) h.lt).trans h.c2,
    (frozen_below hb h.lt).trans h.f0, (frozen_below hb h.lt).trans h.f1, (frozen_below hb h.lt).trans h.f2⟩
theorem Box.new (w : World) (s l y : Int) : Box (put w s l y) w.heap.size s l y :=
  ⟨by simp, by simp, by simp, by simp, by simp, by simp, by simp⟩
theorem Box.drew {w : World} {b : Nat} {s l y : Int} (h : Box w b s l y) : Box w.drew b s l y := ⟨h.lt, h.c0, h.c1, h.c2, h.f0, h.f1, h.f2⟩
abbrev set3 (w : World) (b : Nat) (s l y : Int) : World := ((w.setCell ⟨b, 0, none⟩ (.int .i64 s)).setCell ⟨b, 1, none⟩ (.int .i64 l)).setCell ⟨b, 2, none⟩ (.int .i64 y)
/-- One cell of a window is written. -/
theorem Box.set0 {w : World} {b : Nat} {s l y : Int} (h : Box w b s l y) (s' : Int) : Box (w.setCell ⟨b, 0, none⟩ (.int .i64 s')) b s' l y :=
  ⟨by simpa using h.lt, World.cell?_setCell_same _ _ _ h.c0, by rw [World.cell?_setCell_other _ _ _ _ (by simp)]; exact h.c1, by rw [World.cell?_setCell_other _ _ _ _ (by simp)]; exact h.c2, by simpa using h.f0, by simpa using h.f1, by simpa using h.f2⟩
theorem Box.set1 {w : World} {b : Nat} {s l y : Int} (h : Box w b s l y) (l' : Int) : Box (w.setCell ⟨b, 1, none⟩ (.int .i64 l')) b s l' y :=
  ⟨by simpa using h.lt, by rw [World.cell?_setCell_other _ _ _ _ (by simp)]; exact h.c0, World.cell?_setCell_same _ _ _ h.c1, by rw [World.cell?_setCell_other _ _ _ _ (by simp)]; exact h.c2, by simpa using h.f0, by simpa using h.f1, by simpa using h.f2⟩
theorem Box.set2 {w : World} {b : Nat} {s l y : Int} (h : Box w b s l y) (y' : Int) : Box (w.setCell ⟨b, 2, none⟩ (.int .i64 y')) b s l y' :=
  ⟨by simpa using h.lt, by rw [World.cell?_setCell_other _ _ _ _ (by simp)]; exact h.c0, by rw [World.cell?_setCell_other _ _ _ _ (by simp)]; exact h.c1, World.cell?_setCell_same _ _ _ h.c2, by simpa using h.f0, by simpa using h.f1, by simpa using h.f2⟩
theorem Box.set {w : World} {b : Nat} {s l y : Int} (h : Box w b s l y) (s' l' y' : Int) : Box (set3 w b s' l' y') b s' l' y' := ((h.set0 s').set1 l').set2 y'
theorem Box.far {w : World} {b q : Nat} {s l y : Int} (h : Box w b s l y) (hq : q ≠ b) (o : Nat) (v : Value) : Box (w.setCell ⟨q, o, none⟩ v) b s l y := by
  have far : ∀ (a : Addr), a.block = b → (w.setCell ⟨q, o, none⟩ v).cell? a = w.cell? a := fun a ha => World.cell?_setCell_other _ _ _ _ (by intro e; apply hq; rw [← ha, ← e])
  exact ⟨by simpa using h.lt, by rw [far _ rfl]; exact h.c0, by rw [far _ rfl]; exact h.c1, by rw [far _ rfl]; exact h.c2, by simpa using h.f0, by simpa using h.f1, by simpa using h.f2⟩
theorem Box.set_far {w : World} {b q : Nat} {s l y : Int} (h : Box w b s l y) (hq : q ≠ b) (s' l' y' : Int) : Box (set3 w q s' l' y') b s l y := ((h.far hq _ _).far hq _ _).far hq _ _
theorem below_set3 {B : Nat} {w w' : World} {b : Nat} (h : Below B w w') (hb : B ≤ b) (s l y : Int) : Below B w (set3 w' b s l y) :=
  ((h.setCell hb _).setCell hb _).setCell hb _
theorem below_put (w : World) (s l y : Int) : Below w.heap.size w (put w s l y) := (Below.refl _ _).alloc (Nat.le_refl _) _
theorem Below.of_drew {N : Nat} {w w' : World} (h : Below N w.drew w') : Below N w w' := ⟨h.os, h.tape, h.output, h.size, h.block⟩
/-- Two boxes made since w: the window that came in, and the one that is answered. -/
structure Pair (w W : World) (P Q : Nat) (s l y a b c : Int) : Prop where
  p : Box W P s l y
  q : Box W Q a b c
  bel : Below w.heap.size w W
  leP : w.heap.size ≤ P
  leQ : w.heap.size ≤ Q
  ne : P ≠ Q
  ne' : Q ≠ P
theorem Pair.below {w W W' : World} {P Q : Nat} {s l y a b c : Int} (h : Pair w W P Q s l y a b c) (hb : Below W.heap.size W W') : Pair w W' P Q s l y a b c :=
  ⟨h.p.below hb, h.q.below hb, h.bel.trans (hb.mono h.bel.size), h.leP, h.leQ, h.ne, h.ne'⟩
theorem Pair.drew {w W : World} {P Q : Nat} {s l y a b c : Int} (h : Pair w W P Q s l y a b c) : Pair w W.drew P Q s l y a b c :=
  ⟨h.p.drew, h.q.drew, h.bel.drew, h.leP, h.leQ, h.ne, h.ne'⟩
theorem Pair.setP {w W : World} {P Q : Nat} {s l y a b c : Int} (h : Pair w W P Q s l y a b c) (s' l' y' : Int) : Pair w (set3 W P s' l' y') P Q s' l' y' a b c :=
  ⟨h.p.set _ _ _, h.q.set_far h.ne _ _ _, below_set3 h.bel h.leP _ _ _, h.leP, h.leQ, h.ne, h.ne'⟩
theorem Pair.setQ {w W : World} {P Q : Nat} {s l y a b c : Int} (h : Pair w W P Q s l y a b c) (a' b' c' : Int) : Pair w (set3 W Q a' b' c') P Q s l y a' b' c' :=
  ⟨h.p.set_far h.ne' _ _ _, h.q.set _ _ _, below_set3 h.bel h.leQ _ _ _, h.leP, h.leQ, h.ne, h.ne'⟩
theorem Pair.setP0 {w W : World} {P Q : Nat} {s l y a b c : Int} (h : Pair w W P Q s l y a b c) (s' : Int) : Pair w (W.setCell ⟨P, 0, none⟩ (.int .i64 s')) P Q s' l y a b c :=
  ⟨h.p.set0 _, h.q.far h.ne _ _, h.bel.setCell h.leP _, h.leP, h.leQ, h.ne, h.ne'⟩
theorem pair_start (w : World) (s l y : Int) : Pair w (put (put w s l y) 0 0 0) w.heap.size (w.heap.size + 1) s l y 0 0 0 := by
  have k2 := Box.new (put w s l y) 0 0 0
  rw [show (put w s l y).heap.size = w.heap.size + 1 by simp] at k2
  exact ⟨(Box.new w s l y).below (below_put _ _ _ _), k2, (below_put w s l y).trans ((below_put _ _ _ _).mono (by simp)), by omega, by omega, by omega, by omega⟩



set_option maxRecDepth 100000 in
set_option maxHeartbeats 2000000 in
theorem check_s (s l y : Int) (w : World) (h1 : szB s = false) : Calls Tryz.prog 118 #[win s l y] w fun e w' => e = .returned (.iface 108 (.int .i64 1)) ∧ Below w.heap.size w w' := by
  go_enter Tryz.func118, Tryz.ntmps118
  go_wp2_with fail
  refine (isSize_calls s _).mono ?_
  rintro e w1 ⟨rfl, rfl⟩
  rw [h1]
  go_wp2_with fail
  go_ret
  exact ⟨rfl, below_put _ _ _ _⟩
set_option maxRecDepth 100000 in
set_option maxHeartbeats 2000000 in
theorem check_l (s l y : Int) (w : World) (h1 : szB s = true) (h2 : szB l = false) : Calls Tryz.prog 118 #[win s l y] w fun e w' => e = .returned (.iface 108 (.int .i64 1)) ∧ Below w.heap.size w w' := by
  go_enter Tryz.func118, Tryz.ntmps118
  go_wp2_with fail
  refine (isSize_calls s _).mono ?_
  rintro e w1 ⟨rfl, rfl⟩
  rw [h1]
  go_wp2_with fail
  refine (isSize_calls l _).mono ?_
  rintro e w1 ⟨rfl, rfl⟩
  rw [h2]
  go_wp2_with fail
  go_ret
  exact ⟨rfl, below_put _ _ _ _⟩
set_option maxRecDepth 100000 in
set_option maxHeartbeats 2000000 in
theorem check_y (s l y : Int) (w : World) (h1 : szB s = true) (h2 : szB l = true) (h3 : wyB y = false) : Calls Tryz.prog 118 #[win s l y] w fun e w' => e = .returned (.iface 108 (.int .i64 1)) ∧ Below w.heap.size w w' := by
  go_enter Tryz.func118, Tryz.ntmps118
  go_wp2_with fail
  refine (isSize_calls s _).mono ?_
  rintro e w1 ⟨rfl, rfl⟩
  rw [h1]
  go_wp2_with fail
  refine (isSize_calls l _).mono ?_
  rintro e w1 ⟨rfl, rfl⟩
  rw [h2]
  go_wp2_with fail
  refine (isWay_calls y _).mono ?_
  rintro e w1 ⟨rfl, rfl⟩
  rw [h3]
  go_wp2_with fail
  go_ret
  exact ⟨rfl, below_put _ _ _ _⟩
set_option maxRecDepth 100000 in
set_option maxHeartbeats 2000000 in
theorem check_all (s l y : Int) (w : World) (h1 : szB s = true) (h2 : szB l = true) (h3 : wyB y = true) : Calls Tryz.prog 118 #[win s l y] w fun e w' => e = .returned .nilIface ∧ Below w.heap.size w w' := by
  go_enter Tryz.func118, Tryz.ntmps118
  go_wp2_with fail
  refine (isSize_calls s _).mono ?_
  rintro e w1 ⟨rfl, rfl⟩
  rw [h1]
  go_wp2_with fail
  refine (isSize_calls l _).mono ?_
  rintro e w1 ⟨rfl, rfl⟩
  rw [h2]
  go_wp2_with fail
  refine (isWay_calls y _).mono ?_
  rintro e w1 ⟨rfl, rfl⟩
  rw [h3]
  go_wp2_with fail
  go_ret
  exact ⟨rfl, below_put _ _ _ _⟩
theorem check_ok (s l y : Int) (w : World) (h : wB s l y = true) : Calls Tryz.prog 118 #[win s l y] w fun e w' => e = .returned .nilIface ∧ Below w.heap.size w w' := by
  obtain ⟨h1, h2, h3⟩ := wB_yes h
  exact check_all s l y w h1 h2 h3
theorem check_no (s l y : Int) (w : World) (h : wB s l y = false) : Calls Tryz.prog 118 #[win s l y] w fun e w' => e = .returned (.iface 108 (.int .i64 1)) ∧ Below w.heap.size w w' := by
  cases h1 : szB s with
  | false => exact check_s s l y w h1
  | true => cases h2 : szB l with
    | false => exact check_l s l y w h1 h2
    | true => cases h3 : wyB y with
      | false => exact check_y s l y w h1 h2 h3
      | true => rw [show wB s l y = true by simp [wB, h1, h2, h3]] at h; cases h

set_option maxRecDepth 100000 in
set_option maxHeartbeats 2000000 in
theorem both_w (s l y n : Int) (w : World) (h : wB s l y = false) : Calls Tryz.prog 76 #[win s l y, .int .i64 n] w fun e w' => e = .returned (.iface 108 (.int .i64 1)) ∧ Below w.heap.size w w' := by
  go_enter Tryz.func76, Tryz.ntmps76
  go_wp2_with fail
  have hX := Box.new w s l y
  have hB := below_put w s l y
  refine (check_no s l y _ h).mono ?_
  rintro e w1 ⟨rfl, hb1⟩
  have hB1 := hB.trans (hb1.mono hB.size)
  go_wp2_with fail
  go_ret
  exact ⟨rfl, hB1⟩
set_option maxRecDepth 100000 in
set_option maxHeartbeats 2000000 in
theorem both_n (s l y n : Int) (w : World) (h : wB s l y = true) (hn : pkB n = false) : Calls Tryz.prog 76 #[win s l y, .int .i64 n] w fun e w' => e = .returned (.iface 108 (.int .i64 1)) ∧ Below w.heap.size w w' := by
  go_enter Tryz.func76, Tryz.ntmps76
  go_wp2_with fail
  have hX := Box.new w s l y
  have hB := below_put w s l y
  refine (check_ok s l y _ h).mono ?_
  rintro e w1 ⟨rfl, hb1⟩
  have hB1 := hB.trans (hb1.mono hB.size)
  go_wp2_with fail
  refine (isPacket_calls n _).mono ?_
  rintro e w2 ⟨rfl, rfl⟩
  rw [hn]
  go_wp2_with fail
  go_ret
  exact ⟨rfl, hB1⟩
set_option maxRecDepth 100000 in
set_option maxHeartbeats 2000000 in
theorem both_all (s l y n : Int) (w : World) (h : wB s l y = true) (hn : pkB n = true) : Calls Tryz.prog 76 #[win s l y, .int .i64 n] w fun e w' => e = .returned .nilIface ∧ Below w.heap.size w w' := by
  go_enter Tryz.func76, Tryz.ntmps76
  go_wp2_with fail
  have hX := Box.new w s l y
  have hB := below_put w s l y
  refine (check_ok s l y _ h).mono ?_
  rintro e w1 ⟨rfl, hb1⟩
  have hB1 := hB.trans (hb1.mono hB.size)
  go_wp2_with fail
  refine (isPacket_calls n _).mono ?_
  rintro e w2 ⟨rfl, rfl⟩
  rw [hn]
  go_wp2_with fail
  go_ret
  exact ⟨rfl, hB1⟩
theorem both_ok (s l y n : Int) (w : World) (h : bB s l y n = true) : Calls Tryz.prog 76 #[win s l y, .int .i64 n] w fun e w' => e = .returned .nilIface ∧ Below w.heap.size w w' := both_all s l y n w (bB_yes h).1 (bB_yes h).2
theorem both_no (s l y n : Int) (w : World) (h : bB s l y n = false) : Calls Tryz.prog 76 #[win s l y, .int .i64 n] w fun e w' => e = .returned (.iface 108 (.int .i64 1)) ∧ Below w.heap.size w w' := by
  cases h1 : wB s l y with
  | false => exact both_w s l y n w h1
  | true => cases h2 : pkB n with
    | false => exact both_n s l y n w h1 h2
    | true => rw [bB_of h1 h2] at h; cases h

set_option maxRecDepth 100000 in
set_option maxHeartbeats 2000000 in
theorem send_f (s l y n : Int) (w : World) (h : bB s l y n = false) : Calls Tryz.prog 30 #[win s l y, .int .i64 n] w fun e w' => e = .returned (.tuple #[win 0 0 0, (.iface 108 (.int .i64 1))]) ∧ Below w.heap.size w w' := by
  go_enter Tryz.func30, Tryz.ntmps30
  go_wp2_with fail
  have hP := pair_start w s l y
  generalize w.heap.size = P at hP ⊢
  generalize P + 1 = Q at hP ⊢
  refine (both_no s l y n _ h).mono ?_
  rintro e w1 ⟨rfl, hb1⟩
  have hP := hP.below hb1
  clear hb1
  have hPc := hP
  obtain ⟨⟨pl, p0, p1, p2, pf0, pf1, pf2⟩, ⟨ql, q0, q1, q2, qf0, qf1, qf2⟩, hbel, hleP, hleQ, hne, hne'⟩ := hPc
  go_wp2_with fail
  (try simp only [Exit.inBlock, Exit.then])
  refine bodyPost_ret (v := .tuple #[win 0 0 0, (.iface 108 (.int .i64 1))]) ?_ rfl ⟨rfl, ?_⟩
  · rw [results_cell_tmp rfl]; go_simp
  · repeat (first | (refine Below.setCell ?_ (by simp <;> omega) _) | exact hbel | (refine Below.alloc ?_ (by simp <;> omega) _))
set_option maxRecDepth 100000 in
set_option maxHeartbeats 2000000 in
theorem send_w (s l y n : Int) (w : World) (h : bB s l y n = true) (hw : s < y + n) : Calls Tryz.prog 30 #[win s l y, .int .i64 n] w fun e w' => e = .returned (.tuple #[win 0 0 0, (.iface 108 (.int .i64 8))]) ∧ Below w.heap.size w w' := by
  obtain ⟨⟨s0, s1⟩, ⟨l0, l1⟩, y0, y1⟩ := wB_bd (bB_yes h).1
  obtain ⟨n0, n1⟩ := pkB_yes (bB_yes h).2
  go_enter Tryz.func30, Tryz.ntmps30
  go_wp2_with fail
  have hP := pair_start w s l y
  generalize w.heap.size = P at hP ⊢
  generalize P + 1 = Q at hP ⊢
  refine (both_ok s l y n _ h).mono ?_
  rintro e w1 ⟨rfl, hb1⟩
  have hP := hP.below hb1
  clear hb1
  have hPc := hP
  obtain ⟨⟨pl, p0, p1, p2, pf0, pf1, pf2⟩, ⟨ql, q0, q1, q2, qf0, qf1, qf2⟩, hbel, hleP, hleQ, hne, hne'⟩ := hPc
  go_wp2_with fail
  (try simp only [Exit.inBlock, Exit.then])
  refine bodyPost_ret (v := .tuple #[win 0 0 0, (.iface 108 (.int .i64 8))]) ?_ rfl ⟨rfl, ?_⟩
  · rw [results_cell_tmp rfl]; go_simp
  · repeat (first | (refine Below.setCell ?_ (by simp <;> omega) _) | exact hbel | (refine Below.alloc ?_ (by simp <;> omega) _))
set_option maxRecDepth 100000 in
set_option maxHeartbeats 2000000 in
theorem send_ok (s l y n : Int) (w : World) (h : bB s l y n = true) (hw : y + n ≤ s) : Calls Tryz.prog 30 #[win s l y, .int .i64 n] w fun e w' => e = .returned (.tuple #[win s l (y + n), .nilIface]) ∧ Below w.heap.size w w' := by
  obtain ⟨⟨s0, s1⟩, ⟨l0, l1⟩, y0, y1⟩ := wB_bd (bB_yes h).1
  obtain ⟨n0, n1⟩ := pkB_yes (bB_yes h).2
  go_enter Tryz.func30, Tryz.ntmps30
  go_wp2_with fail
  have hP := pair_start w s l y
  generalize w.heap.size = P at hP ⊢
  generalize P + 1 = Q at hP ⊢
  refine (both_ok s l y n _ h).mono ?_
  rintro e w1 ⟨rfl, hb1⟩
  have hP := hP.below hb1
  clear hb1
  have hPc := hP
  obtain ⟨⟨pl, p0, p1, p2, pf0, pf1, pf2⟩, ⟨ql, q0, q1, q2, qf0, qf1, qf2⟩, hbel, hleP, hleQ, hne, hne'⟩ := hPc
  go_wp2_with fail
  (try simp only [Exit.inBlock, Exit.then])
  refine bodyPost_ret (v := .tuple #[win s l (y + n), .nilIface]) ?_ rfl ⟨rfl, ?_⟩
  · rw [results_cell_tmp rfl]; go_simp
  · repeat (first | (refine Below.setCell ?_ (by simp <;> omega) _) | exact hbel | (refine Below.alloc ?_ (by simp <;> omega) _))
set_option maxRecDepth 100000 in
set_option maxHeartbeats 2000000 in
theorem off_f (s l y n : Int) (w : World) (h : bB s l y n = false) : Calls Tryz.prog 80 #[win s l y, .int .i64 n] w fun e w' => e = .returned (.tuple #[win 0 0 0, (.iface 108 (.int .i64 1))]) ∧ Below w.heap.size w w' := by
  go_enter Tryz.func80, Tryz.ntmps80
  go_wp2_with fail
  have hP := pair_start w s l y
  generalize w.heap.size = P at hP ⊢
  generalize P + 1 = Q at hP ⊢
  refine (both_no s l y n _ h).mono ?_
  rintro e w1 ⟨rfl, hb1⟩
  have hP := hP.below hb1
  clear hb1
  have hPc := hP
  obtain ⟨⟨pl, p0, p1, p2, pf0, pf1, pf2⟩, ⟨ql, q0, q1, q2, qf0, qf1, qf2⟩, hbel, hleP, hleQ, hne, hne'⟩ := hPc
  go_wp2_with fail
  (try simp only [Exit.inBlock, Exit.then])
  refine bodyPost_ret (v := .tuple #[win 0 0 0, (.iface 108 (.int .i64 1))]) ?_ rfl ⟨rfl, ?_⟩
  · rw [results_cell_tmp rfl]; go_simp
  · repeat (first | (refine Below.setCell ?_ (by simp <;> omega) _) | exact hbel | (refine Below.alloc ?_ (by simp <;> omega) _))
set_option maxRecDepth 100000 in
set_option maxHeartbeats 2000000 in
theorem off_w (s l y n : Int) (w : World) (h : bB s l y n = true) (hw : y < n) : Calls Tryz.prog 80 #[win s l y, .int .i64 n] w fun e w' => e = .returned (.tuple #[win 0 0 0, (.iface 108 (.int .i64 3))]) ∧ Below w.heap.size w w' := by
  obtain ⟨⟨s0, s1⟩, ⟨l0, l1⟩, y0, y1⟩ := wB_bd (bB_yes h).1
  obtain ⟨n0, n1⟩ := pkB_yes (bB_yes h).2
  go_enter Tryz.func80, Tryz.ntmps80
  go_wp2_with fail
  have hP := pair_start w s l y
  generalize w.heap.size = P at hP ⊢
  generalize P + 1 = Q at hP ⊢
  refine (both_ok s l y n _ h).mono ?_
  rintro e w1 ⟨rfl, hb1⟩
  have hP := hP.below hb1
  clear hb1
  have hPc := hP
  obtain ⟨⟨pl, p0, p1, p2, pf0, pf1, pf2⟩, ⟨ql, q0, q1, q2, qf0, qf1, qf2⟩, hbel, hleP, hleQ, hne, hne'⟩ := hPc
  go_wp2_with fail
  (try simp only [Exit.inBlock, Exit.then])
  refine bodyPost_ret (v := .tuple #[win 0 0 0, (.iface 108 (.int .i64 3))]) ?_ rfl ⟨rfl, ?_⟩
  · rw [results_cell_tmp rfl]; go_simp
  · repeat (first | (refine Below.setCell ?_ (by simp <;> omega) _) | exact hbel | (refine Below.alloc ?_ (by simp <;> omega) _))
set_option maxRecDepth 100000 in
set_option maxHeartbeats 2000000 in
theorem off_ok (s l y n : Int) (w : World) (h : bB s l y n = true) (hw : n ≤ y) : Calls Tryz.prog 80 #[win s l y, .int .i64 n] w fun e w' => e = .returned (.tuple #[win s l (y - n), .nilIface]) ∧ Below w.heap.size w w' := by
  obtain ⟨⟨s0, s1⟩, ⟨l0, l1⟩, y0, y1⟩ := wB_bd (bB_yes h).1
  obtain ⟨n0, n1⟩ := pkB_yes (bB_yes h).2
  go_enter Tryz.func80, Tryz.ntmps80
  go_wp2_with fail
  have hP := pair_start w s l y
  generalize w.heap.size = P at hP ⊢
  generalize P + 1 = Q at hP ⊢
  refine (both_ok s l y n _ h).mono ?_
  rintro e w1 ⟨rfl, hb1⟩
  have hP := hP.below hb1
  clear hb1
  have hPc := hP
  obtain ⟨⟨pl, p0, p1, p2, pf0, pf1, pf2⟩, ⟨ql, q0, q1, q2, qf0, qf1, qf2⟩, hbel, hleP, hleQ, hne, hne'⟩ := hPc
  go_wp2_with fail
  (try simp only [Exit.inBlock, Exit.then])
  refine bodyPost_ret (v := .tuple #[win s l (y - n), .nilIface]) ?_ rfl ⟨rfl, ?_⟩
  · rw [results_cell_tmp rfl]; go_simp
  · repeat (first | (refine Below.setCell ?_ (by simp <;> omega) _) | exact hbel | (refine Below.alloc ?_ (by simp <;> omega) _))



set_option maxRecDepth 100000 in
set_option maxHeartbeats 2000000 in
theorem growth_fast (s l y n : Int) (w : World) (h : s < l) : Calls Tryz.prog 81 #[win s l y, .int .i64 n] w fun e w' => e = .returned (.int .i64 (n)) ∧ w' = put w s l y := by
  go_enter Tryz.func81, Tryz.ntmps81
  go_wp2_with fail
  go_ret
  exact ⟨by simp, rfl⟩
set_option maxRecDepth 100000 in
set_option maxHeartbeats 2000000 in
theorem growth_slow (s l y n : Int) (w : World) (h : l ≤ s) (h0 : 400 ≤ s) (h1 : 1 ≤ n) (h2 : n ≤ 200) : Calls Tryz.prog 81 #[win s l y, .int .i64 n] w fun e w' => e = .returned (.int .i64 (n * 200 / s)) ∧ w' = put w s l y := by
  go_enter Tryz.func81, Tryz.ntmps81
  go_wp2_with fail
  go_ret
  exact ⟨by simp, rfl⟩
theorem growth_calls (s l y n : Int) (w : World) (h0 : 400 ≤ s) (h1 : 1 ≤ n) (h2 : n ≤ 200) : Calls Tryz.prog 81 #[win s l y, .int .i64 n] w fun e w' => e = .returned (.int .i64 (grw s l n)) ∧ w' = put w s l y := by
  by_cases h : s < l
  · rw [show grw s l n = n from if_pos h]; exact growth_fast s l y n w h
  · rw [show grw s l n = n * 200 / s from if_neg h]; exact growth_slow s l y n w (by omega) h0 h1 h2

set_option maxRecDepth 100000 in
set_option maxHeartbeats 2000000 in
theorem came_f (s l y n : Int) (w : World) (h : bB s l y n = false) : Calls Tryz.prog 33 #[win s l y, .int .i64 n] w fun e w' => e = .returned (.tuple #[win 0 0 0, (.iface 108 (.int .i64 1))]) ∧ Below w.heap.size w w' := by
  go_enter Tryz.func33, Tryz.ntmps33
  go_wp2_with fail
  have hP := pair_start w s l y
  generalize w.heap.size = P at hP ⊢
  generalize P + 1 = Q at hP ⊢
  refine (off_f s l y n _ h).mono ?_
  rintro e w1 ⟨rfl, hb1⟩
  have hP := hP.below hb1
  clear hb1
  have hPc := hP
  obtain ⟨⟨pl, p0, p1, p2, pf0, pf1, pf2⟩, ⟨ql, q0, q1, q2, qf0, qf1, qf2⟩, hbel, hleP, hleQ, hne, hne'⟩ := hPc
  have hP2 := hP.setP 0 0 0
  go_wp2_with fail
  (try simp only [Exit.inBlock, Exit.then])
  refine bodyPost_ret (v := .tuple #[win 0 0 0, (.iface 108 (.int .i64 1))]) ?_ rfl ⟨rfl, ?_⟩
  · rw [results_cell_tmp rfl]; go_simp
  · repeat (first | (refine Below.setCell ?_ (by simp <;> omega) _) | exact hbel | (refine Below.alloc ?_ (by simp <;> omega) _))
set_option maxRecDepth 100000 in
set_option maxHeartbeats 2000000 in
theorem came_w (s l y n : Int) (w : World) (h : bB s l y n = true) (hw : y < n) : Calls Tryz.prog 33 #[win s l y, .int .i64 n] w fun e w' => e = .returned (.tuple #[win 0 0 0, (.iface 108 (.int .i64 3))]) ∧ Below w.heap.size w w' := by
  obtain ⟨⟨s0, s1⟩, ⟨l0, l1⟩, y0, y1⟩ := wB_bd (bB_yes h).1
  obtain ⟨n0, n1⟩ := pkB_yes (bB_yes h).2
  go_enter Tryz.func33, Tryz.ntmps33
  go_wp2_with fail
  have hP := pair_start w s l y
  generalize w.heap.size = P at hP ⊢
  generalize P + 1 = Q at hP ⊢
  refine (off_w s l y n _ h hw).mono ?_
  rintro e w1 ⟨rfl, hb1⟩
  have hP := hP.below hb1
  clear hb1
  have hPc := hP
  obtain ⟨⟨pl, p0, p1, p2, pf0, pf1, pf2⟩, ⟨ql, q0, q1, q2, qf0, qf1, qf2⟩, hbel, hleP, hleQ, hne, hne'⟩ := hPc
  have hP2 := hP.setP 0 0 0
  go_wp2_with fail
  (try simp only [Exit.inBlock, Exit.then])
  refine bodyPost_ret (v := .tuple #[win 0 0 0, (.iface 108 (.int .i64 3))]) ?_ rfl ⟨rfl, ?_⟩
  · rw [results_cell_tmp rfl]; go_simp
  · repeat (first | (refine Below.setCell ?_ (by simp <;> omega) _) | exact hbel | (refine Below.alloc ?_ (by simp <;> omega) _))
set_option maxRecDepth 100000 in
set_option maxHeartbeats 2000000 in
theorem lost_f (s l y n : Int) (w : World) (h : bB s l y n = false) : Calls Tryz.prog 34 #[win s l y, .int .i64 n] w fun e w' => e = .returned (.tuple #[win 0 0 0, (.iface 108 (.int .i64 1))]) ∧ Below w.heap.size w w' := by
  go_enter Tryz.func34, Tryz.ntmps34
  go_wp2_with fail
  have hP := pair_start w s l y
  generalize w.heap.size = P at hP ⊢
  generalize P + 1 = Q at hP ⊢
  refine (off_f s l y n _ h).mono ?_
  rintro e w1 ⟨rfl, hb1⟩
  have hP := hP.below hb1
  clear hb1
  have hPc := hP
  obtain ⟨⟨pl, p0, p1, p2, pf0, pf1, pf2⟩, ⟨ql, q0, q1, q2, qf0, qf1, qf2⟩, hbel, hleP, hleQ, hne, hne'⟩ := hPc
  have hP2 := hP.setP 0 0 0
  go_wp2_with fail
  (try simp only [Exit.inBlock, Exit.then])
  refine bodyPost_ret (v := .tuple #[win 0 0 0, (.iface 108 (.int .i64 1))]) ?_ rfl ⟨rfl, ?_⟩
  · rw [results_cell_tmp rfl]; go_simp
  · repeat (first | (refine Below.setCell ?_ (by simp <;> omega) _) | exact hbel | (refine Below.alloc ?_ (by simp <;> omega) _))
set_option maxRecDepth 100000 in
set_option maxHeartbeats 2000000 in
theorem lost_w (s l y n : Int) (w : World) (h : bB s l y n = true) (hw : y < n) : Calls Tryz.prog 34 #[win s l y, .int .i64 n] w fun e w' => e = .returned (.tuple #[win 0 0 0, (.iface 108 (.int .i64 3))]) ∧ Below w.heap.size w w' := by
  obtain ⟨⟨s0, s1⟩, ⟨l0, l1⟩, y0, y1⟩ := wB_bd (bB_yes h).1
  obtain ⟨n0, n1⟩ := pkB_yes (bB_yes h).2
  go_enter Tryz.func34, Tryz.ntmps34
  go_wp2_with fail
  have hP := pair_start w s l y
  generalize w.heap.size = P at hP ⊢
  generalize P + 1 = Q at hP ⊢
  refine (off_w s l y n _ h hw).mono ?_
  rintro e w1 ⟨rfl, hb1⟩
  have hP := hP.below hb1
  clear hb1
  have hPc := hP
  obtain ⟨⟨pl, p0, p1, p2, pf0, pf1, pf2⟩, ⟨ql, q0, q1, q2, qf0, qf1, qf2⟩, hbel, hleP, hleQ, hne, hne'⟩ := hPc
  have hP2 := hP.setP 0 0 0
  go_wp2_with fail
  (try simp only [Exit.inBlock, Exit.then])
  refine bodyPost_ret (v := .tuple #[win 0 0 0, (.iface 108 (.int .i64 3))]) ?_ rfl ⟨rfl, ?_⟩
  · rw [results_cell_tmp rfl]; go_simp
  · repeat (first | (refine Below.setCell ?_ (by simp <;> omega) _) | exact hbel | (refine Below.alloc ?_ (by simp <;> omega) _))
set_option maxRecDepth 100000 in
set_option maxHeartbeats 2000000 in
theorem lost_low (s l y n : Int) (w : World) (h : bB s l y n = true) (hw : n ≤ y) (hs : s / 2 < 400) : Calls Tryz.prog 34 #[win s l y, .int .i64 n] w fun e w' => e = .returned (.tuple #[win 400 400 (y - n), .nilIface]) ∧ Below w.heap.size w w' := by
  obtain ⟨⟨s0, s1⟩, ⟨l0, l1⟩, y0, y1⟩ := wB_bd (bB_yes h).1
  obtain ⟨n0, n1⟩ := pkB_yes (bB_yes h).2
  go_enter Tryz.func34, Tryz.ntmps34
  go_wp2_with fail
  have hP := pair_start w s l y
  generalize w.heap.size = P at hP ⊢
  generalize P + 1 = Q at hP ⊢
  refine (off_ok s l y n _ h hw).mono ?_
  rintro e w1 ⟨rfl, hb1⟩
  have hP := hP.below hb1
  clear hb1
  have hPc := hP
  obtain ⟨⟨pl, p0, p1, p2, pf0, pf1, pf2⟩, ⟨ql, q0, q1, q2, qf0, qf1, qf2⟩, hbel, hleP, hleQ, hne, hne'⟩ := hPc
  go_upto_region 4 with fail
  clear pl p0 p1 p2 pf0 pf1 pf2 ql q0 q1 q2 qf0 qf1 qf2 hbel hleP hleQ hne hne'
  have hP2 := hP.setP s l (y - n)
  (try unfold set3 at hP2)
  generalize ((w1.setCell ⟨P, 0, none⟩ (.int .i64 s)).setCell ⟨P, 1, none⟩ (.int .i64 l)).setCell ⟨P, 2, none⟩ (.int .i64 (y - n)) = W at hP2 ⊢
  clear hP
  have hP := hP2
  clear hP2
  have hPc := hP
  obtain ⟨⟨pl, p0, p1, p2, pf0, pf1, pf2⟩, ⟨ql, q0, q1, q2, qf0, qf1, qf2⟩, hbel, hleP, hleQ, hne, hne'⟩ := hPc
  go_wp2_with fail
  (try simp only [Exit.inBlock, Exit.then])
  refine bodyPost_ret (v := .tuple #[win 400 400 (y - n), .nilIface]) ?_ rfl ⟨rfl, ?_⟩
  · rw [results_cell_tmp rfl]; go_simp
  · repeat (first | (refine Below.setCell ?_ (by simp <;> omega) _) | exact hbel | (refine Below.alloc ?_ (by simp <;> omega) _))
set_option maxRecDepth 100000 in
set_option maxHeartbeats 2000000 in
theorem lost_high (s l y n : Int) (w : World) (h : bB s l y n = true) (hw : n ≤ y) (hs : 400 ≤ s / 2) : Calls Tryz.prog 34 #[win s l y, .int .i64 n] w fun e w' => e = .returned (.tuple #[win (s / 2) (s / 2) (y - n), .nilIface]) ∧ Below w.heap.size w w' := by
  obtain ⟨⟨s0, s1⟩, ⟨l0, l1⟩, y0, y1⟩ := wB_bd (bB_yes h).1
  obtain ⟨n0, n1⟩ := pkB_yes (bB_yes h).2
  go_enter Tryz.func34, Tryz.ntmps34
  go_wp2_with fail
  have hP := pair_start w s l y
  generalize w.heap.size = P at hP ⊢
  generalize P + 1 = Q at hP ⊢
  refine (off_ok s l y n _ h hw).mono ?_
  rintro e w1 ⟨rfl, hb1⟩
  have hP := hP.below hb1
  clear hb1
  have hPc := hP
  obtain ⟨⟨pl, p0, p1, p2, pf0, pf1, pf2⟩, ⟨ql, q0, q1, q2, qf0, qf1, qf2⟩, hbel, hleP, hleQ, hne, hne'⟩ := hPc
  go_upto_region 4 with fail
  clear pl p0 p1 p2 pf0 pf1 pf2 ql q0 q1 q2 qf0 qf1 qf2 hbel hleP hleQ hne hne'
  have hP2 := hP.setP s l (y - n)
  (try unfold set3 at hP2)
  generalize ((w1.setCell ⟨P, 0, none⟩ (.int .i64 s)).setCell ⟨P, 1, none⟩ (.int .i64 l)).setCell ⟨P, 2, none⟩ (.int .i64 (y - n)) = W at hP2 ⊢
  clear hP
  have hP := hP2
  clear hP2
  have hPc := hP
  obtain ⟨⟨pl, p0, p1, p2, pf0, pf1, pf2⟩, ⟨ql, q0, q1, q2, qf0, qf1, qf2⟩, hbel, hleP, hleQ, hne, hne'⟩ := hPc
  go_wp2_with fail
  (try simp only [Exit.inBlock, Exit.then])
  refine bodyPost_ret (v := .tuple #[win (s / 2) (s / 2) (y - n), .nilIface]) ?_ rfl ⟨rfl, ?_⟩
  · rw [results_cell_tmp rfl]; go_simp
  · repeat (first | (refine Below.setCell ?_ (by simp <;> omega) _) | exact hbel | (refine Below.alloc ?_ (by simp <;> omega) _))
set_option maxRecDepth 100000 in
set_option maxHeartbeats 2000000 in
theorem came_less (s l y n : Int) (w : World) (h : bB s l y n = true) (hw : n ≤ y) (hs : s + grw s l n < 100000) : Calls Tryz.prog 33 #[win s l y, .int .i64 n] w fun e w' => e = .returned (.tuple #[win (s + grw s l n) l (y - n), .nilIface]) ∧ Below w.heap.size w w' := by
  obtain ⟨⟨s0, s1⟩, ⟨l0, l1⟩, y0, y1⟩ := wB_bd (bB_yes h).1
  obtain ⟨n0, n1⟩ := pkB_yes (bB_yes h).2
  go_enter Tryz.func33, Tryz.ntmps33
  go_wp2_with fail
  have hP := pair_start w s l y
  generalize w.heap.size = P at hP ⊢
  generalize P + 1 = Q at hP ⊢
  refine (off_ok s l y n _ h hw).mono ?_
  rintro e w1 ⟨rfl, hb1⟩
  have hP := hP.below hb1
  clear hb1
  have hPc := hP
  obtain ⟨⟨pl, p0, p1, p2, pf0, pf1, pf2⟩, ⟨ql, q0, q1, q2, qf0, qf1, qf2⟩, hbel, hleP, hleQ, hne, hne'⟩ := hPc
  go_upto_region 4 with fail
  clear pl p0 p1 p2 pf0 pf1 pf2 ql q0 q1 q2 qf0 qf1 qf2 hbel hleP hleQ hne hne'
  have hP2 := hP.setP s l (y - n)
  (try unfold set3 at hP2)
  generalize ((w1.setCell ⟨P, 0, none⟩ (.int .i64 s)).setCell ⟨P, 1, none⟩ (.int .i64 l)).setCell ⟨P, 2, none⟩ (.int .i64 (y - n)) = W at hP2 ⊢
  clear hP
  have hP := hP2
  clear hP2
  have hPc := hP
  obtain ⟨⟨pl, p0, p1, p2, pf0, pf1, pf2⟩, ⟨ql, q0, q1, q2, qf0, qf1, qf2⟩, hbel, hleP, hleQ, hne, hne'⟩ := hPc
  have hP2 := hP.below (below_put W s l (y - n))
  have hPc := hP2
  obtain ⟨⟨pl', p0', p1', p2', pf0', pf1', pf2'⟩, _⟩ := hPc
  have hg := grw_bd (l := l) s0 n0 n1
  have hwr : IntKind.i64.wrap (s + grw s l n) = s + grw s l n := wrap_small _ (by omega) (by omega)
  have GC := fun w => growth_calls s l (y - n) n w s0 n0 n1
  obtain ⟨g, hgE⟩ : ∃ g, Hid (grw s l n = g) := ⟨_, rfl⟩
  rw [hgE.out] at hs hg hwr GC
  go_cut [23] (fun s23 wx => s23 = .int .i64 (s + g) ∧ Pair w wx P Q (s + g) l (y - n) 0 0 0)
  case first =>
    go_region_with (go_at_call 81; refine (GC _).mono ?_; rintro e w3 ⟨rfl, rfl⟩)
    all_goals (try go_wp2_with fail)
    all_goals go_meet
    all_goals (first | exact ⟨by simp <;> omega, ((hP.setP0 _).below (below_put _ s l (y - n))).drew⟩ | (have e : s + g = 100000 := by omega); rw [e]; exact ⟨by simp <;> omega, ((hP.setP0 _).below (below_put _ s l (y - n))).drew⟩ | (exfalso; omega))
  case rest =>
  obtain ⟨rfl, hP3⟩ := hcut
  clear pl p0 p1 p2 pf0 pf1 pf2 ql q0 q1 q2 qf0 qf1 qf2 hbel hleP hleQ hne hne' pl' p0' p1' p2' pf0' pf1' pf2' hP hP2
  have hP := hP3
  clear hP3
  have hPc := hP
  obtain ⟨⟨pl, p0, p1, p2, pf0, pf1, pf2⟩, ⟨ql, q0, q1, q2, qf0, qf1, qf2⟩, hbel, hleP, hleQ, hne, hne'⟩ := hPc
  go_wp2_with fail
  (try simp only [Exit.inBlock, Exit.then])
  refine bodyPost_ret (v := .tuple #[win (s + g) l (y - n), .nilIface]) ?_ rfl ⟨(by rw [hgE.out]), ?_⟩
  · rw [results_cell_tmp rfl]; go_simp
  · repeat (first | (refine Below.setCell ?_ (by simp <;> omega) _) | exact hbel | (refine Below.alloc ?_ (by simp <;> omega) _))
set_option maxRecDepth 100000 in
set_option maxHeartbeats 2000000 in
theorem came_more (s l y n : Int) (w : World) (h : bB s l y n = true) (hw : n ≤ y) (hs : 100000 ≤ s + grw s l n) : Calls Tryz.prog 33 #[win s l y, .int .i64 n] w fun e w' => e = .returned (.tuple #[win 100000 l (y - n), .nilIface]) ∧ Below w.heap.size w w' := by
  obtain ⟨⟨s0, s1⟩, ⟨l0, l1⟩, y0, y1⟩ := wB_bd (bB_yes h).1
  obtain ⟨n0, n1⟩ := pkB_yes (bB_yes h).2
  go_enter Tryz.func33, Tryz.ntmps33
  go_wp2_with fail
  have hP := pair_start w s l y
  generalize w.heap.size = P at hP ⊢
  generalize P + 1 = Q at hP ⊢
  refine (off_ok s l y n _ h hw).mono ?_
  rintro e w1 ⟨rfl, hb1⟩
  have hP := hP.below hb1
  clear hb1
  have hPc := hP
  obtain ⟨⟨pl, p0, p1, p2, pf0, pf1, pf2⟩, ⟨ql, q0, q1, q2, qf0, qf1, qf2⟩, hbel, hleP, hleQ, hne, hne'⟩ := hPc
  go_upto_region 4 with fail
  clear pl p0 p1 p2 pf0 pf1 pf2 ql q0 q1 q2 qf0 qf1 qf2 hbel hleP hleQ hne hne'
  have hP2 := hP.setP s l (y - n)
  (try unfold set3 at hP2)
  generalize ((w1.setCell ⟨P, 0, none⟩ (.int .i64 s)).setCell ⟨P, 1, none⟩ (.int .i64 l)).setCell ⟨P, 2, none⟩ (.int .i64 (y - n)) = W at hP2 ⊢
  clear hP
  have hP := hP2
  clear hP2
  have hPc := hP
  obtain ⟨⟨pl, p0, p1, p2, pf0, pf1, pf2⟩, ⟨ql, q0, q1, q2, qf0, qf1, qf2⟩, hbel, hleP, hleQ, hne, hne'⟩ := hPc
  have hP2 := hP.below (below_put W s l (y - n))
  have hPc := hP2
  obtain ⟨⟨pl', p0', p1', p2', pf0', pf1', pf2'⟩, _⟩ := hPc
  have hg := grw_bd (l := l) s0 n0 n1
  have hwr : IntKind.i64.wrap (s + grw s l n) = s + grw s l n := wrap_small _ (by omega) (by omega)
  have GC := fun w => growth_calls s l (y - n) n w s0 n0 n1
  obtain ⟨g, hgE⟩ : ∃ g, Hid (grw s l n = g) := ⟨_, rfl⟩
  rw [hgE.out] at hs hg hwr GC
  go_cut [23] (fun s23 wx => s23 = .int .i64 100000 ∧ Pair w wx P Q 100000 l (y - n) 0 0 0)
  case first =>
    go_region_with (go_at_call 81; refine (GC _).mono ?_; rintro e w3 ⟨rfl, rfl⟩)
    all_goals (try go_wp2_with fail)
    all_goals go_meet
    all_goals (first | exact ⟨by simp <;> omega, ((hP.setP0 _).below (below_put _ s l (y - n))).drew⟩ | (have e : s + g = 100000 := by omega); rw [e]; exact ⟨by simp <;> omega, ((hP.setP0 _).below (below_put _ s l (y - n))).drew⟩ | (exfalso; omega))
  case rest =>
  obtain ⟨rfl, hP3⟩ := hcut
  clear pl p0 p1 p2 pf0 pf1 pf2 ql q0 q1 q2 qf0 qf1 qf2 hbel hleP hleQ hne hne' pl' p0' p1' p2' pf0' pf1' pf2' hP hP2
  have hP := hP3
  clear hP3
  have hPc := hP
  obtain ⟨⟨pl, p0, p1, p2, pf0, pf1, pf2⟩, ⟨ql, q0, q1, q2, qf0, qf1, qf2⟩, hbel, hleP, hleQ, hne, hne'⟩ := hPc
  go_wp2_with fail
  (try simp only [Exit.inBlock, Exit.then])
  refine bodyPost_ret (v := .tuple #[win 100000 l (y - n), .nilIface]) ?_ rfl ⟨rfl, ?_⟩
  · rw [results_cell_tmp rfl]; go_simp
  · repeat (first | (refine Below.setCell ?_ (by simp <;> omega) _) | exact hbel | (refine Below.alloc ?_ (by simp <;> omega) _))



/-- An error, or none, by its number. -/
def errV (f : Int) : Value := if f = 0 then .nilIface else .iface 108 (.int .i64 f)
theorem errV_0 : errV 0 = .nilIface := rfl
theorem errV_f {f : Int} (h : f ≠ 0) : errV f = .iface 108 (.int .i64 f) := if_neg h
/-- A number where nothing is wrong, else 0. -/
def ifz (f z : Int) : Int := if f = 0 then z else 0
theorem ifz_0 (z : Int) : ifz 0 z = z := rfl
theorem ifz_f {f : Int} (h : f ≠ 0) (z : Int) : ifz f z = 0 := if_neg h
theorem flt_ok {s l y : Int} (h : wB s l y = true) : flt s l y = 0 := by simp [flt, h]
theorem flt_no {s l y : Int} (h : wB s l y = false) : flt s l y = 1 := by simp [flt, h]
theorem flt_zero {s l y : Int} (h : flt s l y = 0) : wB s l y = true := by
  cases e : wB s l y with
  | true => rfl
  | false => rw [flt_no e] at h; omega
theorem sendF_zero {s l y n : Int} (h : sendF s l y n = 0) : bB s l y n = true ∧ y + n ≤ s := by
  unfold sendF at h
  split at h
  · split at h
    · omega
    · exact ⟨by assumption, by omega⟩
  · omega
theorem offF_zero {s l y n : Int} (h : offF s l y n = 0) : bB s l y n = true ∧ n ≤ y := by
  unfold offF at h
  split at h
  · split at h
    · omega
    · exact ⟨by assumption, by omega⟩
  · omega
theorem check_calls (s l y : Int) (w : World) : Calls Tryz.prog 118 #[win s l y] w fun e w' => e = .returned (errV (flt s l y)) ∧ Below w.heap.size w w' := by
  cases h : wB s l y with
  | true => rw [flt_ok h]; exact check_ok s l y w h
  | false => rw [flt_no h]; exact check_no s l y w h
abbrev sendP (s l y n f : Int) : Value := win (ifz f s) (ifz f l) (ifz f (y + n))
abbrev cameP (s l y n f : Int) : Value := win (ifz f (cameS s l n)) (ifz f l) (ifz f (y - n))
abbrev lostP (s l y n f : Int) : Value := win (ifz f (lostS s)) (ifz f (lostS s)) (ifz f (y - n))
theorem send_calls (s l y n : Int) (w : World) : Calls Tryz.prog 30 #[win s l y, .int .i64 n] w fun e w' => e = .returned (.tuple #[sendP s l y n (sendF s l y n), errV (sendF s l y n)]) ∧ Below w.heap.size w w' := by
  cases h : bB s l y n with
  | false => rw [show sendF s l y n = 1 by simp [sendF, h]]; exact send_f s l y n w h
  | true =>
    by_cases hw : s < y + n
    · rw [show sendF s l y n = 8 by simp [sendF, h, hw]]; exact send_w s l y n w h hw
    · rw [show sendF s l y n = 0 by simp [sendF, h, hw]]; exact send_ok s l y n w h (by omega)
theorem came_ok (s l y n : Int) (w : World) (h : bB s l y n = true) (hw : n ≤ y) : Calls Tryz.prog 33 #[win s l y, .int .i64 n] w fun e w' => e = .returned (.tuple #[win (cameS s l n) l (y - n), .nilIface]) ∧ Below w.heap.size w w' := by
  by_cases hs : s + grw s l n < 100000
  · rw [show cameS s l n = s + grw s l n from if_pos hs]; exact came_less s l y n w h hw hs
  · rw [show cameS s l n = 100000 from if_neg hs]; exact came_more s l y n w h hw (by omega)
theorem lost_ok (s l y n : Int) (w : World) (h : bB s l y n = true) (hw : n ≤ y) : Calls Tryz.prog 34 #[win s l y, .int .i64 n] w fun e w' => e = .returned (.tuple #[win (lostS s) (lostS s) (y - n), .nilIface]) ∧ Below w.heap.size w w' := by
  by_cases hs : s / 2 < 400
  · rw [show lostS s = 400 from if_pos hs]; exact lost_low s l y n w h hw hs
  · rw [show lostS s = s / 2 from if_neg hs]; exact lost_high s l y n w h hw (by omega)
theorem came_calls (s l y n : Int) (w : World) : Calls Tryz.prog 33 #[win s l y, .int .i64 n] w fun e w' => e = .returned (.tuple #[cameP s l y n (offF s l y n), errV (offF s l y n)]) ∧ Below w.heap.size w w' := by
  cases h : bB s l y n with
  | false => rw [show offF s l y n = 1 by simp [offF, h]]; exact came_f s l y n w h
  | true =>
    by_cases hw : y < n
    · rw [show offF s l y n = 3 by simp [offF, h, hw]]; exact came_w s l y n w h hw
    · rw [show offF s l y n = 0 by simp [offF, h, hw]]; exact came_ok s l y n w h (by omega)
theorem lost_calls (s l y n : Int) (w : World) : Calls Tryz.prog 34 #[win s l y, .int .i64 n] w fun e w' => e = .returned (.tuple #[lostP s l y n (offF s l y n), errV (offF s l y n)]) ∧ Below w.heap.size w w' := by
  cases h : bB s l y n with
  | false => rw [show offF s l y n = 1 by simp [offF, h]]; exact lost_f s l y n w h
  | true =>
    by_cases hw : y < n
    · rw [show offF s l y n = 3 by simp [offF, h, hw]]; exact lost_w s l y n w h hw
    · rw [show offF s l y n = 0 by simp [offF, h, hw]]; exact lost_ok s l y n w h (by omega)
end Go.Proofs.YtoabfilliiopmaaGreatDoor.Wx
