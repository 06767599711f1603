/- What the laws of package run need. -/
import Derived.Test.YtdokgalidhmbbaaGreatDoorHO
set_option linter.unusedVariables false
set_option linter.unusedSimpArgs false
set_option maxRecDepth 100000
set_option maxHeartbeats 8000000
namespace Go.Proofs.YtdokgalidhmbbaaGreatDoor.Cx
open Go.RowKit Go.Lib Go.Sort


/-- The window, the limit, up to where bytes came, and how many were read. -/
structure St where
  win : Int
  lim : Int
  came : Int
  read : Int
def numB (n : Int) : Bool := decide (0 ≤ n ∧ n ≤ 1073741823)
def winB (n : Int) : Bool := decide (1 ≤ n ∧ n ≤ 1000)
def newS (n : Int) : St := ⟨n, n, 0, 0⟩
def takeF (s : St) (u : Int) : Int := if numB u = false then 1 else if s.lim < u then 8 else 0
def upS (s : St) (u : Int) : St := ⟨s.win, s.lim, if s.came < u then u else s.came, s.read⟩
def takeS (s : St) (u : Int) : St := if takeF s u = 0 then upS s u else s
def moreL (s : St) (n : Int) : Int := if s.win / 2 < s.read + n - (s.lim - s.win) then s.read + n + s.win else s.lim
def getF (s : St) (n : Int) : Int := if n < 0 then 1 else if s.came - s.read < n then 8 else if numB (moreL s n) = false then 4 else 0
def getN (s : St) (n : Int) : Int := if getF s n = 0 then moreL s n else 0
def getS (s : St) (n : Int) : St := if getF s n = 0 then ⟨s.win, moreL s n, s.came, s.read + n⟩ else s
structure Inv (s : St) : Prop where
  w1 : 1 ≤ s.win
  w2 : s.win ≤ 1000
  l1 : s.win ≤ s.lim
  l2 : s.lim ≤ 1073741823
  c1 : s.read ≤ s.came
  c2 : s.came ≤ s.lim
  r1 : s.lim - s.win ≤ s.read
  r2 : s.read - (s.lim - s.win) ≤ s.win / 2
theorem Inv.start {n : Int} (h : winB n = true) : Inv (newS n) := by
  have h : 1 ≤ n ∧ n ≤ 1000 := of_decide_eq_true h
  constructor <;> simp only [newS] <;> omega
theorem takeF_range {s : St} {u : Int} (h : numB u = false) : takeF s u = 1 := by simp [takeF, h]
theorem takeF_flow {s : St} {u : Int} (h : numB u = true) (h2 : s.lim < u) : takeF s u = 8 := by simp [takeF, h, h2]
theorem takeF_yes {s : St} {u : Int} (h : numB u = true) (h2 : u ≤ s.lim) : takeF s u = 0 := by
  have : ¬ s.lim < u := by omega
  simp [takeF, h, this]
theorem takeS_yes {s : St} {u : Int} (h : takeF s u = 0) : takeS s u = upS s u := if_pos h
theorem takeS_no {s : St} {u : Int} (h : takeF s u ≠ 0) : takeS s u = s := if_neg h
theorem Inv.up {s : St} (h : Inv s) {u : Int} (h2 : u ≤ s.lim) : Inv (upS s u) := by
  obtain ⟨_, _, _, _, _, _, _, _⟩ := h
  constructor <;> simp only [upS] <;> first | omega | (split <;> omega)
theorem takeF_cases (s : St) (u : Int) : (takeF s u = 1 ∧ numB u = false) ∨ (takeF s u = 8 ∧ numB u = true ∧ s.lim < u) ∨ (takeF s u = 0 ∧ numB u = true ∧ u ≤ s.lim) := by
  cases h : numB u with
  | false => exact .inl ⟨takeF_range h, rfl⟩
  | true =>
    by_cases h2 : s.lim < u
    · exact .inr (.inl ⟨takeF_flow h h2, rfl, h2⟩)
    · exact .inr (.inr ⟨takeF_yes h (by omega), rfl, by omega⟩)
theorem getF_range {s : St} {n : Int} (h : n < 0) : getF s n = 1 := if_pos h
theorem getF_flow {s : St} {n : Int} (h : 0 ≤ n) (h2 : s.came - s.read < n) : getF s n = 8 := by
  have : ¬ n < 0 := by omega
  simp [getF, this, h2]
theorem getF_full {s : St} {n : Int} (h : 0 ≤ n) (h2 : n ≤ s.came - s.read) (h3 : numB (moreL s n) = false) : getF s n = 4 := by
  have a : ¬ n < 0 := by omega
  have b : ¬ s.came - s.read < n := by omega
  simp [getF, a, b, h3]
theorem getF_yes {s : St} {n : Int} (h : 0 ≤ n) (h2 : n ≤ s.came - s.read) (h3 : numB (moreL s n) = true) : getF s n = 0 := by
  have a : ¬ n < 0 := by omega
  have b : ¬ s.came - s.read < n := by omega
  simp [getF, a, b, h3]
theorem getF_cases (s : St) (n : Int) : (getF s n = 1 ∧ n < 0) ∨ (getF s n = 8 ∧ 0 ≤ n ∧ s.came - s.read < n) ∨ (getF s n = 4 ∧ 0 ≤ n ∧ n ≤ s.came - s.read ∧ numB (moreL s n) = false) ∨ (getF s n = 0 ∧ 0 ≤ n ∧ n ≤ s.came - s.read ∧ numB (moreL s n) = true) := by
  by_cases h : n < 0
  · exact .inl ⟨getF_range h, h⟩
  by_cases h2 : s.came - s.read < n
  · exact .inr (.inl ⟨getF_flow (by omega) h2, by omega, h2⟩)
  cases h3 : numB (moreL s n) with
  | false => exact .inr (.inr (.inl ⟨getF_full (by omega) (by omega) h3, by omega, by omega, rfl⟩))
  | true => exact .inr (.inr (.inr ⟨getF_yes (by omega) (by omega) h3, by omega, by omega, rfl⟩))
theorem getN_yes {s : St} {n : Int} (h : getF s n = 0) : getN s n = moreL s n := if_pos h
theorem getN_no {s : St} {n : Int} (h : getF s n ≠ 0) : getN s n = 0 := if_neg h
theorem getS_yes {s : St} {n : Int} (h : getF s n = 0) : getS s n = ⟨s.win, moreL s n, s.came, s.read + n⟩ := if_pos h
theorem getS_no {s : St} {n : Int} (h : getF s n ≠ 0) : getS s n = s := if_neg h
theorem moreL_yes {s : St} {n : Int} (h : s.win / 2 < s.read + n - (s.lim - s.win)) : moreL s n = s.read + n + s.win := if_pos h
theorem moreL_no {s : St} {n : Int} (h : s.read + n - (s.lim - s.win) ≤ s.win / 2) : moreL s n = s.lim := if_neg (by omega)
theorem Inv.got {s : St} (h : Inv s) {n : Int} (h0 : 0 ≤ n) (h1 : n ≤ s.came - s.read) (h2 : numB (moreL s n) = true) : Inv ⟨s.win, moreL s n, s.came, s.read + n⟩ := by
  have h2 : 0 ≤ moreL s n ∧ moreL s n ≤ 1073741823 := of_decide_eq_true h2
  obtain ⟨_, _, _, _, _, _, _, _⟩ := h
  by_cases h3 : s.win / 2 < s.read + n - (s.lim - s.win)
  · rw [moreL_yes h3] at h2 ⊢
    constructor <;> simp only <;> omega
  · rw [moreL_no (by omega)] at h2 ⊢
    constructor <;> simp only <;> omega
theorem Inv.take {s : St} (h : Inv s) (u : Int) : Inv (takeS s u) := by
  rcases takeF_cases s u with ⟨e, _⟩ | ⟨e, _⟩ | ⟨e, _, h2⟩
  · rw [takeS_no (by rw [e]; decide)]; exact h
  · rw [takeS_no (by rw [e]; decide)]; exact h
  · rw [takeS_yes e]; exact h.up h2
theorem Inv.get {s : St} (h : Inv s) (n : Int) : Inv (getS s n) := by
  rcases getF_cases s n with ⟨e, _⟩ | ⟨e, _⟩ | ⟨e, _⟩ | ⟨e, h0, h1, h2⟩
  · rw [getS_no (by rw [e]; decide)]; exact h
  · rw [getS_no (by rw [e]; decide)]; exact h
  · rw [getS_no (by rw [e]; decide)]; exact h
  · rw [getS_yes e]; exact h.got h0 h1 h2

/-- The block sb holds four integers; all but the first may be written. -/
structure Four (w : World) (sb : Nat) (s : St) : Prop where
  c0 : w.cell? ⟨sb, 0, none⟩ = some (.int .i64 s.win)
  c1 : w.cell? ⟨sb, 1, none⟩ = some (.int .i64 s.lim)
  c2 : w.cell? ⟨sb, 2, none⟩ = some (.int .i64 s.came)
  c3 : w.cell? ⟨sb, 3, none⟩ = some (.int .i64 s.read)
  f1 : w.frozen? ⟨sb, 1, none⟩ = false
  f2 : w.frozen? ⟨sb, 2, none⟩ = false
  f3 : w.frozen? ⟨sb, 3, none⟩ = false
  f0 : w.frozen? ⟨sb, 0, none⟩ = false
section
variable {w w' : World} {B sb : Nat} {s : St}
theorem Four.lt (h : Four w sb s) : sb < w.heap.size := World.block_lt_of_cell? w _ h.c0
theorem Four.off {K : Nat → Prop} (h : Four w sb s) (ho : Off K w w') (hK : ¬ K sb) : Four w' sb s :=
  ⟨ho.cell h.c0 hK, ho.cell h.c1 hK, ho.cell h.c2 hK, ho.cell h.c3 hK, (ho.frozen (p := ⟨sb, 1, none⟩) h.lt hK).trans h.f1, (ho.frozen (p := ⟨sb, 2, none⟩) h.lt hK).trans h.f2, (ho.frozen (p := ⟨sb, 3, none⟩) h.lt hK).trans h.f3, (ho.frozen (p := ⟨sb, 0, none⟩) h.lt hK).trans h.f0⟩
theorem cell_next {a b : Addr} {u v : Value} (h : w.cell? a = some v) (e : a.off ≠ b.off) : (w.setCell b u).cell? a = some v := by
  rw [World.cell?_setCell_other _ _ _ _ (by intro e'; subst e'; exact e rfl)]; exact h
theorem Four.set1 (h : Four w sb s) (u : Int) : Four (w.setCell ⟨sb, 1, none⟩ (.int .i64 u)) sb ⟨s.win, u, s.came, s.read⟩ :=
  ⟨cell_next h.c0 (by simp), World.cell?_setCell_same _ _ _ h.c1, cell_next h.c2 (by simp), cell_next h.c3 (by simp), by simpa using h.f1, by simpa using h.f2, by simpa using h.f3, by simpa using h.f0⟩
theorem Four.set3 (h : Four w sb s) (u : Int) : Four (w.setCell ⟨sb, 3, none⟩ (.int .i64 u)) sb ⟨s.win, s.lim, s.came, u⟩ :=
  ⟨cell_next h.c0 (by simp), cell_next h.c1 (by simp), cell_next h.c2 (by simp), World.cell?_setCell_same _ _ _ h.c3, by simpa using h.f1, by simpa using h.f2, by simpa using h.f3, by simpa using h.f0⟩
theorem Four.new (w : World) (n : Int) (t : TypeId) : Four (w.alloc (.cells #[.int .i64 n, .int .i64 n, .int .i64 0, .int .i64 0] t)) w.heap.size (newS n) := by
  constructor <;> simp [newS]
/-- A credit, not below the block B. -/
structure Obj (w : World) (B sb : Nat) (s : St) : Prop where
  inv : Inv s
  four : Four w sb s
  hs : B ≤ sb
theorem Obj.off {K : Nat → Prop} (h : Obj w B sb s) (ho : Off K w w') (hK : ¬ K sb) : Obj w' B sb s := ⟨h.inv, h.four.off ho hK, h.hs⟩
theorem Obj.below (h : Obj w B sb s) (hb : Below w.heap.size w w') : Obj w' B sb s := h.off (Off.of_below (K := fun _ => False) hb) id
theorem Obj.lt (h : Obj w B sb s) : sb < w.heap.size := h.four.lt
end
/-- The credit in sb is now s; all else is as it was. -/
def Turned (w w' : World) (B sb : Nat) (s : St) : Prop := Obj w' B sb s ∧ Off (fun k => k = sb) w w'
theorem Turned.same {w : World} {B sb : Nat} {s : St} (h : Obj w B sb s) : Turned w w B sb s := ⟨h, Off.refl _ _⟩
theorem Turned.drewN {w : World} {B sb : Nat} {s : St} (h : Obj w B sb s) (m : Nat) : Turned w (w.drewN m) B sb s := ⟨h.below (below_drewN (Below.refl _ _) m), Off.of_below (below_drewN (Below.refl _ _) m)⟩
theorem Turned.trans {w w1 w2 : World} {B sb : Nat} {s s' : St} (h : Turned w w1 B sb s) (k : Turned w1 w2 B sb s') : Turned w w2 B sb s' := ⟨k.1, h.2.trans k.2⟩
theorem wrap_small (n : Int) (h0 : -10000000000 ≤ n) (h1 : n ≤ 10000000000) : IntKind.i64.wrap n = n := by simp [IntKind.wrap, IntKind.bits, IntKind.signed]; omega
theorem Turned.got {w : World} {B sb : Nat} {s : St} (h : Obj w B sb s) {n a b : Int} (h0 : 0 ≤ n) (h1 : n ≤ s.came - s.read) (h2 : numB (moreL s n) = true) (ea : a = s.read + n) (eb : b = moreL s n) :
    Turned w ((w.setCell ⟨sb, 3, none⟩ (.int .i64 a)).setCell ⟨sb, 1, none⟩ (.int .i64 b)) B sb ⟨s.win, moreL s n, s.came, s.read + n⟩ :=
  ⟨⟨h.inv.got h0 h1 h2, by rw [ea, eb]; exact (h.four.set3 _).set1 _, h.hs⟩, ((Off.refl _ _).setCell (K := fun k => k = sb) (a := ⟨sb, 3, none⟩) rfl _).setCell (a := ⟨sb, 1, none⟩) rfl _⟩

set_option maxRecDepth 100000 in
set_option maxHeartbeats 4000000 in
theorem isWindow_calls (n : Int) (w : World) : Calls Tryz.prog 91 #[.int .i64 n] w fun e w' => e = .returned (.bool (winB n)) ∧ w' = w := by
  by_cases h1 : 1 ≤ n
  · by_cases h2 : n ≤ 1000
    · go_enter Tryz.func91, Tryz.ntmps91
      go_wp2
      go_ret
      exact ⟨by simp [winB] <;> omega, rfl⟩
    · go_enter Tryz.func91, Tryz.ntmps91
      go_wp2
      go_ret
      exact ⟨by simp [winB] <;> omega, rfl⟩
  · go_enter Tryz.func91, Tryz.ntmps91
    go_wp2
    go_ret
    exact ⟨by simp [winB] <;> omega, rfl⟩

set_option maxRecDepth 100000 in
set_option maxHeartbeats 4000000 in
theorem isPlace_calls (n : Int) (w : World) : Calls Tryz.prog 194 #[.int .i64 n] w fun e w' => e = .returned (.bool (numB n)) ∧ w' = w := by
  by_cases h1 : 0 ≤ n
  · by_cases h2 : n ≤ 1073741823
    · go_enter Tryz.func194, Tryz.ntmps194
      go_wp2
      go_ret
      exact ⟨by simp [numB] <;> omega, rfl⟩
    · go_enter Tryz.func194, Tryz.ntmps194
      go_wp2
      go_ret
      exact ⟨by simp [numB] <;> omega, rfl⟩
  · go_enter Tryz.func194, Tryz.ntmps194
    go_wp2
    go_ret
    exact ⟨by simp [numB] <;> omega, rfl⟩

set_option maxRecDepth 100000 in
set_option maxHeartbeats 4000000 in
theorem new_yes (n : Int) (w : World) (h : winB n = true) : Calls Tryz.prog 67 #[.int .i64 n] w fun e w' => e = .returned (.tuple #[.pointer (some ⟨w.heap.size, 0, none⟩), .nilIface]) ∧ Obj w' w.heap.size w.heap.size (newS n) ∧ Below w.heap.size w w' := by
  have hO : Obj (w.alloc (.cells #[.int .i64 n, .int .i64 n, .int .i64 0, .int .i64 0] 102)) w.heap.size w.heap.size (newS n) := ⟨Inv.start h, Four.new w n _, Nat.le_refl _⟩
  go_enter Tryz.func67, Tryz.ntmps67
  go_wp2_with (go_at_call 91; refine (isWindow_calls n _).mono ?_; rintro e w1 ⟨rfl, rfl⟩; rw [h])
  go_ret2
  exact ⟨rfl, hO, (Below.refl _ _).alloc (Nat.le_refl _) _⟩
set_option maxRecDepth 100000 in
set_option maxHeartbeats 4000000 in
theorem left_quiet {w : World} {B sb : Nat} {s : St} (h : Obj w B sb s) : Calls Tryz.prog 192 #[.pointer (some ⟨sb, 0, none⟩)] w fun e w' => e = .returned (.int .i64 (s.came - s.read)) ∧ ∃ m, w' = w.drewN m := by
  obtain ⟨win, lim, came, read⟩ := s
  have c0 := h.four.c0
  have c1 := h.four.c1
  have c2 := h.four.c2
  have c3 := h.four.c3
  have f1 := h.four.f1
  have f2 := h.four.f2
  have f3 := h.four.f3
  obtain ⟨w1, w2, l1, l2, a1, a2, r1, r2⟩ := h.inv
  simp only at c0 c1 c2 c3 w1 w2 l1 l2 a1 a2 r1 r2 ⊢
  have u1 := wrap_small (came - read) (by omega) (by omega)
  go_enter Tryz.func192, Tryz.ntmps192
  go_wp2_with fail
  go_quiet (fail)
  go_wp2_with fail
  go_ret
  exact ⟨rfl, _, rfl⟩
theorem left_calls {w : World} {B sb : Nat} {s : St} (h : Obj w B sb s) : Calls Tryz.prog 192 #[.pointer (some ⟨sb, 0, none⟩)] w fun e w' => e = .returned (.int .i64 (s.came - s.read)) ∧ Turned w w' B sb s :=
  (left_quiet h).mono fun e w' ⟨h1, m, h2⟩ => ⟨h1, by rw [h2]; exact Turned.drewN h m⟩

set_option maxRecDepth 100000 in
set_option maxHeartbeats 4000000 in
theorem at_more {w : World} {B sb : Nat} {win lim came read : Int} (h : Obj w B sb ⟨win, lim, came, read⟩) (r : Int) (h0 : 0 ≤ r) (h1 : r ≤ 1073741823) (h2 : win / 2 < r - (lim - win)) : Calls Tryz.prog 193 #[.pointer (some ⟨sb, 0, none⟩), .int .i64 r] w fun e w' => e = .returned (.int .i64 (r + win)) ∧ Turned w w' B sb ⟨win, lim, came, read⟩ := by
  have c0 := h.four.c0
  have c1 := h.four.c1
  have c2 := h.four.c2
  have c3 := h.four.c3
  have f1 := h.four.f1
  have f2 := h.four.f2
  have f3 := h.four.f3
  obtain ⟨w1, w2, l1, l2, a1, a2, r1, r2⟩ := h.inv
  simp only at c0 c1 c2 c3 w1 w2 l1 l2 a1 a2 r1 r2
  have u1 := wrap_small (lim - win) (by omega) (by omega)
  go_enter Tryz.func193, Tryz.ntmps193
  go_wp2_with fail
  go_quiet (fail)
  go_wp2_with fail
  go_ret
  exact ⟨rfl, Turned.drewN h _⟩

set_option maxRecDepth 100000 in
set_option maxHeartbeats 4000000 in
theorem at_no {w : World} {B sb : Nat} {win lim came read : Int} (h : Obj w B sb ⟨win, lim, came, read⟩) (r : Int) (h0 : 0 ≤ r) (h1 : r ≤ 1073741823) (h2 : r - (lim - win) ≤ win / 2) : Calls Tryz.prog 193 #[.pointer (some ⟨sb, 0, none⟩), .int .i64 r] w fun e w' => e = .returned (.int .i64 (lim)) ∧ Turned w w' B sb ⟨win, lim, came, read⟩ := by
  have c0 := h.four.c0
  have c1 := h.four.c1
  have c2 := h.four.c2
  have c3 := h.four.c3
  have f1 := h.four.f1
  have f2 := h.four.f2
  have f3 := h.four.f3
  obtain ⟨w1, w2, l1, l2, a1, a2, r1, r2⟩ := h.inv
  simp only at c0 c1 c2 c3 w1 w2 l1 l2 a1 a2 r1 r2
  have u1 := wrap_small (lim - win) (by omega) (by omega)
  go_enter Tryz.func193, Tryz.ntmps193
  go_wp2_with fail
  go_quiet (fail)
  go_wp2_with fail
  go_ret
  exact ⟨rfl, Turned.drewN h _⟩

theorem at_calls {w : World} {B sb : Nat} {s : St} (h : Obj w B sb s) {n : Int} (h0 : 0 ≤ n) (h1 : n ≤ s.came - s.read) : Calls Tryz.prog 193 #[.pointer (some ⟨sb, 0, none⟩), .int .i64 (s.read + n)] w fun e w' => e = .returned (.int .i64 (moreL s n)) ∧ Turned w w' B sb s := by
  obtain ⟨win, lim, came, read⟩ := s
  obtain ⟨w1, w2, l1, l2, a1, a2, r1, r2⟩ := h.inv
  simp only at w1 w2 l1 l2 a1 a2 r1 r2 h1 ⊢
  by_cases h2 : win / 2 < read + n - (lim - win)
  · rw [moreL_yes (by simpa using h2)]; exact at_more h _ (by omega) (by omega) h2
  · rw [moreL_no (by simp only; omega)]; exact at_no h _ (by omega) (by omega) (by omega)

set_option maxRecDepth 100000 in
set_option maxHeartbeats 4000000 in
theorem read_range {w : World} {B sb : Nat} {win lim came read : Int} (h : Obj w B sb ⟨win, lim, came, read⟩) (n : Int) (h0 : n < 0) : Calls Tryz.prog 164 #[.pointer (some ⟨sb, 0, none⟩), .int .i64 n] w fun e w' => e = .returned (.tuple #[.int .i64 0, .iface 133 (.int .i64 1)]) ∧ Turned w w' B sb ⟨win, lim, came, read⟩ := by
  obtain ⟨w1, w2, l1, l2, a1, a2, r1, r2⟩ := h.inv
  simp only at w1 w2 l1 l2 a1 a2 r1 r2
  go_enter Tryz.func164, Tryz.ntmps164
  go_wp2_with fail
  go_ret2
  exact ⟨rfl, Turned.same h⟩

set_option maxRecDepth 100000 in
set_option maxHeartbeats 4000000 in
theorem read_flow {w : World} {B sb : Nat} {win lim came read : Int} (h : Obj w B sb ⟨win, lim, came, read⟩) (n : Int) (h0 : 0 ≤ n) (h2 : came - read < n) : Calls Tryz.prog 164 #[.pointer (some ⟨sb, 0, none⟩), .int .i64 n] w fun e w' => e = .returned (.tuple #[.int .i64 0, .iface 133 (.int .i64 8)]) ∧ Turned w w' B sb ⟨win, lim, came, read⟩ := by
  obtain ⟨w1, w2, l1, l2, a1, a2, r1, r2⟩ := h.inv
  simp only at w1 w2 l1 l2 a1 a2 r1 r2
  go_enter Tryz.func164, Tryz.ntmps164
  go_wp2_with fail
  refine (left_calls h).mono ?_
  rintro e wa ⟨rfl, ta⟩
  have k3 := ta.1.four.c3
  simp only at k3 ⊢
  go_wp2_with fail
  go_ret2
  exact ⟨rfl, ta⟩

set_option maxRecDepth 100000 in
set_option maxHeartbeats 4000000 in
theorem read_full {w : World} {B sb : Nat} {win lim came read : Int} (h : Obj w B sb ⟨win, lim, came, read⟩) (n : Int) (h0 : 0 ≤ n) (h2 : n ≤ came - read) (l : Int) (el : moreL ⟨win, lim, came, read⟩ n = l) (hb : numB l = false) : Calls Tryz.prog 164 #[.pointer (some ⟨sb, 0, none⟩), .int .i64 n] w fun e w' => e = .returned (.tuple #[.int .i64 0, .iface 133 (.int .i64 4)]) ∧ Turned w w' B sb ⟨win, lim, came, read⟩ := by
  obtain ⟨w1, w2, l1, l2, a1, a2, r1, r2⟩ := h.inv
  simp only at w1 w2 l1 l2 a1 a2 r1 r2
  go_enter Tryz.func164, Tryz.ntmps164
  go_wp2_with fail
  refine (left_calls h).mono ?_
  rintro e wa ⟨rfl, ta⟩
  have k3 := ta.1.four.c3
  simp only at k3 ⊢
  go_wp2_with fail
  have hat := at_calls ta.1 h0 h2
  rw [el] at hat
  have HE : Hid (moreL ⟨win, lim, came, read⟩ n = l) := el
  clear el
  simp only at hat
  refine hat.mono ?_
  rintro e wb ⟨rfl, tb⟩
  clear hat k3
  have tb := ta.trans tb
  clear ta
  have k1 := tb.1.four.c1
  have k3 := tb.1.four.c3
  have g1 := tb.1.four.f1
  have g3 := tb.1.four.f3
  simp only at k1 k3
  go_wp2_with (go_at_call 194; refine (isPlace_calls l _).mono ?_; rintro e wc ⟨rfl, rfl⟩; rw [hb])
  go_ret2
  exact ⟨rfl, tb⟩

set_option maxRecDepth 100000 in
set_option maxHeartbeats 4000000 in
theorem read_yes {w : World} {B sb : Nat} {win lim came read : Int} (h : Obj w B sb ⟨win, lim, came, read⟩) (n : Int) (h0 : 0 ≤ n) (h2 : n ≤ came - read) (l : Int) (el : moreL ⟨win, lim, came, read⟩ n = l) (hb : numB l = true) : Calls Tryz.prog 164 #[.pointer (some ⟨sb, 0, none⟩), .int .i64 n] w fun e w' => e = .returned (.tuple #[.int .i64 l, .nilIface]) ∧ Turned w w' B sb ⟨win, moreL ⟨win, lim, came, read⟩ n, came, read + n⟩ := by
  obtain ⟨w1, w2, l1, l2, a1, a2, r1, r2⟩ := h.inv
  simp only at w1 w2 l1 l2 a1 a2 r1 r2
  go_enter Tryz.func164, Tryz.ntmps164
  go_wp2_with fail
  refine (left_calls h).mono ?_
  rintro e wa ⟨rfl, ta⟩
  have k3 := ta.1.four.c3
  simp only at k3 ⊢
  go_wp2_with fail
  have hat := at_calls ta.1 h0 h2
  rw [el] at hat
  have HE : Hid (moreL ⟨win, lim, came, read⟩ n = l) := el
  clear el
  simp only at hat
  refine hat.mono ?_
  rintro e wb ⟨rfl, tb⟩
  clear hat k3
  have tb := ta.trans tb
  clear ta
  have k1 := tb.1.four.c1
  have k3 := tb.1.four.c3
  have g1 := tb.1.four.f1
  have g3 := tb.1.four.f3
  simp only at k1 k3
  go_wp2_with (go_at_call 194; refine (isPlace_calls l _).mono ?_; rintro e wc ⟨rfl, rfl⟩; rw [hb])
  go_ret2
  exact ⟨rfl, tb.trans (Turned.got tb.1 h0 h2 (by rw [HE.out]; exact hb) rfl HE.out.symm)⟩

theorem read_calls {w : World} {B sb : Nat} {s : St} (h : Obj w B sb s) (n : Int) : Calls Tryz.prog 164 #[.pointer (some ⟨sb, 0, none⟩), .int .i64 n] w fun e w' => e = .returned (.tuple #[.int .i64 (getN s n), errV (getF s n)]) ∧ Turned w w' B sb (getS s n) := by
  obtain ⟨win, lim, came, read⟩ := s
  rcases getF_cases ⟨win, lim, came, read⟩ n with ⟨e, h0⟩ | ⟨e, h0, h1⟩ | ⟨e, h0, h1, h2⟩ | ⟨e, h0, h1, h2⟩
  · rw [getS_no (by rw [e]; decide), getN_no (by rw [e]; decide), e, errV_f (by decide)]; exact read_range h n h0
  · rw [getS_no (by rw [e]; decide), getN_no (by rw [e]; decide), e, errV_f (by decide)]; exact read_flow h n h0 h1
  · rw [getS_no (by rw [e]; decide), getN_no (by rw [e]; decide), e, errV_f (by decide)]; exact read_full h n h0 h1 _ rfl h2
  · rw [getS_yes e, getN_yes e, e, errV_0]; exact read_yes h n h0 h1 _ rfl h2
end Go.Proofs.YtdokgalidhmbbaaGreatDoor.Cx
namespace Go.Proofs.YtdokgalidhmbbaaGreatDoor.Cy
open Go.RowKit Go.Lib Go.Sort


open Cx (St Inv numB takeF takeS upS)
/-- Four integers from the place 246 of the block sb on. -/
structure Obj (w : World) (sb : Nat) (s : St) : Prop where
  inv : Inv s
  c0 : w.cell? ⟨sb, 246, none⟩ = some (.int .i64 s.win)
  c1 : w.cell? ⟨sb, 247, none⟩ = some (.int .i64 s.lim)
  c2 : w.cell? ⟨sb, 248, none⟩ = some (.int .i64 s.came)
  c3 : w.cell? ⟨sb, 249, none⟩ = some (.int .i64 s.read)
  f2 : w.frozen? ⟨sb, 248, none⟩ = false
/-- The credit is now s; all else of the block, and all other blocks, are as they were. -/
structure Turned (w w' : World) (sb : Nat) (s : St) : Prop where
  obj : Obj w' sb s
  off : Off (fun k => k = sb) w w'
  rest : ∀ i, i < 246 ∨ 250 ≤ i → w'.cell? ⟨sb, i, none⟩ = w.cell? ⟨sb, i, none⟩
  fz : ∀ i, w'.frozen? ⟨sb, i, none⟩ = w.frozen? ⟨sb, i, none⟩
theorem Turned.same {w : World} {sb : Nat} {s : St} (h : Obj w sb s) : Turned w w sb s := ⟨h, Off.refl _ _, fun _ _ => rfl, fun _ => rfl⟩
theorem Turned.took {w : World} {sb : Nat} {s : St} (h : Obj w sb s) {u v : Int} (hu : u ≤ s.lim) (hv : v = if s.came < u then u else s.came) : Turned w (w.setCell ⟨sb, 248, none⟩ (.int .i64 v)) sb (upS s u) := by
  refine ⟨⟨h.inv.up hu, Cx.cell_next h.c0 (by simp), Cx.cell_next h.c1 (by simp), by rw [hv]; exact World.cell?_setCell_same _ _ _ h.c2, Cx.cell_next h.c3 (by simp), by simpa using h.f2⟩, (Off.refl _ _).setCell (K := fun k => k = sb) (a := ⟨sb, 248, none⟩) rfl _, fun i hi => ?_, fun i => by simp⟩
  exact World.cell?_setCell_other _ _ _ _ (fun e => by injection e; omega)

set_option maxRecDepth 100000 in
set_option maxHeartbeats 4000000 in
theorem take_range {w : World} {sb : Nat} {win lim came read : Int} (h : Obj w sb ⟨win, lim, came, read⟩) (u : Int) (hb : numB u = false) : Calls Tryz.prog 185 #[.pointer (some ⟨sb, 246, none⟩), .int .i64 u] w fun e w' => e = .returned (.iface 133 (.int .i64 1)) ∧ Turned w w' sb ⟨win, lim, came, read⟩ := by
  have c1 := h.c1
  have c2 := h.c2
  have f2 := h.f2
  have l2 := h.inv.l2
  simp only at c1 c2 l2
  go_enter Tryz.func185, Tryz.ntmps185
  go_wp2_with (go_at_call 194; refine (Cx.isPlace_calls u _).mono ?_; rintro e w1 ⟨rfl, rfl⟩; rw [hb])
  go_ret
  exact ⟨rfl, Turned.same h⟩

set_option maxRecDepth 100000 in
set_option maxHeartbeats 4000000 in
theorem take_flow {w : World} {sb : Nat} {win lim came read : Int} (h : Obj w sb ⟨win, lim, came, read⟩) (u : Int) (hb : numB u = true) (h2 : lim < u) : Calls Tryz.prog 185 #[.pointer (some ⟨sb, 246, none⟩), .int .i64 u] w fun e w' => e = .returned (.iface 133 (.int .i64 8)) ∧ Turned w w' sb ⟨win, lim, came, read⟩ := by
  have c1 := h.c1
  have c2 := h.c2
  have f2 := h.f2
  have l2 := h.inv.l2
  simp only at c1 c2 l2
  go_enter Tryz.func185, Tryz.ntmps185
  go_wp2_with (go_at_call 194; refine (Cx.isPlace_calls u _).mono ?_; rintro e w1 ⟨rfl, rfl⟩; rw [hb])
  go_ret
  exact ⟨rfl, Turned.same h⟩

set_option maxRecDepth 100000 in
set_option maxHeartbeats 4000000 in
theorem take_yes1 {w : World} {sb : Nat} {win lim came read : Int} (h : Obj w sb ⟨win, lim, came, read⟩) (u : Int) (hb : numB u = true) (h2 : u ≤ lim) (h3 : came < u) : Calls Tryz.prog 185 #[.pointer (some ⟨sb, 246, none⟩), .int .i64 u] w fun e w' => e = .returned .nilIface ∧ Turned w w' sb (upS ⟨win, lim, came, read⟩ u) := by
  have c1 := h.c1
  have c2 := h.c2
  have f2 := h.f2
  have l2 := h.inv.l2
  simp only at c1 c2 l2
  go_enter Tryz.func185, Tryz.ntmps185
  go_wp2_with (go_at_call 194; refine (Cx.isPlace_calls u _).mono ?_; rintro e w1 ⟨rfl, rfl⟩; rw [hb])
  go_ret
  exact ⟨rfl, Turned.took h h2 (if_pos h3).symm⟩

set_option maxRecDepth 100000 in
set_option maxHeartbeats 4000000 in
theorem take_yes2 {w : World} {sb : Nat} {win lim came read : Int} (h : Obj w sb ⟨win, lim, came, read⟩) (u : Int) (hb : numB u = true) (h2 : u ≤ lim) (h3 : u ≤ came) : Calls Tryz.prog 185 #[.pointer (some ⟨sb, 246, none⟩), .int .i64 u] w fun e w' => e = .returned .nilIface ∧ Turned w w' sb (upS ⟨win, lim, came, read⟩ u) := by
  have c1 := h.c1
  have c2 := h.c2
  have f2 := h.f2
  have l2 := h.inv.l2
  simp only at c1 c2 l2
  go_enter Tryz.func185, Tryz.ntmps185
  go_wp2_with (go_at_call 194; refine (Cx.isPlace_calls u _).mono ?_; rintro e w1 ⟨rfl, rfl⟩; rw [hb])
  go_ret
  exact ⟨rfl, Turned.took h h2 (if_neg (by simp only; omega)).symm⟩

theorem take_calls {w : World} {sb : Nat} {s : St} (h : Obj w sb s) (u : Int) : Calls Tryz.prog 185 #[.pointer (some ⟨sb, 246, none⟩), .int .i64 u] w fun e w' => e = .returned (errV (takeF s u)) ∧ Turned w w' sb (takeS s u) := by
  obtain ⟨win, lim, came, read⟩ := s
  rcases Cx.takeF_cases ⟨win, lim, came, read⟩ u with ⟨e, hb⟩ | ⟨e, hb, h2⟩ | ⟨e, hb, h2⟩
  · rw [Cx.takeS_no (by rw [e]; decide), e, errV_f (by decide)]; exact take_range h u hb
  · rw [Cx.takeS_no (by rw [e]; decide), e, errV_f (by decide)]; exact take_flow h u hb h2
  · rw [Cx.takeS_yes e, e, errV_0]
    by_cases h3 : came < u
    · exact take_yes1 h u hb h2 h3
    · exact take_yes2 h u hb h2 (by omega)
end Go.Proofs.YtdokgalidhmbbaaGreatDoor.Cy
