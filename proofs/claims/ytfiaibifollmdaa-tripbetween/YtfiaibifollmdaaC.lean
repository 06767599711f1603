/- A trip in a box of its own; the walk of the law TripSame. -/
import Derived.Test.YtfiaibifollmdaaB
namespace Go.Proofs.Ytfiaibifollmdaa
open Go.RowKit Go.Lib Go.Sort
set_option linter.unusedVariables false
set_option linter.unusedSimpArgs false

/-- The block b holds a trip, and may be written. -/
structure Box (w : World) (b : Nat) (s v l : Int) : Prop where
  lt : b < w.heap.size
  c0 : w.cell? ⟨b, 0, none⟩ = some (.int .i64 s)
  c1 : w.cell? ⟨b, 1, none⟩ = some (.int .i64 v)
  c2 : w.cell? ⟨b, 2, none⟩ = some (.int .i64 l)
  f0 : w.frozen? ⟨b, 0, none⟩ = false
  f1 : w.frozen? ⟨b, 1, none⟩ = false
  f2 : w.frozen? ⟨b, 2, none⟩ = false
theorem frozen_below {w w' : World} {a : Addr} (hb : Below w.heap.size w w') (h : a.block < w.heap.size) : w'.frozen? a = w.frozen? a := by
  unfold World.frozen?; rw [hb.block _ h]
theorem Box.below {w w' : World} {b : Nat} {s v l : Int} (h : Box w b s v l) (hb : Below w.heap.size w w') : Box w' b s v l :=
  ⟨Nat.lt_of_lt_of_le h.lt hb.size, (hb.cell (p := ⟨b, 0, none⟩) h.lt).trans h.c0, (hb.cell (p := ⟨b, 1, none⟩) h.lt).trans h.c1, (hb.cell (p := ⟨b, 2, none⟩) h.lt).trans h.c2,
    (frozen_below hb h.lt).trans h.f0, (frozen_below hb h.lt).trans h.f1, (frozen_below hb h.lt).trans h.f2⟩
theorem Box.new (w : World) (s v l : Int) : Box (w.alloc (.cells #[.int .i64 s, .int .i64 v, .int .i64 l] 24)) w.heap.size s v l :=
  ⟨by simp, by simp, by simp, by simp, by simp, by simp, by simp⟩
/-- A trip is written into its box. -/
theorem Box.set {w : World} {b : Nat} {s v l : Int} (h : Box w b s v l) (s' v' l' : Int) :
    Box (((w.setCell ⟨b, 0, none⟩ (.int .i64 s')).setCell ⟨b, 1, none⟩ (.int .i64 v')).setCell ⟨b, 2, none⟩ (.int .i64 l')) b s' v' l' := by
  have a0 : (w.setCell ⟨b, 0, none⟩ (.int .i64 s')).cell? ⟨b, 0, none⟩ = some (.int .i64 s') := World.cell?_setCell_same _ _ _ h.c0
  have a1 : (w.setCell ⟨b, 0, none⟩ (.int .i64 s')).cell? ⟨b, 1, none⟩ = some (.int .i64 v) := by rw [World.cell?_setCell_other _ _ _ _ (by simp)]; exact h.c1
  have a2 : (w.setCell ⟨b, 0, none⟩ (.int .i64 s')).cell? ⟨b, 2, none⟩ = some (.int .i64 l) := by rw [World.cell?_setCell_other _ _ _ _ (by simp)]; exact h.c2
  have b2 : ((w.setCell ⟨b, 0, none⟩ (.int .i64 s')).setCell ⟨b, 1, none⟩ (.int .i64 v')).cell? ⟨b, 2, none⟩ = some (.int .i64 l) := by rw [World.cell?_setCell_other _ _ _ _ (by simp)]; exact a2
  refine ⟨by simpa using h.lt, ?_, ?_, World.cell?_setCell_same _ _ _ b2, ?_, ?_, ?_⟩
  · rw [World.cell?_setCell_other _ _ _ _ (by simp), World.cell?_setCell_other _ _ _ _ (by simp)]; exact a0
  · rw [World.cell?_setCell_other _ _ _ _ (by simp)]; exact World.cell?_setCell_same _ _ _ a1
  · simpa using h.f0
  · simpa using h.f1
  · simpa using h.f2
theorem Below.set3 {B : Nat} {w w' : World} {b : Nat} (h : Below B w w') (hb : B ≤ b) (x y z : Value) : Below B w (((w'.setCell ⟨b, 0, none⟩ x).setCell ⟨b, 1, none⟩ y).setCell ⟨b, 2, none⟩ z) :=
  ((h.setCell hb _).setCell hb _).setCell hb _

theorem next_same (n v : Int) (w : World) (h : timeB n = true) (h0 : 0 ≤ v) (h1 : v ≤ 800000) :
    Calls Try.prog 6 #[trip (8 * n) v n, .int .i64 n, .int .i64 0] w fun e w' => e = .returned (.tuple #[trip (8 * n) (v - v / 4) n, .nilIface]) ∧ Below w.heap.size w w' := by
  have ht := timeB_yes h
  have hr : rightB (8 * n) v n = true := by
    have : decide (8 ≤ 8 * n ∧ 8 * n ≤ 800000 ∧ 0 ≤ v ∧ v ≤ 800000) = true := decide_eq_true (by omega)
    simp [rightB, this, h]
  have hn : nextB (8 * n) v n n 0 = true := by simp [nextB, hr, h, delayB]
  have e1 : lst n n = n := by unfold lst; split <;> omega
  have e2 : tim n n 0 = n := by unfold tim; rw [e1]; split <;> omega
  have e3 : 8 * n / 8 = n := by omega
  have e4 : smo (8 * n) n n 0 = 8 * n := by unfold smo; rw [e2, e3]; omega
  have e5 : vry (8 * n) v n n 0 = v - v / 4 := by unfold vry far; rw [e2, e3]; split <;> omega
  have := next_yes (8 * n) v n n 0 w hn
  rw [e1, e4, e5] at this
  exact this

set_option maxRecDepth 100000 in
set_option maxHeartbeats 2000000 in
theorem same_no1 (n m : Int) (w : World) (h : timeB n = false) (c : n < 1) :
    Calls Try.prog 4 #[.int .i64 n, .int .i64 m] w fun e w' => e = .returned (.bool true) ∧ Below w.heap.size w w' := by
  go_enter Try.func4, Try.ntmps4
  go_wp2_with (go_at_call 5; refine (first_no n _ h).mono ?_; rintro e w1 ⟨rfl, hb1⟩)
  go_ret
  exact ⟨by simp <;> omega, hb1.alloc hb1.size _⟩
set_option maxRecDepth 100000 in
set_option maxHeartbeats 2000000 in
theorem same_no2 (n m : Int) (w : World) (h : timeB n = false) (c : 100000 < n) :
    Calls Try.prog 4 #[.int .i64 n, .int .i64 m] w fun e w' => e = .returned (.bool true) ∧ Below w.heap.size w w' := by
  go_enter Try.func4, Try.ntmps4
  go_wp2_with (go_at_call 5; refine (first_no n _ h).mono ?_; rintro e w1 ⟨rfl, hb1⟩)
  go_ret
  exact ⟨by simp <;> omega, hb1.alloc hb1.size _⟩
set_option maxRecDepth 100000 in
set_option maxHeartbeats 2000000 in
theorem same_yes (n m : Int) (w : World) (h : timeB n = true) :
    Calls Try.prog 4 #[.int .i64 n, .int .i64 m] w fun e w' => e = .returned (.bool true) ∧ Below w.heap.size w w' := by
  obtain ⟨t1, t2⟩ := timeB_yes h
  go_enter Try.func4, Try.ntmps4
  go_wp2_with (go_at_call 5; refine (first_yes n _ h).mono ?_; rintro e w1 ⟨rfl, hb1⟩)
  have hB0 := hb1.alloc hb1.size (.cells #[.int .i64 (8 * n), .int .i64 (4 * n), .int .i64 n] 24)
  have hX0 := Box.new w1 (8 * n) (4 * n) n
  have hle := hb1.size
  generalize w1.heap.size = B at hX0 hle ⊢
  generalize w1.alloc (.cells #[.int .i64 (8 * n), .int .i64 (4 * n), .int .i64 n] 24) = W0 at hB0 hX0 ⊢
  clear hb1
  go_loopw [7] (fun i wr => ∃ k : Nat, k ≤ 60 ∧ i = .int .i64 k ∧ ∃ v : Int, 0 ≤ v ∧ v ≤ 800000 ∧ Box wr B (8 * n) v n ∧ Below w.heap.size w wr) (fun i _ => 60 - (intOf i).toNat)
  case atStart => exact ⟨0, by omega, rfl, 4 * n, by omega, by omega, hX0, hB0⟩
  case round =>
    clear hB0 hX0
    obtain ⟨k, hk, rfl, v, v0, v1, hX, hB⟩ := hrel
    by_cases g1 : (k : Int) < m
    · by_cases g2 : (k : Int) < 60
      · obtain ⟨lt, c0, c1, c2, f0, f1, f2⟩ := hX
        go_wp2_with fail
        refine (next_same n v _ h v0 v1).mono ?_
        rintro e w2 ⟨rfl, hb2⟩
        have hX2 := (Box.mk lt c0 c1 c2 f0 f1 f2).below hb2
        have hB2 := hB.trans (hb2.mono hB.size)
        have v2 : v - v / 4 ≤ v := by omega
        have v3 : 0 ≤ v - v / 4 := by omega
        have v4 : 4 ≤ v → (v - v / 4 == v) = false := by intro; simp; omega
        generalize v - v / 4 = u at v2 v3 v4 ⊢
        clear hb2 lt c0 c1 c2 f0 f1 f2
        have hX2' := hX2
        obtain ⟨lt, c0, c1, c2, f0, f1, f2⟩ := hX2'
        by_cases g3 : 4 ≤ v
        · have v5 := v4 g3
          clear v4
          go_wp2_with fail
          exact ⟨⟨k + 1, by omega, by go_num, u, v3, by omega, (hX2.set (8 * n) u n).below ((Below.refl _ _).alloc (Nat.le_refl _) _), (Below.set3 hB2 hle _ _ _).alloc (by have := hB2.size; simp <;> omega) _⟩, by simp [intOf]; omega⟩
        · clear v4
          go_wp2_with fail
          exact ⟨⟨k + 1, by omega, by go_num, u, v3, by omega, (hX2.set (8 * n) u n).below ((Below.refl _ _).alloc (Nat.le_refl _) _), (Below.set3 hB2 hle _ _ _).alloc (by have := hB2.size; simp <;> omega) _⟩, by simp [intOf]; omega⟩
      · go_wp2_with fail
        go_ret
        exact ⟨rfl, hB⟩
    · go_wp2_with fail
      go_ret
      exact ⟨rfl, hB⟩
theorem same_walk (n m : Int) (w : World) : Calls Try.prog 4 #[.int .i64 n, .int .i64 m] w fun e w' => e = .returned (.bool true) ∧ Below w.heap.size w w' := by
  cases h : timeB n with
  | true => exact same_yes n m w h
  | false => rcases timeB_no h with c | c
             · exact same_no1 n m w h c
             · exact same_no2 n m w h c
end Go.Proofs.Ytfiaibifollmdaa
