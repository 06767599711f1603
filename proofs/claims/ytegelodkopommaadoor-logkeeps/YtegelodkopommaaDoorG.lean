/- Whether two lists of ranges are the same, as the law's own comparison answers. -/
import Derived.Test.YtegelodkopommaaDoorJ
namespace Go.Proofs.YtegelodkopommaaDoor
open Go.RowKit Go.Lib Go.Sort
set_option linter.unusedVariables false
set_option linter.unusedSimpArgs false

theorem structR : Tryd.prog.underlying 37 = some (.struct (Tryd.prog.fieldsOf 37)) := by kernel_rfl
theorem stoodR : Tryd.prog.stoodInHeld 37 = false := by kernel_rfl
theorem guardR (op : BinOp) (x y : Operand) (xs ys : Array Value) (w : World) : (eqGuard op 37 x y (.agg xs) (.agg ys)).run Tryd.prog w = .ok () w := run_eqGuard_agg w op 37 x y xs ys (by kernel_rfl)
theorem neqR (a b c d : Int) (w : World) : (binOp .neq 37 (.agg #[.int .i64 a, .int .i64 b]) (.agg #[.int .i64 c, .int .i64 d])).run Tryd.prog w = .ok (.bool (!(a == c && b == d))) w := by
  have u3 := Tryd.underlying3
  have a3 := Tryd.isAgg3
  have z3 := Tryd.sizeOf3
  rw [run_neq_struct, show (10000 : Nat) = 9999 + 1 from rfl, run_equalIn_agg w 9999 37 _ _ structR stoodR]
  simp only [Program.fieldsOf, Tryd.underlying37]
  go_simp
  by_cases h1 : a = c <;> by_cases h2 : b = d <;> simp [h1, h2]
theorem neqR_same (a b : Int) (w : World) : (binOp .neq 37 (.agg #[.int .i64 a, .int .i64 b]) (.agg #[.int .i64 a, .int .i64 b])).run Tryd.prog w = .ok (.bool false) w := by
  rw [neqR]; simp
theorem neqR_diff (a b c d : Int) (h : (a, b) ≠ (c, d)) (w : World) : (binOp .neq 37 (.agg #[.int .i64 a, .int .i64 b]) (.agg #[.int .i64 c, .int .i64 d])).run Tryd.prog w = .ok (.bool true) w := by
  rw [neqR]
  have : (a == c && b == d) = false := by
    cases e : (a == c && b == d)
    · rfl
    · simp at e; exact absurd (Prod.ext e.1 e.2) h
  rw [this]; rfl

set_option maxRecDepth 100000 in
set_option maxHeartbeats 2000000 in
theorem same_far (a1 a2 : Option Addr) (l1 l2 c1 c2 : Nat) (w : World) (h : l1 ≠ l2) (h1 : l1 ≤ 9223372036854775807) (h2 : l2 ≤ 9223372036854775807) :
    Calls Tryd.prog 18 #[.slice a1 l1 c1, .slice a2 l2 c2] w fun e w' => e = .returned (.bool false) ∧ Below w.heap.size w w' := by
  have h' : ¬ ((l1 : Int) = (l2 : Int)) := by omega
  go_enter Tryd.func18, Tryd.ntmps18
  go_wp2_with fail
  go_ret
  exact ⟨rfl, Below.refl _ _⟩

theorem take_next {xs ys : List R} {k : Nat} (h : xs.take k = ys.take k) (h1 : k < xs.length) (h2 : k < ys.length) (e : at' xs k = at' ys k) : xs.take (k + 1) = ys.take (k + 1) := by
  rw [List.take_succ_eq_append_getElem h1, List.take_succ_eq_append_getElem h2, h]
  simp [at', h1, h2] at e
  rw [e]

set_option maxRecDepth 100000 in
set_option maxHeartbeats 2000000 in
theorem same_near (a1 a2 : Option Addr) (len c1 c2 : Nat) (xs ys : List R) (w : World) (hx : xs.length = len) (hy : ys.length = len) (hl : len ≤ 9223372036854775807)
    (h1 : xs = [] ∨ ∃ b off, a1 = some ⟨b, off, none⟩ ∧ b < w.heap.size ∧ Cells w b off xs) (h2 : ys = [] ∨ ∃ b off, a2 = some ⟨b, off, none⟩ ∧ b < w.heap.size ∧ Cells w b off ys) :
    Calls Tryd.prog 18 #[.slice a1 len c1, .slice a2 len c2] w fun e w' => e = .returned (.bool (decide (xs = ys))) ∧ Below w.heap.size w w' := by
  have HX : Hid (xs.length = len) := hx
  have HY : Hid (ys.length = len) := hy
  have H1 : Hid (xs = [] ∨ ∃ b off, a1 = some ⟨b, off, none⟩ ∧ b < w.heap.size ∧ Cells w b off xs) := h1
  have H2 : Hid (ys = [] ∨ ∃ b off, a2 = some ⟨b, off, none⟩ ∧ b < w.heap.size ∧ Cells w b off ys) := h2
  clear hx hy h1 h2
  go_enter Tryd.func18, Tryd.ntmps18
  go_wp2_with fail
  go_loopw [5] (fun i wr => ∃ k : Nat, k ≤ len ∧ i = .int .i64 k ∧ Hid (xs.take k = ys.take k) ∧ Below w.heap.size w wr) (fun i _ => len - (intOf i).toNat)
  case atStart => exact ⟨0, Nat.zero_le _, rfl, (show xs.take 0 = ys.take 0 by simp), Below.refl _ _⟩
  case round =>
    obtain ⟨k, hk, rfl, hE, hB⟩ := hrel
    by_cases hlt : k < len
    · have g1 : (k : Int) < (len : Int) := by omega
      have hk1 : k < xs.length := by have := HX.out; omega
      have hk2 : k < ys.length := by have := HY.out; omega
      obtain ⟨b, off, rfl, hb, hC⟩ : ∃ b off, a1 = some ⟨b, off, none⟩ ∧ b < w.heap.size ∧ Cells w b off xs := by
        rcases H1.out with h | h
        · rw [h] at hk1; simp at hk1
        · exact h
      obtain ⟨b2, off2, rfl, hb2, hC2⟩ : ∃ b off, a2 = some ⟨b, off, none⟩ ∧ b < w.heap.size ∧ Cells w b off ys := by
        rcases H2.out with h | h
        · rw [h] at hk2; simp at hk2
        · exact h
      have c0 := (hC.below hb hB k hk1).1
      have c1 := (hC.below hb hB k hk1).2
      have d0 := (hC2.below hb2 hB k hk2).1
      have d1 := (hC2.below hb2 hB k hk2).2
      have HN : Hid (at' xs k = at' ys k → xs.take (k + 1) = ys.take (k + 1)) := take_next hE.out hk1 hk2
      have HD : Hid (at' xs k ≠ at' ys k → decide (xs = ys) = false) := by
        show _ → _
        intro h
        have : xs ≠ ys := fun e => h (by rw [e])
        simp [this]
      clear hC hC2 hk1 hk2 hE
      have gd := guardR
      by_cases he : at' xs k = at' ys k
      · have HN1 : Hid (xs.take (k + 1) = ys.take (k + 1)) := HN.out he
        clear HN HD
        rw [← he] at d0 d1
        generalize at' xs k = r at c0 c1 d0 d1
        clear he
        obtain ⟨lo, hi⟩ := r
        have hq := neqR_same lo hi
        simp only at c0 c1 d0 d1
        go_wp2_with fail
        go_quiet (fail)
        go_wp2_with fail
        exact ⟨⟨k + 1, by omega, by go_num, HN1, below_drewN hB _⟩, by simp [intOf]; omega⟩
      · have HD1 : Hid (decide (xs = ys) = false) := HD.out he
        clear HN HD
        generalize at' xs k = r at c0 c1 he
        generalize at' ys k = q at d0 d1 he
        obtain ⟨lo, hi⟩ := r
        obtain ⟨lo2, hi2⟩ := q
        have hq := neqR_diff lo hi lo2 hi2 he
        clear he
        simp only at c0 c1 d0 d1
        go_wp2_with fail
        go_quiet (fail)
        go_wp2_with fail
        go_ret
        exact ⟨by rw [HD1.out]; rfl, below_drewN hB _⟩
    · obtain rfl : k = len := by omega
      have e : xs = ys := by
        have h := hE.out
        rw [List.take_of_length_le (by have := HX.out; omega), List.take_of_length_le (by have := HY.out; omega)] at h
        exact h
      have HD1 : Hid (decide (xs = ys) = true) := by show _ = _; simp [e]
      clear e hE
      go_wp2_with fail
      go_ret
      exact ⟨by rw [HD1.out]; rfl, hB⟩

theorem same_calls (va vb : Value) (xs ys : List R) (w : World) (ha : Row w va xs) (hb : Row w vb ys) :
    Calls Tryd.prog 18 #[va, vb] w fun e w' => e = .returned (.bool (decide (xs = ys))) ∧ Below w.heap.size w w' := by
  obtain ⟨ao, c, rfl, hl, hn, hz⟩ := ha
  obtain ⟨bo, d, rfl, hl2, hn2, hz2⟩ := hb
  by_cases h : xs.length = ys.length
  · rw [← h]
    exact same_near ao bo _ c d xs ys w rfl h.symm hl hz hz2
  · have : decide (xs = ys) = false := by
      have : xs ≠ ys := fun e => h (by rw [e])
      simp [this]
    rw [this]
    exact same_far ao bo _ _ c d w h hl hl2
end Go.Proofs.YtegelodkopommaaDoor
