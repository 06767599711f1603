/- Whether two lists of packets are the same, as the law's own comparison answers. -/
import Derived.Test.YtingcgadolcanaaDoorB
namespace Go.Proofs.YtingcgadolcanaaDoor
open Go.RowKit Go.Lib Go.Sort
set_option linter.unusedVariables false
set_option linter.unusedSimpArgs false

theorem struct3 : Tryd.prog.underlying 30 = some (.struct (Tryd.prog.fieldsOf 30)) := by kernel_rfl
theorem stood3 : Tryd.prog.stoodInHeld 30 = false := by kernel_rfl
theorem guard3 (op : BinOp) (x y : Operand) (xs ys : Array Value) (w : World) : (eqGuard op 30 x y (.agg xs) (.agg ys)).run Tryd.prog w = .ok () w := run_eqGuard_agg w op 30 x y xs ys (by kernel_rfl)
theorem neq3 (a b c d e f : Int) (w : World) : (binOp .neq 30 (.agg #[.int .i64 a, .int .i64 b, .int .i64 c]) (.agg #[.int .i64 d, .int .i64 e, .int .i64 f])).run Tryd.prog w = .ok (.bool (!(a == d && (b == e && c == f)))) w := by
  have u3 := Tryd.underlying3
  have a3 := Tryd.isAgg3
  have z3 := Tryd.sizeOf3
  rw [run_neq_struct, show (10000 : Nat) = 9999 + 1 from rfl, run_equalIn_agg w 9999 30 _ _ struct3 stood3]
  simp only [Program.fieldsOf, Tryd.underlying30]
  go_simp
  by_cases h1 : a = d <;> by_cases h2 : b = e <;> by_cases h3 : c = f <;> simp [h1, h2, h3]
theorem neq3_same (a b c : Int) (w : World) : (binOp .neq 30 (.agg #[.int .i64 a, .int .i64 b, .int .i64 c]) (.agg #[.int .i64 a, .int .i64 b, .int .i64 c])).run Tryd.prog w = .ok (.bool false) w := by
  rw [neq3]; simp
theorem neq3_diff (a b c d e f : Int) (h : (a, b, c) ≠ (d, e, f)) (w : World) : (binOp .neq 30 (.agg #[.int .i64 a, .int .i64 b, .int .i64 c]) (.agg #[.int .i64 d, .int .i64 e, .int .i64 f])).run Tryd.prog w = .ok (.bool true) w := by
  rw [neq3]
  have : (a == d && (b == e && c == f)) = false := by
    cases q : (a == d && (b == e && c == f))
    · rfl
    · simp at q; exact absurd (by rw [q.1, q.2.1, q.2.2]) h
  rw [this]; rfl

set_option maxRecDepth 100000 in
set_option maxHeartbeats 2000000 in
theorem same3_far (a1 a2 : Option Addr) (l1 l2 c1 c2 : Nat) (w : World) (h : l1 ≠ l2) (h1 : l1 ≤ 9223372036854775807) (h2 : l2 ≤ 9223372036854775807) :
    Calls Tryd.prog 11 #[.slice a1 l1 c1, .slice a2 l2 c2] w fun e w' => e = .returned (.bool false) ∧ Below w.heap.size w w' := by
  have h' : ¬ ((l1 : Int) = (l2 : Int)) := by omega
  go_enter Tryd.func11, Tryd.ntmps11
  go_wp2_with fail
  go_ret
  exact ⟨rfl, Below.refl _ _⟩
theorem take3_next {xs ys : List S3} {k : Nat} (h : xs.take k = ys.take k) (h1 : k < xs.length) (h2 : k < ys.length) (e : at3 xs k = at3 ys k) : xs.take (k + 1) = ys.take (k + 1) := by
  rw [List.take_succ_eq_append_getElem h1, List.take_succ_eq_append_getElem h2, h]
  simp [at3, h1, h2] at e
  rw [e]

set_option maxRecDepth 100000 in
set_option maxHeartbeats 2000000 in
theorem same3_near (a1 a2 : Option Addr) (len c1 c2 : Nat) (xs ys : List S3) (w : World) (hx : xs.length = len) (hy : ys.length = len) (hl : len ≤ 9223372036854775807)
    (h1 : xs = [] ∨ ∃ b off, a1 = some ⟨b, off, none⟩ ∧ b < w.heap.size ∧ Cells3 w b off xs) (h2 : ys = [] ∨ ∃ b off, a2 = some ⟨b, off, none⟩ ∧ b < w.heap.size ∧ Cells3 w b off ys) :
    Calls Tryd.prog 11 #[.slice a1 len c1, .slice a2 len c2] w fun e w' => e = .returned (.bool (decide (xs = ys))) ∧ Below w.heap.size w w' := by
  have HX : Hid (xs.length = len) := hx
  have HY : Hid (ys.length = len) := hy
  have H1 : Hid (xs = [] ∨ ∃ b off, a1 = some ⟨b, off, none⟩ ∧ b < w.heap.size ∧ Cells3 w b off xs) := h1
  have H2 : Hid (ys = [] ∨ ∃ b off, a2 = some ⟨b, off, none⟩ ∧ b < w.heap.size ∧ Cells3 w b off ys) := h2
  clear hx hy h1 h2
  go_enter Tryd.func11, Tryd.ntmps11
  go_wp2_with fail
  go_loopw [5] (fun i wr => ∃ k : Nat, k ≤ len ∧ i = .int .i64 k ∧ Hid (xs.take k = ys.take k) ∧ Below w.heap.size w wr) (fun i _ => len - (intOf i).toNat)
  case atStart => exact ⟨0, Nat.zero_le _, rfl, (show xs.take 0 = ys.take 0 by simp), Below.refl _ _⟩
  case round =>
    obtain ⟨k, hk, rfl, hE, hB⟩ := hrel
    by_cases hlt : k < len
    · have g1 : (k : Int) < (len : Int) := by omega
      have hk1 : k < xs.length := by have := HX.out; omega
      have hk2 : k < ys.length := by have := HY.out; omega
      obtain ⟨b, off, rfl, hb, hC⟩ : ∃ b off, a1 = some ⟨b, off, none⟩ ∧ b < w.heap.size ∧ Cells3 w b off xs := by
        rcases H1.out with h | h
        · rw [h] at hk1; simp at hk1
        · exact h
      obtain ⟨b2, off2, rfl, hb2, hC2⟩ : ∃ b off, a2 = some ⟨b, off, none⟩ ∧ b < w.heap.size ∧ Cells3 w b off ys := by
        rcases H2.out with h | h
        · rw [h] at hk2; simp at hk2
        · exact h
      obtain ⟨c0, c1, c2⟩ := hC.below hb hB k hk1
      obtain ⟨d0, d1, d2⟩ := hC2.below hb2 hB k hk2
      have HN : Hid (at3 xs k = at3 ys k → xs.take (k + 1) = ys.take (k + 1)) := take3_next hE.out hk1 hk2
      have HD : Hid (at3 xs k ≠ at3 ys k → decide (xs = ys) = false) := by
        show _ → _
        intro h
        have : xs ≠ ys := fun e => h (by rw [e])
        simp [this]
      clear hC hC2 hk1 hk2 hE
      have gd := guard3
      by_cases he : at3 xs k = at3 ys k
      · have HN1 : Hid (xs.take (k + 1) = ys.take (k + 1)) := HN.out he
        clear HN HD
        rw [← he] at d0 d1 d2
        generalize at3 xs k = r at c0 c1 c2 d0 d1 d2
        clear he
        obtain ⟨x0, x1, x2⟩ := r
        have hq := neq3_same x0 x1 x2
        simp only at c0 c1 c2 d0 d1 d2
        go_wp2_with fail
        go_quiet (fail)
        go_wp2_with fail
        exact ⟨⟨k + 1, by omega, by go_num, HN1, below_drewN hB _⟩, by simp [intOf]; omega⟩
      · have HD1 : Hid (decide (xs = ys) = false) := HD.out he
        clear HN HD
        generalize at3 xs k = r at c0 c1 c2 he
        generalize at3 ys k = q at d0 d1 d2 he
        obtain ⟨x0, x1, x2⟩ := r
        obtain ⟨y0, y1, y2⟩ := q
        have hq := neq3_diff x0 x1 x2 y0 y1 y2 he
        clear he
        simp only at c0 c1 c2 d0 d1 d2
        go_wp2_with fail
        go_quiet (fail)
        go_wp2_with fail
        go_ret
        exact ⟨by rw [HD1.out]; rfl, below_drewN hB _⟩
    · obtain rfl : k = len := by omega
      have e : xs = ys := by
        have h := hE.out
        rw [List.take_of_length_le (by have := HX.out; omega), List.take_of_length_le (by have := HY.out; omega)] at h
        exact h
      have HD1 : Hid (decide (xs = ys) = true) := by show _ = _; simp [e]
      clear e hE
      go_wp2_with fail
      go_ret
      exact ⟨by rw [HD1.out]; rfl, hB⟩
theorem same3_calls (va vb : Value) (xs ys : List S3) (w : World) (ha : Row3 w va xs) (hb : Row3 w vb ys) :
    Calls Tryd.prog 11 #[va, vb] w fun e w' => e = .returned (.bool (decide (xs = ys))) ∧ Below w.heap.size w w' := by
  obtain ⟨ao, c, rfl, hl, hn, hz⟩ := ha
  obtain ⟨bo, d, rfl, hl2, hn2, hz2⟩ := hb
  by_cases h : xs.length = ys.length
  · rw [← h]
    exact same3_near ao bo _ c d xs ys w rfl h.symm hl hz hz2
  · have : decide (xs = ys) = false := by
      have : xs ≠ ys := fun e => h (by rw [e])
      simp [this]
    rw [this]
    exact same3_far ao bo _ _ c d w h hl hl2
end Go.Proofs.YtingcgadolcanaaDoor
