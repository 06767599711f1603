/- What Get answers: the number that bytes begin with, and how many these are; or the error. -/
import Derived.Test.YtjpdembofiadbaaDoorVA
import Derived.Deep.QuietTactic
import Derived.BigQuiet
import Derived.Laws.BitsAllLaws
namespace Go.Proofs.YtjpdembofiadbaaDoor.V
open Go.RowKit
set_option linter.unusedVariables false
set_option linter.unusedSimpArgs false

theorem or_nat (A B : Nat) (hA : A < 1099511627776) (hB : B < 256) : bits .or .i64 ((A * 256 : Nat) : Int) (B : Int) = ((A * 256 + B : Nat) : Int) := by
  show IntKind.i64.wrap ((BitVec.ofInt 64 ((A * 256 : Nat) : Int) ||| BitVec.ofInt 64 (B : Int)).toNat : Int) = _
  rw [BitVec.toNat_or, ofInt_u64 (A * 256) (by omega), ofInt_u64 B (by omega)]
  have h := Nat.two_pow_add_eq_or_of_lt (i := 8) (b := B) hB A
  rw [show A * 256 = 2 ^ 8 * A by omega, ← h, IntKind.wrap_i64]
  omega
theorem or_byte (a b : Int) (h1 : 0 ≤ a) (h2 : a < 1099511627776) (h3 : 0 ≤ b) (h4 : b < 256) : bits .or .i64 (a * 256) b = a * 256 + b := by
  obtain ⟨A, rfl⟩ := Int.eq_ofNat_of_zero_le h1
  obtain ⟨B, rfl⟩ := Int.eq_ofNat_of_zero_le h3
  have := or_nat A B (by omega) (by omega)
  simpa using this
theorem or_zero (b : Int) (h3 : 0 ≤ b) (h4 : b < 256) : bits .or .i64 0 b = b := by
  have := or_byte 0 b (by omega) (by omega) h3 h4
  simpa using this

set_option maxRecDepth 100000 in
set_option maxHeartbeats 1000000 in
theorem get_empty (s : ByteArray) (w : World) (hF : Forms w) (hl : s.size ≤ maxLen) (h : s.size = 0) :
    Calls Tryd.prog 66 #[.string s] w fun e w' => e = .returned (.tuple #[.int .i64 0, .int .i64 0, .iface 48 (.int .i64 2)]) ∧ Below w.heap.size w w' := by
  unfold maxLen at hl
  obtain ⟨c0, c1, c2, c3, c4, c5, hp⟩ := hF
  go_enter Tryd.func66, Tryd.ntmps66
  go_wp2
  go_ret3
  exact ⟨rfl, Below.refl _ _⟩

set_option maxRecDepth 100000 in
set_option maxHeartbeats 1000000 in
theorem get_b3 (s : ByteArray) (w : World) (hF : Forms w) (hl : s.size ≤ maxLen) (h : 0 < s.size) (hb : (192 : Int) ≤ (s[0].toNat : Int)) :
    Calls Tryd.prog 66 #[.string s] w fun e w' => e = .returned (.tuple #[.int .i64 0, .int .i64 0, .iface 48 (.int .i64 2)]) ∧ Below w.heap.size w w' := by
  unfold maxLen at hl
  obtain ⟨c0, c1, c2, c3, c4, c5, hp⟩ := hF
  have hz : ((s.size : Int) == 0) = false := beq_eq_false_iff_ne.2 (by omega)
  have hb2 : (s[0].toNat : Int) < 256 := by have := s[0].toNat_lt; omega
  have hq : (s[0].toNat : Int) / 64 = 3 := by omega
  go_enter Tryd.func66, Tryd.ntmps66
  go_wp2
  go_ret3
  exact ⟨rfl, Below.refl _ _⟩

set_option maxRecDepth 100000 in
set_option maxHeartbeats 1000000 in
theorem get_b1short (s : ByteArray) (w : World) (hF : Forms w) (hl : s.size ≤ maxLen) (h : 0 < s.size) (h2 : s.size < 2) (hb0 : (64 : Int) ≤ (s[0].toNat : Int)) (hb1 : (s[0].toNat : Int) < 128) :
    Calls Tryd.prog 66 #[.string s] w fun e w' => e = .returned (.tuple #[.int .i64 0, .int .i64 0, .iface 48 (.int .i64 2)]) ∧ Below w.heap.size w w' := by
  unfold maxLen at hl
  obtain ⟨c0, c1, c2, c3, c4, c5, hp⟩ := hF
  have hz : ((s.size : Int) == 0) = false := beq_eq_false_iff_ne.2 (by omega)
  have hq : (s[0].toNat : Int) / 64 = 1 := by omega
  have hs : (s.size : Int) < 2 := by omega
  go_enter Tryd.func66, Tryd.ntmps66
  go_wp2
  go_ret3
  exact ⟨rfl, Below.refl _ _⟩

set_option maxRecDepth 100000 in
set_option maxHeartbeats 1000000 in
theorem get_b2short (s : ByteArray) (w : World) (hF : Forms w) (hl : s.size ≤ maxLen) (h : 0 < s.size) (h4 : s.size < 4) (hb0 : (128 : Int) ≤ (s[0].toNat : Int)) (hb1 : (s[0].toNat : Int) < 192) :
    Calls Tryd.prog 66 #[.string s] w fun e w' => e = .returned (.tuple #[.int .i64 0, .int .i64 0, .iface 48 (.int .i64 2)]) ∧ Below w.heap.size w w' := by
  unfold maxLen at hl
  obtain ⟨c0, c1, c2, c3, c4, c5, hp⟩ := hF
  have hz : ((s.size : Int) == 0) = false := beq_eq_false_iff_ne.2 (by omega)
  have hq : (s[0].toNat : Int) / 64 = 2 := by omega
  have hs : (s.size : Int) < 4 := by omega
  go_enter Tryd.func66, Tryd.ntmps66
  go_wp2
  go_ret3
  exact ⟨rfl, Below.refl _ _⟩

set_option maxRecDepth 100000 in
set_option maxHeartbeats 1000000 in
theorem get_0 (s : ByteArray) (w : World) (hF : Forms w) (hl : s.size ≤ maxLen) (h : 0 < s.size) (hb1 : (s[0].toNat : Int) < 64) :
    Calls Tryd.prog 66 #[.string s] w fun e w' => e = .returned (.tuple #[.int .i64 (s[0].toNat : Int), .int .i64 1, .nilIface]) ∧ Below w.heap.size w w' := by
  unfold maxLen at hl
  obtain ⟨c0, c1, c2, c3, c4, c5, hp⟩ := hF
  have hz : ((s.size : Int) == 0) = false := beq_eq_false_iff_ne.2 (by omega)
  have hq : (s[0].toNat : Int) / 64 = 0 := by omega
  have ho := or_zero (s[0].toNat : Int) (by omega) (by omega)
  have hs : ¬ (s.size : Int) < 1 := by omega
  go_enter Tryd.func66, Tryd.ntmps66
  go_wp2
  refine wp_loop_rounds 2 ?_
  rw [rounds_succ]; go_wp2
  rw [rounds_succ]; go_wp2
  go_quiet (fail)
  go_wp2
  go_ret3
  exact ⟨rfl, below_drewN (Below.refl _ _) _⟩

set_option maxRecDepth 100000 in
set_option maxHeartbeats 1000000 in
theorem get_1 (s : ByteArray) (w : World) (hF : Forms w) (hl : s.size ≤ maxLen) (h : 1 < s.size) (hb0 : (64 : Int) ≤ (s[0].toNat : Int)) (hb1 : (s[0].toNat : Int) < 128) (hn : (64 : Int) ≤ ((s[0].toNat : Int) * (256 : Int) + (s[1].toNat : Int) - (16384 : Int))) :
    Calls Tryd.prog 66 #[.string s] w fun e w' => e = .returned (.tuple #[.int .i64 ((s[0].toNat : Int) * (256 : Int) + (s[1].toNat : Int) - (16384 : Int)), .int .i64 2, .nilIface]) ∧ Below w.heap.size w w' := by
  unfold maxLen at hl
  obtain ⟨c0, c1, c2, c3, c4, c5, hp⟩ := hF
  have hz : ((s.size : Int) == 0) = false := beq_eq_false_iff_ne.2 (by omega)
  have hq : (s[0].toNat : Int) / 64 = 1 := by omega
  have v1 : (s[1].toNat : Int) < 256 := by have := s[1].toNat_lt; omega
  have ho := or_zero (s[0].toNat : Int) (by omega) (by omega)
  have ho1 := or_byte (s[0].toNat : Int) (s[1].toNat : Int) (by omega) (by omega) (by omega) v1
  have hs : ¬ (s.size : Int) < 2 := by omega
  go_enter Tryd.func66, Tryd.ntmps66
  go_wp2
  refine wp_loop_rounds 3 ?_
  rw [rounds_succ]; go_wp2
  rw [rounds_succ]; go_wp2
  rw [rounds_succ]; go_wp2
  go_quiet (fail)
  go_wp2
  go_ret3
  exact ⟨rfl, below_drewN (Below.refl _ _) _⟩

set_option maxRecDepth 100000 in
set_option maxHeartbeats 1000000 in
theorem get_1no (s : ByteArray) (w : World) (hF : Forms w) (hl : s.size ≤ maxLen) (h : 1 < s.size) (hb0 : (64 : Int) ≤ (s[0].toNat : Int)) (hb1 : (s[0].toNat : Int) < 128) (hn : ((s[0].toNat : Int) * (256 : Int) + (s[1].toNat : Int) - (16384 : Int)) < 64) :
    Calls Tryd.prog 66 #[.string s] w fun e w' => e = .returned (.tuple #[.int .i64 0, .int .i64 0, .iface 48 (.int .i64 2)]) ∧ Below w.heap.size w w' := by
  unfold maxLen at hl
  obtain ⟨c0, c1, c2, c3, c4, c5, hp⟩ := hF
  have hz : ((s.size : Int) == 0) = false := beq_eq_false_iff_ne.2 (by omega)
  have hq : (s[0].toNat : Int) / 64 = 1 := by omega
  have v1 : (s[1].toNat : Int) < 256 := by have := s[1].toNat_lt; omega
  have ho := or_zero (s[0].toNat : Int) (by omega) (by omega)
  have ho1 := or_byte (s[0].toNat : Int) (s[1].toNat : Int) (by omega) (by omega) (by omega) v1
  have hs : ¬ (s.size : Int) < 2 := by omega
  go_enter Tryd.func66, Tryd.ntmps66
  go_wp2
  refine wp_loop_rounds 3 ?_
  rw [rounds_succ]; go_wp2
  rw [rounds_succ]; go_wp2
  rw [rounds_succ]; go_wp2
  go_ret3
  exact ⟨rfl, Below.refl _ _⟩

set_option maxRecDepth 100000 in
set_option maxHeartbeats 1000000 in
theorem get_2 (s : ByteArray) (w : World) (hF : Forms w) (hl : s.size ≤ maxLen) (h : 3 < s.size) (hb0 : (128 : Int) ≤ (s[0].toNat : Int)) (hb1 : (s[0].toNat : Int) < 192) (hn : (16384 : Int) ≤ ((((s[0].toNat : Int) * (256 : Int) + (s[1].toNat : Int)) * (256 : Int) + (s[2].toNat : Int)) * (256 : Int) + (s[3].toNat : Int) - (2147483648 : Int))) :
    Calls Tryd.prog 66 #[.string s] w fun e w' => e = .returned (.tuple #[.int .i64 ((((s[0].toNat : Int) * (256 : Int) + (s[1].toNat : Int)) * (256 : Int) + (s[2].toNat : Int)) * (256 : Int) + (s[3].toNat : Int) - (2147483648 : Int)), .int .i64 4, .nilIface]) ∧ Below w.heap.size w w' := by
  unfold maxLen at hl
  obtain ⟨c0, c1, c2, c3, c4, c5, hp⟩ := hF
  have hz : ((s.size : Int) == 0) = false := beq_eq_false_iff_ne.2 (by omega)
  have hq : (s[0].toNat : Int) / 64 = 2 := by omega
  have v1 : (s[1].toNat : Int) < 256 := by have := s[1].toNat_lt; omega
  have v2 : (s[2].toNat : Int) < 256 := by have := s[2].toNat_lt; omega
  have v3 : (s[3].toNat : Int) < 256 := by have := s[3].toNat_lt; omega
  have ho := or_zero (s[0].toNat : Int) (by omega) (by omega)
  have ho1 := or_byte (s[0].toNat : Int) (s[1].toNat : Int) (by omega) (by omega) (by omega) v1
  have ho2 := or_byte ((s[0].toNat : Int) * (256 : Int) + (s[1].toNat : Int)) (s[2].toNat : Int) (by omega) (by omega) (by omega) v2
  have ho3 := or_byte (((s[0].toNat : Int) * (256 : Int) + (s[1].toNat : Int)) * (256 : Int) + (s[2].toNat : Int)) (s[3].toNat : Int) (by omega) (by omega) (by omega) v3
  have hs : ¬ (s.size : Int) < 4 := by omega
  go_enter Tryd.func66, Tryd.ntmps66
  go_wp2
  refine wp_loop_rounds 5 ?_
  rw [rounds_succ]; go_wp2
  rw [rounds_succ]; go_wp2
  rw [rounds_succ]; go_wp2
  rw [rounds_succ]; go_wp2
  rw [rounds_succ]; go_wp2
  go_quiet (fail)
  go_wp2
  go_ret3
  exact ⟨rfl, below_drewN (Below.refl _ _) _⟩

set_option maxRecDepth 100000 in
set_option maxHeartbeats 1000000 in
theorem get_2no (s : ByteArray) (w : World) (hF : Forms w) (hl : s.size ≤ maxLen) (h : 3 < s.size) (hb0 : (128 : Int) ≤ (s[0].toNat : Int)) (hb1 : (s[0].toNat : Int) < 192) (hn : ((((s[0].toNat : Int) * (256 : Int) + (s[1].toNat : Int)) * (256 : Int) + (s[2].toNat : Int)) * (256 : Int) + (s[3].toNat : Int) - (2147483648 : Int)) < 16384) :
    Calls Tryd.prog 66 #[.string s] w fun e w' => e = .returned (.tuple #[.int .i64 0, .int .i64 0, .iface 48 (.int .i64 2)]) ∧ Below w.heap.size w w' := by
  unfold maxLen at hl
  obtain ⟨c0, c1, c2, c3, c4, c5, hp⟩ := hF
  have hz : ((s.size : Int) == 0) = false := beq_eq_false_iff_ne.2 (by omega)
  have hq : (s[0].toNat : Int) / 64 = 2 := by omega
  have v1 : (s[1].toNat : Int) < 256 := by have := s[1].toNat_lt; omega
  have v2 : (s[2].toNat : Int) < 256 := by have := s[2].toNat_lt; omega
  have v3 : (s[3].toNat : Int) < 256 := by have := s[3].toNat_lt; omega
  have ho := or_zero (s[0].toNat : Int) (by omega) (by omega)
  have ho1 := or_byte (s[0].toNat : Int) (s[1].toNat : Int) (by omega) (by omega) (by omega) v1
  have ho2 := or_byte ((s[0].toNat : Int) * (256 : Int) + (s[1].toNat : Int)) (s[2].toNat : Int) (by omega) (by omega) (by omega) v2
  have ho3 := or_byte (((s[0].toNat : Int) * (256 : Int) + (s[1].toNat : Int)) * (256 : Int) + (s[2].toNat : Int)) (s[3].toNat : Int) (by omega) (by omega) (by omega) v3
  have hs : ¬ (s.size : Int) < 4 := by omega
  go_enter Tryd.func66, Tryd.ntmps66
  go_wp2
  refine wp_loop_rounds 5 ?_
  rw [rounds_succ]; go_wp2
  rw [rounds_succ]; go_wp2
  rw [rounds_succ]; go_wp2
  rw [rounds_succ]; go_wp2
  rw [rounds_succ]; go_wp2
  go_ret3
  exact ⟨rfl, Below.refl _ _⟩

end Go.Proofs.YtjpdembofiadbaaDoor.V
