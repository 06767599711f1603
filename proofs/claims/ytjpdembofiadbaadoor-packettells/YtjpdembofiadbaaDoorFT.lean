/- What the document's Frame answers. -/
import Derived.Test.YtjpdembofiadbaaDoorFR
import Derived.Test.YtjpdembofiadbaaDoorFD
import Derived.Test.YtjpdembofiadbaaDoorFJ
import Derived.Test.YtjpdembofiadbaaDoorI
import Derived.Test.YtjpdembofiadbaaDoorVM
namespace Go.Proofs.YtjpdembofiadbaaDoor
open Go.RowKit Go.Lib Go.Sort
set_option linter.unusedVariables false
set_option linter.unusedSimpArgs false
set_option linter.unusedSimpArgs false

def ackF (r : Int) : Int := if r = 0 then 0 else 3
set_option maxRecDepth 100000 in
set_option maxHeartbeats 4000000 in
theorem df_1a (k : Int) (ao : Option Addr) (n c : Nat) (d : ByteArray) (ns : List Int) (w : World) (hR0 : IRow w (.slice ao n c) ns) (hn : ns.length = n) (hd : d.size ≤ maxLen) (h : k < 1) :
    Calls Tryd.prog 15 #[.agg #[.int .i64 k, .slice ao n c, .string d]] w fun e w' => e = .returned (.int .i64 1) ∧ Below w.heap.size w w' := by
  unfold maxLen at hd
  have hl : n ≤ 9223372036854775807 := by obtain ⟨_, _, _, h, _⟩ := hR0; omega
  have bel : Below w.heap.size w (w.alloc (.cells #[.int .i64 k, .slice ao n c, .string d] 38)) := (Below.refl _ w).alloc (Nat.le_refl _) _
  go_enter Tryd.func15, Tryd.ntmps15
  go_wp2_with fail
  go_ret
  exact ⟨rfl, bel⟩

set_option maxRecDepth 100000 in
set_option maxHeartbeats 4000000 in
theorem df_1b (k : Int) (ao : Option Addr) (n c : Nat) (d : ByteArray) (ns : List Int) (w : World) (hR0 : IRow w (.slice ao n c) ns) (hn : ns.length = n) (hd : d.size ≤ maxLen) (h : 8 < k) :
    Calls Tryd.prog 15 #[.agg #[.int .i64 k, .slice ao n c, .string d]] w fun e w' => e = .returned (.int .i64 1) ∧ Below w.heap.size w w' := by
  unfold maxLen at hd
  have hl : n ≤ 9223372036854775807 := by obtain ⟨_, _, _, h, _⟩ := hR0; omega
  have bel : Below w.heap.size w (w.alloc (.cells #[.int .i64 k, .slice ao n c, .string d] 38)) := (Below.refl _ w).alloc (Nat.le_refl _) _
  have hk1 : ¬ k < 1 := by omega
  go_enter Tryd.func15, Tryd.ntmps15
  go_wp2_with fail
  go_ret
  exact ⟨rfl, bel⟩

set_option maxRecDepth 100000 in
set_option maxHeartbeats 4000000 in
theorem df_2o (k : Int) (ao : Option Addr) (n c : Nat) (d : ByteArray) (ns : List Int) (w : World) (hR0 : IRow w (.slice ao n c) ns) (hn : ns.length = n) (hd : d.size ≤ maxLen) (h1 : kindB k = true) (h2 : k ≠ 2) (hc : cntB k n = false) :
    Calls Tryd.prog 15 #[.agg #[.int .i64 k, .slice ao n c, .string d]] w fun e w' => e = .returned (.int .i64 3) ∧ Below w.heap.size w w' := by
  unfold maxLen at hd
  have hl : n ≤ 9223372036854775807 := by obtain ⟨_, _, _, h, _⟩ := hR0; omega
  have bel : Below w.heap.size w (w.alloc (.cells #[.int .i64 k, .slice ao n c, .string d] 38)) := (Below.refl _ w).alloc (Nat.le_refl _) _
  have hk := (kindB_iff k).1 h1
  have hk8 : ¬ 8 < k := by omega
  have hk1 : ¬ k < 1 := by omega
  have HC := dcounts_calls k
  rw [show cntD k = ((cntK k : Nat) : Int) by unfold cntD cntK; simp only [h2]; repeat' split <;> simp_all] at HC
  have hk2 : ¬ k = 2 := h2
  have hne : ¬ n = cntK k := by simpa [cntB, hk2] using hc
  generalize cntK k = q at *
  have gq : ¬ (n : Int) = (q : Int) := by omega
  clear h1 h2 hc hk hne hR0 hn
  go_enter Tryd.func15, Tryd.ntmps15
  go_wp2_with (first | (go_at_call 25; refine (HC _).mono ?_; rintro e w1 ⟨rfl, rfl⟩))
  go_ret
  exact ⟨rfl, bel⟩

set_option maxRecDepth 100000 in
set_option maxHeartbeats 4000000 in
theorem df_2z (ao : Option Addr) (n c : Nat) (d : ByteArray) (ns : List Int) (w : World) (hR0 : IRow w (.slice ao n c) ns) (hn : ns.length = n) (hd : d.size ≤ maxLen) (hc : n = 0) :
    Calls Tryd.prog 15 #[.agg #[.int .i64 2, .slice ao n c, .string d]] w fun e w' => e = .returned (.int .i64 3) ∧ Below w.heap.size w w' := by
  unfold maxLen at hd
  have hl : n ≤ 9223372036854775807 := by obtain ⟨_, _, _, h, _⟩ := hR0; omega
  have bel : Below w.heap.size w (w.alloc (.cells #[.int .i64 2, .slice ao n c, .string d] 38)) := (Below.refl _ w).alloc (Nat.le_refl _) _
  have HC := dcounts_calls 2
  subst hc
  clear hR0 hn
  go_enter Tryd.func15, Tryd.ntmps15
  go_wp2_with (first | (go_at_call 25; refine (HC _).mono ?_; rintro e w1 ⟨rfl, rfl⟩))
  go_ret
  exact ⟨rfl, bel⟩

set_option maxRecDepth 100000 in
set_option maxHeartbeats 4000000 in
theorem df_2m (ao : Option Addr) (n c : Nat) (d : ByteArray) (ns : List Int) (w : World) (hR0 : IRow w (.slice ao n c) ns) (hn : ns.length = n) (hd : d.size ≤ maxLen) (hc : n ≠ 0) (hc2 : n % 2 = 1) :
    Calls Tryd.prog 15 #[.agg #[.int .i64 2, .slice ao n c, .string d]] w fun e w' => e = .returned (.int .i64 3) ∧ Below w.heap.size w w' := by
  unfold maxLen at hd
  have hl : n ≤ 9223372036854775807 := by obtain ⟨_, _, _, h, _⟩ := hR0; omega
  have bel : Below w.heap.size w (w.alloc (.cells #[.int .i64 2, .slice ao n c, .string d] 38)) := (Below.refl _ w).alloc (Nat.le_refl _) _
  have HC := dcounts_calls 2
  have gz : ¬ (n : Int) = 0 := by omega
  have gm : (n : Int).tmod 2 = 1 := by rw [Int.tmod_eq_emod_of_nonneg (by omega)]; omega
  clear hR0 hn hc hc2
  go_enter Tryd.func15, Tryd.ntmps15
  go_wp2_with (first | (go_at_call 25; refine (HC _).mono ?_; rintro e w1 ⟨rfl, rfl⟩))
  go_ret
  exact ⟨rfl, bel⟩

set_option maxRecDepth 100000 in
set_option maxHeartbeats 4000000 in
theorem df_2b (ao : Option Addr) (n c : Nat) (d : ByteArray) (ns : List Int) (w : World) (hR0 : IRow w (.slice ao n c) ns) (hn : ns.length = n) (hd : d.size ≤ maxLen) (hc : n ≠ 0) (hc2 : n % 2 = 0) (hc3 : 24 < n) :
    Calls Tryd.prog 15 #[.agg #[.int .i64 2, .slice ao n c, .string d]] w fun e w' => e = .returned (.int .i64 3) ∧ Below w.heap.size w w' := by
  unfold maxLen at hd
  have hl : n ≤ 9223372036854775807 := by obtain ⟨_, _, _, h, _⟩ := hR0; omega
  have bel : Below w.heap.size w (w.alloc (.cells #[.int .i64 2, .slice ao n c, .string d] 38)) := (Below.refl _ w).alloc (Nat.le_refl _) _
  have HC := dcounts_calls 2
  have gz : ¬ (n : Int) = 0 := by omega
  have gm : (n : Int).tmod 2 = 0 := by rw [Int.tmod_eq_emod_of_nonneg (by omega)]; omega
  have g24 : (24 : Int) < (n : Int) := by omega
  clear hR0 hn hc hc2
  go_enter Tryd.func15, Tryd.ntmps15
  go_wp2_with (first | (go_at_call 25; refine (HC _).mono ?_; rintro e w1 ⟨rfl, rfl⟩))
  go_ret
  exact ⟨rfl, bel⟩

set_option maxRecDepth 100000 in
set_option maxHeartbeats 4000000 in
theorem df_3o (k : Int) (ao : Option Addr) (n c : Nat) (d : ByteArray) (ns : List Int) (w : World) (hR0 : IRow w (.slice ao n c) ns) (hn : ns.length = n) (hd : d.size ≤ maxLen) (h1 : kindB k = true) (h2 : k ≠ 2) (h3 : k ≠ 3) (hc : cntB k n = true) (h0 : d.size ≠ 0) :
    Calls Tryd.prog 15 #[.agg #[.int .i64 k, .slice ao n c, .string d]] w fun e w' => e = .returned (.int .i64 3) ∧ Below w.heap.size w w' := by
  unfold maxLen at hd
  have hl : n ≤ 9223372036854775807 := by obtain ⟨_, _, _, h, _⟩ := hR0; omega
  have bel : Below w.heap.size w (w.alloc (.cells #[.int .i64 k, .slice ao n c, .string d] 38)) := (Below.refl _ w).alloc (Nat.le_refl _) _
  have hk := (kindB_iff k).1 h1
  have hk8 : ¬ 8 < k := by omega
  have hk1 : ¬ k < 1 := by omega
  have hk3 : ¬ k = 3 := h3
  have HC := dcounts_calls k
  rw [show cntD k = ((cntK k : Nat) : Int) by unfold cntD cntK; simp only [h2]; repeat' split <;> simp_all] at HC
  have hk2 : ¬ k = 2 := h2
  rw [show cntK k = n by simp [cntB, hk2] at hc; omega] at HC
  have hne := str_ne h0
  clear hc h1 h2 hk hR0 hn
  go_enter Tryd.func15, Tryd.ntmps15
  go_wp2_with (first | (go_at_call 25; refine (HC _).mono ?_; rintro e w1 ⟨rfl, rfl⟩))
  go_ret
  exact ⟨by first | rfl | simp, bel⟩

set_option maxRecDepth 100000 in
set_option maxHeartbeats 4000000 in
theorem df_3a (ao : Option Addr) (n c : Nat) (d : ByteArray) (ns : List Int) (w : World) (hR0 : IRow w (.slice ao n c) ns) (hn : ns.length = n) (hd : d.size ≤ maxLen) (M : Nat) (hM : n = 2 * M) (hM1 : 1 ≤ M) (hM12 : M ≤ 12) (h0 : d.size ≠ 0) :
    Calls Tryd.prog 15 #[.agg #[.int .i64 2, .slice ao n c, .string d]] w fun e w' => e = .returned (.int .i64 3) ∧ Below w.heap.size w w' := by
  unfold maxLen at hd
  have hl : n ≤ 9223372036854775807 := by obtain ⟨_, _, _, h, _⟩ := hR0; omega
  have bel : Below w.heap.size w (w.alloc (.cells #[.int .i64 2, .slice ao n c, .string d] 38)) := (Below.refl _ w).alloc (Nat.le_refl _) _
  have HC := dcounts_calls 2
  have gz : ¬ (n : Int) = 0 := by omega
  have gz' : ((n : Int) == 0) = false := by simp; omega
  have g24 : ¬ (24 : Int) < (n : Int) := by omega
  have gm : (n : Int).tmod 2 = 0 := by rw [Int.tmod_eq_emod_of_nonneg (by omega)]; omega
  have hne := str_ne h0
  clear hM hR0 hn
  go_enter Tryd.func15, Tryd.ntmps15
  go_wp2_with (first | (go_at_call 25; refine (HC _).mono ?_; rintro e w1 ⟨rfl, rfl⟩))
  go_ret
  exact ⟨by first | rfl | simp, bel⟩

set_option maxRecDepth 100000 in
set_option maxHeartbeats 4000000 in
theorem df_4o (k : Int) (ao : Option Addr) (n c : Nat) (ns : List Int) (w : World) (hR0 : IRow w (.slice ao n c) ns) (hn : ns.length = n) (h1 : kindB k = true) (h2 : k ≠ 2) (h3 : k ≠ 3) (hc : cntB k n = true) (h4 : anyB ns = true) :
    Calls Tryd.prog 15 #[.agg #[.int .i64 k, .slice ao n c, .string { data := #[] }]] w fun e w' => e = .returned (.int .i64 1) ∧ Below w.heap.size w w' := by
  skip
  have hl : n ≤ 9223372036854775807 := by obtain ⟨_, _, _, h, _⟩ := hR0; omega
  have bel : Below w.heap.size w (w.alloc (.cells #[.int .i64 k, .slice ao n c, .string { data := #[] }] 38)) := (Below.refl _ w).alloc (Nat.le_refl _) _
  have hk := (kindB_iff k).1 h1
  have hk8 : ¬ 8 < k := by omega
  have hk1 : ¬ k < 1 := by omega
  have hk3 : ¬ k = 3 := h3
  have HC := dcounts_calls k
  rw [show cntD k = ((cntK k : Nat) : Int) by unfold cntD cntK; simp only [h2]; repeat' split <;> simp_all] at HC
  have hk2 : ¬ k = 2 := h2
  rw [show cntK k = n by simp [cntB, hk2] at hc; omega] at HC
  have HR : Hid (IRow w (.slice ao n c) ns) := hR0
  have HN : Hid (ns.length = n) := hn
  clear hR0 hn
  clear hc h1 h2 hk
  go_enter Tryd.func15, Tryd.ntmps15
  go_wp2_with (first | (go_at_call 25; refine (HC _).mono ?_; rintro e w1 ⟨rfl, rfl⟩))
  have bx : FBox (w.alloc (.cells #[.int .i64 k, .slice ao n c, .string { data := #[] }] 38)) w.heap.size k (.slice ao n c) { data := #[] } := FBox.new w k _ _
  generalize (w.alloc (.cells #[.int .i64 k, .slice ao n c, .string { data := #[] }] 38)) = W1 at *
  have f0 := bx.c0
  have f1 := bx.c1
  have f2 := bx.c2
  go_loopw [5] (fun i wr => ∃ j : Nat, j ≤ n ∧ i = .int .i64 (j : Int) ∧ wr = W1 ∧ Hid (∀ q, q < j → V.mayB (ns[q]?.getD 0) = true)) (fun i _ => n - (intOf i).toNat)
  case atStart => exact ⟨0, Nat.zero_le _, rfl, rfl, fun q hq => absurd hq (Nat.not_lt_zero _)⟩
  case round =>
    obtain ⟨j, hj, rfl, rfl, HA⟩ := hrel
    by_cases hlt : j < n
    · have g1 : (j : Int) < (n : Int) := by omega
      have hjl : j < ns.length := by have := HN.out; omega
      obtain ⟨b, off, rfl, hb, hC⟩ : ∃ b off, ao = some ⟨b, off, none⟩ ∧ b < w.heap.size ∧ ICells w b off ns := by
        obtain ⟨a', c', e', _, _, hz⟩ := HR.out
        injection e' with e1 _ _
        subst e1
        rcases hz with h | h
        · rw [h] at hjl; simp at hjl
        · exact h
      have z0 := hC.below hb bel j hjl
      generalize hy : ns[j]?.getD 0 = y at *
      have HY : Hid (ns[j]?.getD 0 = y) := hy
      clear hy hC
      have gj0 : (0 : Int) ≤ (j : Int) := by omega
      cases hm : V.mayB y with
      | true =>
        have HM := V.may_ref y wr
        rw [hm] at HM
        go_wp2_with (first | (go_at_call 12; refine HM.mono ?_; rintro e w2 ⟨rfl, rfl⟩))
        refine ⟨⟨j + 1, by omega, by go_num, by first | rfl | trivial, (show Hid _ from fun q hq => ?_)⟩, by simp [intOf]; omega⟩
        by_cases e : q = j
        · subst e; rw [HY.out]; exact hm
        · exact HA.out q (by omega)
      | false =>
        have HM := V.may_ref y wr
        rw [hm] at HM
        go_wp2_with (first | (go_at_call 12; refine HM.mono ?_; rintro e w2 ⟨rfl, rfl⟩))
        go_ret
        exact ⟨rfl, bel⟩
    · obtain rfl : j = n := by omega
      have g1 : ¬ (j : Int) < (j : Int) := by omega
      exfalso
      obtain ⟨q, hq, hq2⟩ := any_ints.1 h4
      rw [HA.out q (by have := HN.out; omega)] at hq2
      cases hq2
set_option maxRecDepth 100000 in
set_option maxHeartbeats 4000000 in
theorem df_4s (ao : Option Addr) (n c : Nat) (d : ByteArray) (ns : List Int) (w : World) (hR0 : IRow w (.slice ao n c) ns) (hn : ns.length = n) (hd : d.size ≤ maxLen) (hc : n = 1) (h4 : anyB ns = true) :
    Calls Tryd.prog 15 #[.agg #[.int .i64 3, .slice ao n c, .string d]] w fun e w' => e = .returned (.int .i64 1) ∧ Below w.heap.size w w' := by
  unfold maxLen at hd
  have hl : n ≤ 9223372036854775807 := by obtain ⟨_, _, _, h, _⟩ := hR0; omega
  have bel : Below w.heap.size w (w.alloc (.cells #[.int .i64 3, .slice ao n c, .string d] 38)) := (Below.refl _ w).alloc (Nat.le_refl _) _
  have HC := dcounts_calls 3
  rw [show cntD 3 = (n : Int) by rw [hc]; rfl] at HC
  have HR : Hid (IRow w (.slice ao n c) ns) := hR0
  have HN : Hid (ns.length = n) := hn
  clear hR0 hn
  clear hc
  go_enter Tryd.func15, Tryd.ntmps15
  go_wp2_with (first | (go_at_call 25; refine (HC _).mono ?_; rintro e w1 ⟨rfl, rfl⟩))
  have bx : FBox (w.alloc (.cells #[.int .i64 3, .slice ao n c, .string d] 38)) w.heap.size 3 (.slice ao n c) d := FBox.new w 3 _ _
  generalize (w.alloc (.cells #[.int .i64 3, .slice ao n c, .string d] 38)) = W1 at *
  have f0 := bx.c0
  have f1 := bx.c1
  have f2 := bx.c2
  go_loopw [5] (fun i wr => ∃ j : Nat, j ≤ n ∧ i = .int .i64 (j : Int) ∧ wr = W1 ∧ Hid (∀ q, q < j → V.mayB (ns[q]?.getD 0) = true)) (fun i _ => n - (intOf i).toNat)
  case atStart => exact ⟨0, Nat.zero_le _, rfl, rfl, fun q hq => absurd hq (Nat.not_lt_zero _)⟩
  case round =>
    obtain ⟨j, hj, rfl, rfl, HA⟩ := hrel
    by_cases hlt : j < n
    · have g1 : (j : Int) < (n : Int) := by omega
      have hjl : j < ns.length := by have := HN.out; omega
      obtain ⟨b, off, rfl, hb, hC⟩ : ∃ b off, ao = some ⟨b, off, none⟩ ∧ b < w.heap.size ∧ ICells w b off ns := by
        obtain ⟨a', c', e', _, _, hz⟩ := HR.out
        injection e' with e1 _ _
        subst e1
        rcases hz with h | h
        · rw [h] at hjl; simp at hjl
        · exact h
      have z0 := hC.below hb bel j hjl
      generalize hy : ns[j]?.getD 0 = y at *
      have HY : Hid (ns[j]?.getD 0 = y) := hy
      clear hy hC
      have gj0 : (0 : Int) ≤ (j : Int) := by omega
      cases hm : V.mayB y with
      | true =>
        have HM := V.may_ref y wr
        rw [hm] at HM
        go_wp2_with (first | (go_at_call 12; refine HM.mono ?_; rintro e w2 ⟨rfl, rfl⟩))
        refine ⟨⟨j + 1, by omega, by go_num, by first | rfl | trivial, (show Hid _ from fun q hq => ?_)⟩, by simp [intOf]; omega⟩
        by_cases e : q = j
        · subst e; rw [HY.out]; exact hm
        · exact HA.out q (by omega)
      | false =>
        have HM := V.may_ref y wr
        rw [hm] at HM
        go_wp2_with (first | (go_at_call 12; refine HM.mono ?_; rintro e w2 ⟨rfl, rfl⟩))
        go_ret
        exact ⟨rfl, bel⟩
    · obtain rfl : j = n := by omega
      have g1 : ¬ (j : Int) < (j : Int) := by omega
      exfalso
      obtain ⟨q, hq, hq2⟩ := any_ints.1 h4
      rw [HA.out q (by have := HN.out; omega)] at hq2
      cases hq2
set_option maxRecDepth 100000 in
set_option maxHeartbeats 4000000 in
theorem df_4a (ao : Option Addr) (n c : Nat) (ns : List Int) (w : World) (hR0 : IRow w (.slice ao n c) ns) (hn : ns.length = n) (M : Nat) (hM : n = 2 * M) (hM1 : 1 ≤ M) (hM12 : M ≤ 12) (h4 : anyB ns = true) :
    Calls Tryd.prog 15 #[.agg #[.int .i64 2, .slice ao n c, .string { data := #[] }]] w fun e w' => e = .returned (.int .i64 1) ∧ Below w.heap.size w w' := by
  skip
  have hl : n ≤ 9223372036854775807 := by obtain ⟨_, _, _, h, _⟩ := hR0; omega
  have bel : Below w.heap.size w (w.alloc (.cells #[.int .i64 2, .slice ao n c, .string { data := #[] }] 38)) := (Below.refl _ w).alloc (Nat.le_refl _) _
  have HC := dcounts_calls 2
  have gz : ¬ (n : Int) = 0 := by omega
  have gz' : ((n : Int) == 0) = false := by simp; omega
  have g24 : ¬ (24 : Int) < (n : Int) := by omega
  have gm : (n : Int).tmod 2 = 0 := by rw [Int.tmod_eq_emod_of_nonneg (by omega)]; omega
  have HR : Hid (IRow w (.slice ao n c) ns) := hR0
  have HN : Hid (ns.length = n) := hn
  clear hR0 hn
  clear hM
  go_enter Tryd.func15, Tryd.ntmps15
  go_wp2_with (first | (go_at_call 25; refine (HC _).mono ?_; rintro e w1 ⟨rfl, rfl⟩))
  have bx : FBox (w.alloc (.cells #[.int .i64 2, .slice ao n c, .string { data := #[] }] 38)) w.heap.size 2 (.slice ao n c) { data := #[] } := FBox.new w 2 _ _
  generalize (w.alloc (.cells #[.int .i64 2, .slice ao n c, .string { data := #[] }] 38)) = W1 at *
  have f0 := bx.c0
  have f1 := bx.c1
  have f2 := bx.c2
  go_loopw [5] (fun i wr => ∃ j : Nat, j ≤ n ∧ i = .int .i64 (j : Int) ∧ wr = W1 ∧ Hid (∀ q, q < j → V.mayB (ns[q]?.getD 0) = true)) (fun i _ => n - (intOf i).toNat)
  case atStart => exact ⟨0, Nat.zero_le _, rfl, rfl, fun q hq => absurd hq (Nat.not_lt_zero _)⟩
  case round =>
    obtain ⟨j, hj, rfl, rfl, HA⟩ := hrel
    by_cases hlt : j < n
    · have g1 : (j : Int) < (n : Int) := by omega
      have hjl : j < ns.length := by have := HN.out; omega
      obtain ⟨b, off, rfl, hb, hC⟩ : ∃ b off, ao = some ⟨b, off, none⟩ ∧ b < w.heap.size ∧ ICells w b off ns := by
        obtain ⟨a', c', e', _, _, hz⟩ := HR.out
        injection e' with e1 _ _
        subst e1
        rcases hz with h | h
        · rw [h] at hjl; simp at hjl
        · exact h
      have z0 := hC.below hb bel j hjl
      generalize hy : ns[j]?.getD 0 = y at *
      have HY : Hid (ns[j]?.getD 0 = y) := hy
      clear hy hC
      have gj0 : (0 : Int) ≤ (j : Int) := by omega
      cases hm : V.mayB y with
      | true =>
        have HM := V.may_ref y wr
        rw [hm] at HM
        go_wp2_with (first | (go_at_call 12; refine HM.mono ?_; rintro e w2 ⟨rfl, rfl⟩))
        refine ⟨⟨j + 1, by omega, by go_num, by first | rfl | trivial, (show Hid _ from fun q hq => ?_)⟩, by simp [intOf]; omega⟩
        by_cases e : q = j
        · subst e; rw [HY.out]; exact hm
        · exact HA.out q (by omega)
      | false =>
        have HM := V.may_ref y wr
        rw [hm] at HM
        go_wp2_with (first | (go_at_call 12; refine HM.mono ?_; rintro e w2 ⟨rfl, rfl⟩))
        go_ret
        exact ⟨rfl, bel⟩
    · obtain rfl : j = n := by omega
      have g1 : ¬ (j : Int) < (j : Int) := by omega
      exfalso
      obtain ⟨q, hq, hq2⟩ := any_ints.1 h4
      rw [HA.out q (by have := HN.out; omega)] at hq2
      cases hq2
set_option maxRecDepth 100000 in
set_option maxHeartbeats 4000000 in
theorem df_5s (ao : Option Addr) (n c : Nat) (d : ByteArray) (ns : List Int) (w : World) (hR0 : IRow w (.slice ao n c) ns) (hn : ns.length = n) (hd : d.size ≤ maxLen) (hc : n = 1) (h4 : anyB ns = false) (h5 : 20 < d.size) :
    Calls Tryd.prog 15 #[.agg #[.int .i64 3, .slice ao n c, .string d]] w fun e w' => e = .returned (.int .i64 4) ∧ Below w.heap.size w w' := by
  unfold maxLen at hd
  have hl : n ≤ 9223372036854775807 := by obtain ⟨_, _, _, h, _⟩ := hR0; omega
  have bel : Below w.heap.size w (w.alloc (.cells #[.int .i64 3, .slice ao n c, .string d] 38)) := (Below.refl _ w).alloc (Nat.le_refl _) _
  have HC := dcounts_calls 3
  rw [show cntD 3 = (n : Int) by rw [hc]; rfl] at HC
  have HR : Hid (IRow w (.slice ao n c) ns) := hR0
  have HN : Hid (ns.length = n) := hn
  clear hR0 hn
  clear hc
  have g5 : (20 : Int) < (d.size : Int) := by omega
  go_enter Tryd.func15, Tryd.ntmps15
  go_wp2_with (first | (go_at_call 25; refine (HC _).mono ?_; rintro e w1 ⟨rfl, rfl⟩))
  have bx : FBox (w.alloc (.cells #[.int .i64 3, .slice ao n c, .string d] 38)) w.heap.size 3 (.slice ao n c) d := FBox.new w 3 _ _
  generalize (w.alloc (.cells #[.int .i64 3, .slice ao n c, .string d] 38)) = W1 at *
  have f0 := bx.c0
  have f1 := bx.c1
  have f2 := bx.c2
  go_loopw [5] (fun i wr => ∃ j : Nat, j ≤ n ∧ i = .int .i64 (j : Int) ∧ wr = W1 ∧ Hid (∀ q, q < j → V.mayB (ns[q]?.getD 0) = true)) (fun i _ => n - (intOf i).toNat)
  case atStart => exact ⟨0, Nat.zero_le _, rfl, rfl, fun q hq => absurd hq (Nat.not_lt_zero _)⟩
  case round =>
    obtain ⟨j, hj, rfl, rfl, HA⟩ := hrel
    by_cases hlt : j < n
    · have g1 : (j : Int) < (n : Int) := by omega
      have hjl : j < ns.length := by have := HN.out; omega
      obtain ⟨b, off, rfl, hb, hC⟩ : ∃ b off, ao = some ⟨b, off, none⟩ ∧ b < w.heap.size ∧ ICells w b off ns := by
        obtain ⟨a', c', e', _, _, hz⟩ := HR.out
        injection e' with e1 _ _
        subst e1
        rcases hz with h | h
        · rw [h] at hjl; simp at hjl
        · exact h
      have z0 := hC.below hb bel j hjl
      generalize hy : ns[j]?.getD 0 = y at *
      have HY : Hid (ns[j]?.getD 0 = y) := hy
      clear hy hC
      have gj0 : (0 : Int) ≤ (j : Int) := by omega
      cases hm : V.mayB y with
      | true =>
        have HM := V.may_ref y wr
        rw [hm] at HM
        go_wp2_with (first | (go_at_call 12; refine HM.mono ?_; rintro e w2 ⟨rfl, rfl⟩))
        refine ⟨⟨j + 1, by omega, by go_num, by first | rfl | trivial, (show Hid _ from fun q hq => ?_)⟩, by simp [intOf]; omega⟩
        by_cases e : q = j
        · subst e; rw [HY.out]; exact hm
        · exact HA.out q (by omega)
      | false =>
        exfalso
        have := any_ints.2 ⟨j, hjl, by rw [HY.out]; exact hm⟩
        rw [h4] at this
        cases this
    · obtain rfl : j = n := by omega
      have g1 : ¬ (j : Int) < (j : Int) := by omega
      clear HA
      go_wp2_with fail
      go_ret
      exact ⟨rfl, bel⟩
set_option maxRecDepth 100000 in
set_option maxHeartbeats 4000000 in
theorem df_6s (ao : Option Addr) (n c : Nat) (d : ByteArray) (ns : List Int) (w : World) (hR0 : IRow w (.slice ao n c) ns) (hn : ns.length = n) (hd : d.size ≤ maxLen) (hc : n = 1) (h4 : anyB ns = false) (h5 : d.size ≤ 20) :
    Calls Tryd.prog 15 #[.agg #[.int .i64 3, .slice ao n c, .string d]] w fun e w' => e = .returned (.int .i64 0) ∧ Below w.heap.size w w' := by
  unfold maxLen at hd
  have hl : n ≤ 9223372036854775807 := by obtain ⟨_, _, _, h, _⟩ := hR0; omega
  have bel : Below w.heap.size w (w.alloc (.cells #[.int .i64 3, .slice ao n c, .string d] 38)) := (Below.refl _ w).alloc (Nat.le_refl _) _
  have HC := dcounts_calls 3
  rw [show cntD 3 = (n : Int) by rw [hc]; rfl] at HC
  have HR : Hid (IRow w (.slice ao n c) ns) := hR0
  have HN : Hid (ns.length = n) := hn
  clear hR0 hn
  clear hc
  have g5 : ¬ (20 : Int) < (d.size : Int) := by omega
  go_enter Tryd.func15, Tryd.ntmps15
  go_wp2_with (first | (go_at_call 25; refine (HC _).mono ?_; rintro e w1 ⟨rfl, rfl⟩))
  have bx : FBox (w.alloc (.cells #[.int .i64 3, .slice ao n c, .string d] 38)) w.heap.size 3 (.slice ao n c) d := FBox.new w 3 _ _
  generalize (w.alloc (.cells #[.int .i64 3, .slice ao n c, .string d] 38)) = W1 at *
  have f0 := bx.c0
  have f1 := bx.c1
  have f2 := bx.c2
  go_loopw [5] (fun i wr => ∃ j : Nat, j ≤ n ∧ i = .int .i64 (j : Int) ∧ wr = W1 ∧ Hid (∀ q, q < j → V.mayB (ns[q]?.getD 0) = true)) (fun i _ => n - (intOf i).toNat)
  case atStart => exact ⟨0, Nat.zero_le _, rfl, rfl, fun q hq => absurd hq (Nat.not_lt_zero _)⟩
  case round =>
    obtain ⟨j, hj, rfl, rfl, HA⟩ := hrel
    by_cases hlt : j < n
    · have g1 : (j : Int) < (n : Int) := by omega
      have hjl : j < ns.length := by have := HN.out; omega
      obtain ⟨b, off, rfl, hb, hC⟩ : ∃ b off, ao = some ⟨b, off, none⟩ ∧ b < w.heap.size ∧ ICells w b off ns := by
        obtain ⟨a', c', e', _, _, hz⟩ := HR.out
        injection e' with e1 _ _
        subst e1
        rcases hz with h | h
        · rw [h] at hjl; simp at hjl
        · exact h
      have z0 := hC.below hb bel j hjl
      generalize hy : ns[j]?.getD 0 = y at *
      have HY : Hid (ns[j]?.getD 0 = y) := hy
      clear hy hC
      have gj0 : (0 : Int) ≤ (j : Int) := by omega
      cases hm : V.mayB y with
      | true =>
        have HM := V.may_ref y wr
        rw [hm] at HM
        go_wp2_with (first | (go_at_call 12; refine HM.mono ?_; rintro e w2 ⟨rfl, rfl⟩))
        refine ⟨⟨j + 1, by omega, by go_num, by first | rfl | trivial, (show Hid _ from fun q hq => ?_)⟩, by simp [intOf]; omega⟩
        by_cases e : q = j
        · subst e; rw [HY.out]; exact hm
        · exact HA.out q (by omega)
      | false =>
        exfalso
        have := any_ints.2 ⟨j, hjl, by rw [HY.out]; exact hm⟩
        rw [h4] at this
        cases this
    · obtain rfl : j = n := by omega
      have g1 : ¬ (j : Int) < (j : Int) := by omega
      clear HA
      go_wp2_with fail
      go_ret
      exact ⟨rfl, bel⟩
set_option maxRecDepth 100000 in
set_option maxHeartbeats 4000000 in
theorem df_6o (k : Int) (ao : Option Addr) (n c : Nat) (ns : List Int) (w : World) (hR0 : IRow w (.slice ao n c) ns) (hn : ns.length = n) (h1 : kindB k = true) (h2 : k ≠ 2) (h3 : k ≠ 3) (hc : cntB k n = true) (h4 : anyB ns = false) :
    Calls Tryd.prog 15 #[.agg #[.int .i64 k, .slice ao n c, .string { data := #[] }]] w fun e w' => e = .returned (.int .i64 0) ∧ Below w.heap.size w w' := by
  skip
  have hl : n ≤ 9223372036854775807 := by obtain ⟨_, _, _, h, _⟩ := hR0; omega
  have bel : Below w.heap.size w (w.alloc (.cells #[.int .i64 k, .slice ao n c, .string { data := #[] }] 38)) := (Below.refl _ w).alloc (Nat.le_refl _) _
  have hk := (kindB_iff k).1 h1
  have hk8 : ¬ 8 < k := by omega
  have hk1 : ¬ k < 1 := by omega
  have hk3 : ¬ k = 3 := h3
  have HC := dcounts_calls k
  rw [show cntD k = ((cntK k : Nat) : Int) by unfold cntD cntK; simp only [h2]; repeat' split <;> simp_all] at HC
  have hk2 : ¬ k = 2 := h2
  rw [show cntK k = n by simp [cntB, hk2] at hc; omega] at HC
  have HR : Hid (IRow w (.slice ao n c) ns) := hR0
  have HN : Hid (ns.length = n) := hn
  clear hR0 hn
  clear hc h1 h2 hk
  go_enter Tryd.func15, Tryd.ntmps15
  go_wp2_with (first | (go_at_call 25; refine (HC _).mono ?_; rintro e w1 ⟨rfl, rfl⟩))
  have bx : FBox (w.alloc (.cells #[.int .i64 k, .slice ao n c, .string { data := #[] }] 38)) w.heap.size k (.slice ao n c) { data := #[] } := FBox.new w k _ _
  generalize (w.alloc (.cells #[.int .i64 k, .slice ao n c, .string { data := #[] }] 38)) = W1 at *
  have f0 := bx.c0
  have f1 := bx.c1
  have f2 := bx.c2
  go_loopw [5] (fun i wr => ∃ j : Nat, j ≤ n ∧ i = .int .i64 (j : Int) ∧ wr = W1 ∧ Hid (∀ q, q < j → V.mayB (ns[q]?.getD 0) = true)) (fun i _ => n - (intOf i).toNat)
  case atStart => exact ⟨0, Nat.zero_le _, rfl, rfl, fun q hq => absurd hq (Nat.not_lt_zero _)⟩
  case round =>
    obtain ⟨j, hj, rfl, rfl, HA⟩ := hrel
    by_cases hlt : j < n
    · have g1 : (j : Int) < (n : Int) := by omega
      have hjl : j < ns.length := by have := HN.out; omega
      obtain ⟨b, off, rfl, hb, hC⟩ : ∃ b off, ao = some ⟨b, off, none⟩ ∧ b < w.heap.size ∧ ICells w b off ns := by
        obtain ⟨a', c', e', _, _, hz⟩ := HR.out
        injection e' with e1 _ _
        subst e1
        rcases hz with h | h
        · rw [h] at hjl; simp at hjl
        · exact h
      have z0 := hC.below hb bel j hjl
      generalize hy : ns[j]?.getD 0 = y at *
      have HY : Hid (ns[j]?.getD 0 = y) := hy
      clear hy hC
      have gj0 : (0 : Int) ≤ (j : Int) := by omega
      cases hm : V.mayB y with
      | true =>
        have HM := V.may_ref y wr
        rw [hm] at HM
        go_wp2_with (first | (go_at_call 12; refine HM.mono ?_; rintro e w2 ⟨rfl, rfl⟩))
        refine ⟨⟨j + 1, by omega, by go_num, by first | rfl | trivial, (show Hid _ from fun q hq => ?_)⟩, by simp [intOf]; omega⟩
        by_cases e : q = j
        · subst e; rw [HY.out]; exact hm
        · exact HA.out q (by omega)
      | false =>
        exfalso
        have := any_ints.2 ⟨j, hjl, by rw [HY.out]; exact hm⟩
        rw [h4] at this
        cases this
    · obtain rfl : j = n := by omega
      have g1 : ¬ (j : Int) < (j : Int) := by omega
      clear HA
      go_wp2_with fail
      go_ret
      exact ⟨rfl, bel⟩
set_option maxRecDepth 100000 in
set_option maxHeartbeats 4000000 in
theorem df_7a (ao : Option Addr) (n c : Nat) (ns : List Int) (w : World) (hR0 : IRow w (.slice ao n c) ns) (hn : ns.length = n) (M : Nat) (hM : n = 2 * M) (hM1 : 1 ≤ M) (hM12 : M ≤ 12) (h4 : anyB ns = false) :
    Calls Tryd.prog 15 #[.agg #[.int .i64 2, .slice ao n c, .string { data := #[] }]] w fun e w' => e = .returned (.int .i64 (ackF (chk (rgs ns)))) ∧ Below w.heap.size w w' := by
  skip
  have hl : n ≤ 9223372036854775807 := by obtain ⟨_, _, _, h, _⟩ := hR0; omega
  have bel : Below w.heap.size w (w.alloc (.cells #[.int .i64 2, .slice ao n c, .string { data := #[] }] 38)) := (Below.refl _ w).alloc (Nat.le_refl _) _
  have HC := dcounts_calls 2
  have gz : ¬ (n : Int) = 0 := by omega
  have gz' : ((n : Int) == 0) = false := by simp; omega
  have g24 : ¬ (24 : Int) < (n : Int) := by omega
  have gm : (n : Int).tmod 2 = 0 := by rw [Int.tmod_eq_emod_of_nonneg (by omega)]; omega
  have HD := dranges_calls (.slice ao n c) ns M (w.alloc (.cells #[.int .i64 2, .slice ao n c, .string { data := #[] }] 38)) (hR0.below bel) (by omega) hM1 hM12
  have HX0 := fun W v (h : Row W v (rgs ns)) => rranges_calls v (rgs ns) W h
  have HR : Hid (IRow w (.slice ao n c) ns) := hR0
  have HN : Hid (ns.length = n) := hn
  clear hR0 hn
  clear hM
  go_enter Tryd.func15, Tryd.ntmps15
  go_wp2_with (first | (go_at_call 25; refine (HC _).mono ?_; rintro e w1 ⟨rfl, rfl⟩))
  have bx : FBox (w.alloc (.cells #[.int .i64 2, .slice ao n c, .string { data := #[] }] 38)) w.heap.size 2 (.slice ao n c) { data := #[] } := FBox.new w 2 _ _
  generalize (w.alloc (.cells #[.int .i64 2, .slice ao n c, .string { data := #[] }] 38)) = W1 at *
  have f0 := bx.c0
  have f1 := bx.c1
  have f2 := bx.c2
  go_loopw [5] (fun i wr => ∃ j : Nat, j ≤ n ∧ i = .int .i64 (j : Int) ∧ wr = W1 ∧ Hid (∀ q, q < j → V.mayB (ns[q]?.getD 0) = true)) (fun i _ => n - (intOf i).toNat)
  case atStart => exact ⟨0, Nat.zero_le _, rfl, rfl, fun q hq => absurd hq (Nat.not_lt_zero _)⟩
  case round =>
    obtain ⟨j, hj, rfl, rfl, HA⟩ := hrel
    by_cases hlt : j < n
    · have g1 : (j : Int) < (n : Int) := by omega
      have hjl : j < ns.length := by have := HN.out; omega
      obtain ⟨b, off, rfl, hb, hC⟩ : ∃ b off, ao = some ⟨b, off, none⟩ ∧ b < w.heap.size ∧ ICells w b off ns := by
        obtain ⟨a', c', e', _, _, hz⟩ := HR.out
        injection e' with e1 _ _
        subst e1
        rcases hz with h | h
        · rw [h] at hjl; simp at hjl
        · exact h
      have z0 := hC.below hb bel j hjl
      generalize hy : ns[j]?.getD 0 = y at *
      have HY : Hid (ns[j]?.getD 0 = y) := hy
      clear hy hC
      have gj0 : (0 : Int) ≤ (j : Int) := by omega
      cases hm : V.mayB y with
      | true =>
        have HM := V.may_ref y wr
        rw [hm] at HM
        go_wp2_with (first | (go_at_call 12; refine HM.mono ?_; rintro e w2 ⟨rfl, rfl⟩))
        refine ⟨⟨j + 1, by omega, by go_num, by first | rfl | trivial, (show Hid _ from fun q hq => ?_)⟩, by simp [intOf]; omega⟩
        by_cases e : q = j
        · subst e; rw [HY.out]; exact hm
        · exact HA.out q (by omega)
      | false =>
        exfalso
        have := any_ints.2 ⟨j, hjl, by rw [HY.out]; exact hm⟩
        rw [h4] at this
        cases this
    · obtain rfl : j = n := by omega
      have g1 : ¬ (j : Int) < (j : Int) := by omega
      clear HA
      obtain ⟨r, hre⟩ : ∃ r, chk (rgs ns) = r := ⟨_, rfl⟩
      rw [hre] at HX0
      have HRE : Hid (chk (rgs ns) = r) := hre
      clear hre
      go_wp2_with fail
      refine HD.mono ?_
      rintro e w3 ⟨v3, rfl, hR3, hb3⟩
      have hB3 := bel.trans (hb3.mono bel.size)
      have HX := HX0 _ _ hR3
      obtain ⟨a3, c3, hv3, _⟩ := id hR3
      subst hv3
      clear HX0 HD hR3
      by_cases hr : r = 0
      · subst hr
        go_wp2_with (first | (go_at_call 26; refine HX.mono ?_; rintro e w4 ⟨rfl, hb4⟩))
        go_ret
        exact ⟨by rw [HRE.out]; rfl, hB3.trans (hb4.mono hB3.size)⟩
      · go_wp2_with (first | (go_at_call 26; refine HX.mono ?_; rintro e w4 ⟨rfl, hb4⟩))
        go_ret
        exact ⟨by rw [HRE.out, show ackF r = 3 by simp [ackF, hr]]; rfl, hB3.trans (hb4.mono hB3.size)⟩
theorem dframe_calls (k : Int) (v : Value) (d : ByteArray) (ns : List Int) (w : World) (hR : IRow w v ns) (hd : d.size ≤ maxLen) :
    Calls Tryd.prog 15 #[.agg #[.int .i64 k, v, .string d]] w fun e w' => e = .returned (.int .i64 (frF k ns d)) ∧ Below w.heap.size w w' := by
  have hR' := hR
  obtain ⟨ao, c, rfl, _⟩ := hR
  unfold frF
  cases h1 : kindB k with
  | false =>
    rw [if_pos rfl]
    by_cases hk : k < 1
    · exact df_1a k ao _ c d ns w hR' rfl hd hk
    · exact df_1b k ao _ c d ns w hR' rfl hd (by simp [kindB] at h1; omega)
  | true =>
    rw [if_neg (by simp)]
    cases h2 : cntB k ns.length with
    | false =>
      rw [if_pos rfl]
      by_cases e2 : k = 2
      · subst e2
        simp only [cntB, if_true, decide_eq_false_iff_not] at h2
        by_cases z0 : ns.length = 0
        · exact df_2z ao _ c d ns w hR' rfl hd z0
        · by_cases z1 : ns.length % 2 = 1
          · exact df_2m ao _ c d ns w hR' rfl hd z0 z1
          · exact df_2b ao _ c d ns w hR' rfl hd z0 (by omega) (by omega)
      · exact df_2o k ao _ c d ns w hR' rfl hd h1 e2 h2
    | true =>
      rw [if_neg (by simp)]
      by_cases h3 : k = 3
      · subst h3
        rw [if_neg (by simp)]
        have hn : ns.length = 1 := by simpa [cntB, cntK] using h2
        cases h4 : anyB ns with
        | true => rw [if_pos rfl]; exact df_4s ao _ c d ns w hR' rfl hd hn h4
        | false =>
          rw [if_neg (by simp)]
          by_cases h5 : 20 < d.size
          · rw [if_pos h5]; exact df_5s ao _ c d ns w hR' rfl hd hn h4 h5
          · rw [if_neg h5, if_neg (by simp)]; exact df_6s ao _ c d ns w hR' rfl hd hn h4 (by omega)
      · by_cases h0 : d.size = 0
        · obtain rfl := str_nil h0
          rw [if_neg (by simp [h0])]
          by_cases e2 : k = 2
          · subst e2
            obtain ⟨M, hM, hM1, hM12⟩ := cntB_ack h2
            cases h4 : anyB ns with
            | true => rw [if_pos rfl]; exact df_4a ao _ c ns w hR' rfl M hM hM1 hM12 h4
            | false =>
              rw [if_neg (by simp), if_neg (by rw [h0]; omega)]
              refine (df_7a ao _ c ns w hR' rfl M hM hM1 hM12 h4).mono ?_
              rintro e w' ⟨rfl, hb⟩
              refine ⟨?_, hb⟩
              by_cases hr : chk (rgs ns) = 0
              · rw [if_neg (by simp [hr]), hr]; rfl
              · rw [if_pos ⟨rfl, hr⟩, show ackF (chk (rgs ns)) = 3 by simp [ackF, hr]]
          · cases h4 : anyB ns with
            | true => rw [if_pos rfl]; exact df_4o k ao _ c ns w hR' rfl h1 e2 h3 h2 h4
            | false =>
              rw [if_neg (by simp), if_neg (by rw [h0]; omega), if_neg (by simp [e2])]
              exact df_6o k ao _ c ns w hR' rfl h1 e2 h3 h2 h4
        · rw [if_pos ⟨h3, h0⟩]
          by_cases e2 : k = 2
          · subst e2
            obtain ⟨M, hM, hM1, hM12⟩ := cntB_ack h2
            exact df_3a ao _ c d ns w hR' rfl hd M hM hM1 hM12 h0
          · exact df_3o k ao _ c d ns w hR' rfl hd h1 e2 h3 h2 h0
end Go.Proofs.YtjpdembofiadbaaDoor
