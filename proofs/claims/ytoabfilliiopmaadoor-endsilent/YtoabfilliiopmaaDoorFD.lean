/- What Check, printNums and Print answer. -/
import Derived.Test.YtoabfilliiopmaaDoorFC
namespace Go.Proofs.YtoabfilliiopmaaDoor
open Go.RowKit Go.Lib Go.Sort
set_option linter.unusedVariables false
set_option linter.unusedSimpArgs false

set_option maxRecDepth 100000 in
set_option maxHeartbeats 4000000 in
theorem check_1 (k : Int) (ao : Option Addr) (n c : Nat) (d : ByteArray) (ns : List Int) (w : World) (hC0 : Cnts w) (hR0 : IRow w (.slice ao n c) ns) (hn : ns.length = n) (hd : d.size ≤ maxLen) (h1 : kindB k = false) :
    Calls Tryd.prog 43 #[.agg #[.int .i64 k, .slice ao n c, .string d]] w fun e w' => e = .returned (errV 1) ∧ Below w.heap.size w w' := by
  unfold maxLen at hd
  have hl : n ≤ 9223372036854775807 := by obtain ⟨_, _, _, h, _⟩ := hR0; omega
  have bel : Below w.heap.size w (w.alloc (.cells #[.int .i64 k, .slice ao n c, .string d] 33)) := (Below.refl _ w).alloc (Nat.le_refl _) _
  have hlt : w.heap.size < (w.alloc (.cells #[.int .i64 k, .slice ao n c, .string d] 33)).heap.size := by simp
  have HK := isKind_calls k
  rw [h1] at HK
  clear hC0 hR0 hn
  go_enter Tryd.func43, Tryd.ntmps43
  go_wp2_with (first | (go_at_call 31; refine (HK _).mono ?_; rintro e w1 ⟨rfl, rfl⟩))
  go_ret
  exact ⟨rfl, bel⟩

set_option maxRecDepth 100000 in
set_option maxHeartbeats 4000000 in
theorem check_2 (k : Int) (ao : Option Addr) (n c : Nat) (d : ByteArray) (ns : List Int) (w : World) (hC0 : Cnts w) (hR0 : IRow w (.slice ao n c) ns) (hn : ns.length = n) (hd : d.size ≤ maxLen) (h1 : kindB k = true) (h2 : cntB k n = false) :
    Calls Tryd.prog 43 #[.agg #[.int .i64 k, .slice ao n c, .string d]] w fun e w' => e = .returned (errV 3) ∧ Below w.heap.size w w' := by
  unfold maxLen at hd
  have hl : n ≤ 9223372036854775807 := by obtain ⟨_, _, _, h, _⟩ := hR0; omega
  have bel : Below w.heap.size w (w.alloc (.cells #[.int .i64 k, .slice ao n c, .string d] 33)) := (Below.refl _ w).alloc (Nat.le_refl _) _
  have hlt : w.heap.size < (w.alloc (.cells #[.int .i64 k, .slice ao n c, .string d] 33)).heap.size := by simp
  have HK := isKind_calls k
  rw [h1] at HK
  have HC := isCount_calls k n (w.alloc (.cells #[.int .i64 k, .slice ao n c, .string d] 33)) (hC0.below bel) h1 hl
  rw [h2] at HC
  clear hC0 hR0 hn
  go_enter Tryd.func43, Tryd.ntmps43
  go_wp2_with (first | (go_at_call 31; refine (HK _).mono ?_; rintro e w1 ⟨rfl, rfl⟩) | (go_at_call 48; refine HC.mono ?_; rintro e w1 ⟨rfl, rfl⟩))
  go_ret
  exact ⟨rfl, bel⟩

set_option maxRecDepth 100000 in
set_option maxHeartbeats 4000000 in
theorem check_3 (k : Int) (ao : Option Addr) (n c : Nat) (d : ByteArray) (ns : List Int) (w : World) (hC0 : Cnts w) (hR0 : IRow w (.slice ao n c) ns) (hn : ns.length = n) (hd : d.size ≤ maxLen) (h1 : kindB k = true) (h2 : cntB k n = true) (h3 : k ≠ 3) (h3' : d.size ≠ 0) :
    Calls Tryd.prog 43 #[.agg #[.int .i64 k, .slice ao n c, .string d]] w fun e w' => e = .returned (errV 3) ∧ Below w.heap.size w w' := by
  unfold maxLen at hd
  have hl : n ≤ 9223372036854775807 := by obtain ⟨_, _, _, h, _⟩ := hR0; omega
  have bel : Below w.heap.size w (w.alloc (.cells #[.int .i64 k, .slice ao n c, .string d] 33)) := (Below.refl _ w).alloc (Nat.le_refl _) _
  have hlt : w.heap.size < (w.alloc (.cells #[.int .i64 k, .slice ao n c, .string d] 33)).heap.size := by simp
  have HK := isKind_calls k
  rw [h1] at HK
  have HC := isCount_calls k n (w.alloc (.cells #[.int .i64 k, .slice ao n c, .string d] 33)) (hC0.below bel) h1 hl
  rw [h2] at HC
  have hne := str_ne h3'
  have hk3 : ¬ k = 3 := h3
  clear hC0 hR0 hn
  go_enter Tryd.func43, Tryd.ntmps43
  go_wp2_with (first | (go_at_call 31; refine (HK _).mono ?_; rintro e w1 ⟨rfl, rfl⟩) | (go_at_call 48; refine HC.mono ?_; rintro e w1 ⟨rfl, rfl⟩))
  go_ret
  exact ⟨by simp [hk3, hne]; rfl, bel⟩

set_option maxRecDepth 100000 in
set_option maxHeartbeats 4000000 in
theorem check_4a (ao : Option Addr) (n c : Nat) (d : ByteArray) (ns : List Int) (w : World) (hC0 : Cnts w) (hR0 : IRow w (.slice ao n c) ns) (hn : ns.length = n) (hd : d.size ≤ maxLen) (h1 : kindB 3 = true) (h2 : cntB 3 n = true) (h4 : anyB ns = true) :
    Calls Tryd.prog 43 #[.agg #[.int .i64 3, .slice ao n c, .string d]] w fun e w' => e = .returned (errV 1) ∧ Below w.heap.size w w' := by
  unfold maxLen at hd
  have hl : n ≤ 9223372036854775807 := by obtain ⟨_, _, _, h, _⟩ := hR0; omega
  have bel : Below w.heap.size w (w.alloc (.cells #[.int .i64 3, .slice ao n c, .string d] 33)) := (Below.refl _ w).alloc (Nat.le_refl _) _
  have hlt : w.heap.size < (w.alloc (.cells #[.int .i64 3, .slice ao n c, .string d] 33)).heap.size := by simp
  have HK := isKind_calls 3
  rw [h1] at HK
  have HC := isCount_calls 3 n (w.alloc (.cells #[.int .i64 3, .slice ao n c, .string d] 33)) (hC0.below bel) h1 hl
  rw [h2] at HC
  have HF := cont_calls (.slice ao n c) ns (w.alloc (.cells #[.int .i64 3, .slice ao n c, .string d] 33)) (hR0.below bel)
  rw [h4] at HF
  have p0 : (w.alloc (.cells #[.int .i64 3, .slice ao n c, .string d] 33)).cell? ⟨w.heap.size, 0, none⟩ = some (.int .i64 3) := by simp
  have p1 : (w.alloc (.cells #[.int .i64 3, .slice ao n c, .string d] 33)).cell? ⟨w.heap.size, 1, none⟩ = some (.slice ao n c) := by simp
  have p2 : (w.alloc (.cells #[.int .i64 3, .slice ao n c, .string d] 33)).cell? ⟨w.heap.size, 2, none⟩ = some (.string d) := by simp
  clear hC0 hR0 hn
  go_enter Tryd.func43, Tryd.ntmps43
  go_wp2_with (first | (go_at_call 31; refine (HK _).mono ?_; rintro e w1 ⟨rfl, rfl⟩) | (go_at_call 48; refine HC.mono ?_; rintro e w1 ⟨rfl, rfl⟩) | (go_at_call 49; refine HF.mono ?_; rintro e w2 ⟨rfl, hb2⟩; have q0 := (hb2.cell (p := ⟨w.heap.size, 0, none⟩) hlt).trans p0; have q1 := (hb2.cell (p := ⟨w.heap.size, 1, none⟩) hlt).trans p1; have q2 := (hb2.cell (p := ⟨w.heap.size, 2, none⟩) hlt).trans p2; have hB2 := bel.trans (hb2.mono bel.size)))
  go_ret
  exact ⟨rfl, hB2⟩

set_option maxRecDepth 100000 in
set_option maxHeartbeats 4000000 in
theorem check_4b (k : Int) (ao : Option Addr) (n c : Nat) (ns : List Int) (w : World) (hC0 : Cnts w) (hR0 : IRow w (.slice ao n c) ns) (hn : ns.length = n) (h1 : kindB k = true) (h2 : cntB k n = true) (h3 : k ≠ 3) (h4 : anyB ns = true) :
    Calls Tryd.prog 43 #[.agg #[.int .i64 k, .slice ao n c, .string { data := #[] }]] w fun e w' => e = .returned (errV 1) ∧ Below w.heap.size w w' := by
  skip
  have hl : n ≤ 9223372036854775807 := by obtain ⟨_, _, _, h, _⟩ := hR0; omega
  have bel : Below w.heap.size w (w.alloc (.cells #[.int .i64 k, .slice ao n c, .string { data := #[] }] 33)) := (Below.refl _ w).alloc (Nat.le_refl _) _
  have hlt : w.heap.size < (w.alloc (.cells #[.int .i64 k, .slice ao n c, .string { data := #[] }] 33)).heap.size := by simp
  have HK := isKind_calls k
  rw [h1] at HK
  have HC := isCount_calls k n (w.alloc (.cells #[.int .i64 k, .slice ao n c, .string { data := #[] }] 33)) (hC0.below bel) h1 hl
  rw [h2] at HC
  have HF := cont_calls (.slice ao n c) ns (w.alloc (.cells #[.int .i64 k, .slice ao n c, .string { data := #[] }] 33)) (hR0.below bel)
  rw [h4] at HF
  have p0 : (w.alloc (.cells #[.int .i64 k, .slice ao n c, .string { data := #[] }] 33)).cell? ⟨w.heap.size, 0, none⟩ = some (.int .i64 k) := by simp
  have p1 : (w.alloc (.cells #[.int .i64 k, .slice ao n c, .string { data := #[] }] 33)).cell? ⟨w.heap.size, 1, none⟩ = some (.slice ao n c) := by simp
  have p2 : (w.alloc (.cells #[.int .i64 k, .slice ao n c, .string { data := #[] }] 33)).cell? ⟨w.heap.size, 2, none⟩ = some (.string { data := #[] }) := by simp
  have hk3 : ¬ k = 3 := h3
  clear hC0 hR0 hn
  go_enter Tryd.func43, Tryd.ntmps43
  go_wp2_with (first | (go_at_call 31; refine (HK _).mono ?_; rintro e w1 ⟨rfl, rfl⟩) | (go_at_call 48; refine HC.mono ?_; rintro e w1 ⟨rfl, rfl⟩) | (go_at_call 49; refine HF.mono ?_; rintro e w2 ⟨rfl, hb2⟩; have q0 := (hb2.cell (p := ⟨w.heap.size, 0, none⟩) hlt).trans p0; have q1 := (hb2.cell (p := ⟨w.heap.size, 1, none⟩) hlt).trans p1; have q2 := (hb2.cell (p := ⟨w.heap.size, 2, none⟩) hlt).trans p2; have hB2 := bel.trans (hb2.mono bel.size)))
  go_ret
  exact ⟨rfl, hB2⟩

set_option maxRecDepth 100000 in
set_option maxHeartbeats 4000000 in
theorem check_5 (ao : Option Addr) (n c : Nat) (d : ByteArray) (ns : List Int) (w : World) (hC0 : Cnts w) (hR0 : IRow w (.slice ao n c) ns) (hn : ns.length = n) (hd : d.size ≤ maxLen) (h1 : kindB 3 = true) (h2 : cntB 3 n = true) (h4 : anyB ns = false) (h5 : 20 < d.size) :
    Calls Tryd.prog 43 #[.agg #[.int .i64 3, .slice ao n c, .string d]] w fun e w' => e = .returned (errV 4) ∧ Below w.heap.size w w' := by
  unfold maxLen at hd
  have hl : n ≤ 9223372036854775807 := by obtain ⟨_, _, _, h, _⟩ := hR0; omega
  have bel : Below w.heap.size w (w.alloc (.cells #[.int .i64 3, .slice ao n c, .string d] 33)) := (Below.refl _ w).alloc (Nat.le_refl _) _
  have hlt : w.heap.size < (w.alloc (.cells #[.int .i64 3, .slice ao n c, .string d] 33)).heap.size := by simp
  have HK := isKind_calls 3
  rw [h1] at HK
  have HC := isCount_calls 3 n (w.alloc (.cells #[.int .i64 3, .slice ao n c, .string d] 33)) (hC0.below bel) h1 hl
  rw [h2] at HC
  have HF := cont_calls (.slice ao n c) ns (w.alloc (.cells #[.int .i64 3, .slice ao n c, .string d] 33)) (hR0.below bel)
  rw [h4] at HF
  have p0 : (w.alloc (.cells #[.int .i64 3, .slice ao n c, .string d] 33)).cell? ⟨w.heap.size, 0, none⟩ = some (.int .i64 3) := by simp
  have p1 : (w.alloc (.cells #[.int .i64 3, .slice ao n c, .string d] 33)).cell? ⟨w.heap.size, 1, none⟩ = some (.slice ao n c) := by simp
  have p2 : (w.alloc (.cells #[.int .i64 3, .slice ao n c, .string d] 33)).cell? ⟨w.heap.size, 2, none⟩ = some (.string d) := by simp
  have g5 : (20 : Int) < (d.size : Int) := by omega
  clear hC0 hR0 hn
  go_enter Tryd.func43, Tryd.ntmps43
  go_wp2_with (first | (go_at_call 31; refine (HK _).mono ?_; rintro e w1 ⟨rfl, rfl⟩) | (go_at_call 48; refine HC.mono ?_; rintro e w1 ⟨rfl, rfl⟩) | (go_at_call 49; refine HF.mono ?_; rintro e w2 ⟨rfl, hb2⟩; have q0 := (hb2.cell (p := ⟨w.heap.size, 0, none⟩) hlt).trans p0; have q1 := (hb2.cell (p := ⟨w.heap.size, 1, none⟩) hlt).trans p1; have q2 := (hb2.cell (p := ⟨w.heap.size, 2, none⟩) hlt).trans p2; have hB2 := bel.trans (hb2.mono bel.size)))
  go_ret
  exact ⟨rfl, hB2⟩

set_option maxRecDepth 100000 in
set_option maxHeartbeats 4000000 in
theorem check_6a (ao : Option Addr) (n c : Nat) (d : ByteArray) (ns : List Int) (w : World) (hC0 : Cnts w) (hR0 : IRow w (.slice ao n c) ns) (hn : ns.length = n) (hd : d.size ≤ maxLen) (h1 : kindB 3 = true) (h2 : cntB 3 n = true) (h4 : anyB ns = false) (h5 : d.size ≤ 20) :
    Calls Tryd.prog 43 #[.agg #[.int .i64 3, .slice ao n c, .string d]] w fun e w' => e = .returned (errV 0) ∧ Below w.heap.size w w' := by
  unfold maxLen at hd
  have hl : n ≤ 9223372036854775807 := by obtain ⟨_, _, _, h, _⟩ := hR0; omega
  have bel : Below w.heap.size w (w.alloc (.cells #[.int .i64 3, .slice ao n c, .string d] 33)) := (Below.refl _ w).alloc (Nat.le_refl _) _
  have hlt : w.heap.size < (w.alloc (.cells #[.int .i64 3, .slice ao n c, .string d] 33)).heap.size := by simp
  have HK := isKind_calls 3
  rw [h1] at HK
  have HC := isCount_calls 3 n (w.alloc (.cells #[.int .i64 3, .slice ao n c, .string d] 33)) (hC0.below bel) h1 hl
  rw [h2] at HC
  have HF := cont_calls (.slice ao n c) ns (w.alloc (.cells #[.int .i64 3, .slice ao n c, .string d] 33)) (hR0.below bel)
  rw [h4] at HF
  have p0 : (w.alloc (.cells #[.int .i64 3, .slice ao n c, .string d] 33)).cell? ⟨w.heap.size, 0, none⟩ = some (.int .i64 3) := by simp
  have p1 : (w.alloc (.cells #[.int .i64 3, .slice ao n c, .string d] 33)).cell? ⟨w.heap.size, 1, none⟩ = some (.slice ao n c) := by simp
  have p2 : (w.alloc (.cells #[.int .i64 3, .slice ao n c, .string d] 33)).cell? ⟨w.heap.size, 2, none⟩ = some (.string d) := by simp
  have g5 : ¬ (20 : Int) < (d.size : Int) := by omega
  clear hC0 hR0 hn
  go_enter Tryd.func43, Tryd.ntmps43
  go_wp2_with (first | (go_at_call 31; refine (HK _).mono ?_; rintro e w1 ⟨rfl, rfl⟩) | (go_at_call 48; refine HC.mono ?_; rintro e w1 ⟨rfl, rfl⟩) | (go_at_call 49; refine HF.mono ?_; rintro e w2 ⟨rfl, hb2⟩; have q0 := (hb2.cell (p := ⟨w.heap.size, 0, none⟩) hlt).trans p0; have q1 := (hb2.cell (p := ⟨w.heap.size, 1, none⟩) hlt).trans p1; have q2 := (hb2.cell (p := ⟨w.heap.size, 2, none⟩) hlt).trans p2; have hB2 := bel.trans (hb2.mono bel.size)))
  go_ret
  exact ⟨rfl, hB2⟩

set_option maxRecDepth 100000 in
set_option maxHeartbeats 4000000 in
theorem check_6b (k : Int) (ao : Option Addr) (n c : Nat) (ns : List Int) (w : World) (hC0 : Cnts w) (hR0 : IRow w (.slice ao n c) ns) (hn : ns.length = n) (h1 : kindB k = true) (h2 : cntB k n = true) (h3 : k ≠ 3) (h4 : anyB ns = false) (h6 : k ≠ 2) :
    Calls Tryd.prog 43 #[.agg #[.int .i64 k, .slice ao n c, .string { data := #[] }]] w fun e w' => e = .returned (errV 0) ∧ Below w.heap.size w w' := by
  skip
  have hl : n ≤ 9223372036854775807 := by obtain ⟨_, _, _, h, _⟩ := hR0; omega
  have bel : Below w.heap.size w (w.alloc (.cells #[.int .i64 k, .slice ao n c, .string { data := #[] }] 33)) := (Below.refl _ w).alloc (Nat.le_refl _) _
  have hlt : w.heap.size < (w.alloc (.cells #[.int .i64 k, .slice ao n c, .string { data := #[] }] 33)).heap.size := by simp
  have HK := isKind_calls k
  rw [h1] at HK
  have HC := isCount_calls k n (w.alloc (.cells #[.int .i64 k, .slice ao n c, .string { data := #[] }] 33)) (hC0.below bel) h1 hl
  rw [h2] at HC
  have HF := cont_calls (.slice ao n c) ns (w.alloc (.cells #[.int .i64 k, .slice ao n c, .string { data := #[] }] 33)) (hR0.below bel)
  rw [h4] at HF
  have p0 : (w.alloc (.cells #[.int .i64 k, .slice ao n c, .string { data := #[] }] 33)).cell? ⟨w.heap.size, 0, none⟩ = some (.int .i64 k) := by simp
  have p1 : (w.alloc (.cells #[.int .i64 k, .slice ao n c, .string { data := #[] }] 33)).cell? ⟨w.heap.size, 1, none⟩ = some (.slice ao n c) := by simp
  have p2 : (w.alloc (.cells #[.int .i64 k, .slice ao n c, .string { data := #[] }] 33)).cell? ⟨w.heap.size, 2, none⟩ = some (.string { data := #[] }) := by simp
  have hk3 : ¬ k = 3 := h3
  have hk2 : ¬ k = 2 := h6
  clear hC0 hR0 hn
  go_enter Tryd.func43, Tryd.ntmps43
  go_wp2_with (first | (go_at_call 31; refine (HK _).mono ?_; rintro e w1 ⟨rfl, rfl⟩) | (go_at_call 48; refine HC.mono ?_; rintro e w1 ⟨rfl, rfl⟩) | (go_at_call 49; refine HF.mono ?_; rintro e w2 ⟨rfl, hb2⟩; have q0 := (hb2.cell (p := ⟨w.heap.size, 0, none⟩) hlt).trans p0; have q1 := (hb2.cell (p := ⟨w.heap.size, 1, none⟩) hlt).trans p1; have q2 := (hb2.cell (p := ⟨w.heap.size, 2, none⟩) hlt).trans p2; have hB2 := bel.trans (hb2.mono bel.size)))
  go_ret
  exact ⟨rfl, hB2⟩

set_option maxRecDepth 100000 in
set_option maxHeartbeats 4000000 in
theorem check_7 (ao : Option Addr) (n c : Nat) (ns : List Int) (w : World) (hC0 : Cnts w) (hR0 : IRow w (.slice ao n c) ns) (hn : ns.length = n) (h1 : kindB 2 = true) (h2 : cntB 2 n = true) (h4 : anyB ns = false) (M : Nat) (hM : n = 2 * M) (hM1 : 1 ≤ M) (hM12 : M ≤ 12) :
    Calls Tryd.prog 43 #[.agg #[.int .i64 2, .slice ao n c, .string { data := #[] }]] w fun e w' => e = .returned (if chk (rgs ns) ≠ 0 then errV 3 else errV 0) ∧ Below w.heap.size w w' := by
  skip
  have hl : n ≤ 9223372036854775807 := by obtain ⟨_, _, _, h, _⟩ := hR0; omega
  have bel : Below w.heap.size w (w.alloc (.cells #[.int .i64 2, .slice ao n c, .string { data := #[] }] 33)) := (Below.refl _ w).alloc (Nat.le_refl _) _
  have hlt : w.heap.size < (w.alloc (.cells #[.int .i64 2, .slice ao n c, .string { data := #[] }] 33)).heap.size := by simp
  have HK := isKind_calls 2
  rw [h1] at HK
  have HC := isCount_calls 2 n (w.alloc (.cells #[.int .i64 2, .slice ao n c, .string { data := #[] }] 33)) (hC0.below bel) h1 hl
  rw [h2] at HC
  have HF := cont_calls (.slice ao n c) ns (w.alloc (.cells #[.int .i64 2, .slice ao n c, .string { data := #[] }] 33)) (hR0.below bel)
  rw [h4] at HF
  have p0 : (w.alloc (.cells #[.int .i64 2, .slice ao n c, .string { data := #[] }] 33)).cell? ⟨w.heap.size, 0, none⟩ = some (.int .i64 2) := by simp
  have p1 : (w.alloc (.cells #[.int .i64 2, .slice ao n c, .string { data := #[] }] 33)).cell? ⟨w.heap.size, 1, none⟩ = some (.slice ao n c) := by simp
  have p2 : (w.alloc (.cells #[.int .i64 2, .slice ao n c, .string { data := #[] }] 33)).cell? ⟨w.heap.size, 2, none⟩ = some (.string { data := #[] }) := by simp
  have HR := fun W hb => rangesOf_calls (.slice ao n c) ns M W (hR0.below hb) (by omega) hM1 hM12
  clear hM
  have HX0 := fun W v (h : Row W v (rgs ns)) => check_calls v (rgs ns) W h
  generalize chk (rgs ns) = r at *
  by_cases hr : r = 0
  · subst hr
    rw [if_neg (by simp)]
    rw [show errV 0 = .nilIface from rfl] at HX0
    clear hC0 hR0 hn
    go_enter Tryd.func43, Tryd.ntmps43
    go_wp2_with (first | (go_at_call 31; refine (HK _).mono ?_; rintro e w1 ⟨rfl, rfl⟩) | (go_at_call 48; refine HC.mono ?_; rintro e w1 ⟨rfl, rfl⟩) | (go_at_call 49; refine HF.mono ?_; rintro e w2 ⟨rfl, hb2⟩; have q0 := (hb2.cell (p := ⟨w.heap.size, 0, none⟩) hlt).trans p0; have q1 := (hb2.cell (p := ⟨w.heap.size, 1, none⟩) hlt).trans p1; have q2 := (hb2.cell (p := ⟨w.heap.size, 2, none⟩) hlt).trans p2; have hB2 := bel.trans (hb2.mono bel.size)) | (go_at_call 52; refine (HR _ hB2).mono ?_; rintro e w3 ⟨v3, rfl, hR3, hf3, hb3⟩; have hB3 := hB2.trans (hb3.mono hB2.size); have HX := HX0 _ _ hR3; obtain ⟨a3, c3, hv3, _⟩ := id hR3; subst hv3) | (go_at_call 51; refine HX.mono ?_; rintro e w4 ⟨rfl, hb4⟩; have hB4 := hB3.trans (hb4.mono hB3.size)))
    go_ret
    exact ⟨rfl, hB4⟩

  · rw [if_pos hr]
    rw [show errV r = .iface 53 (.int .i64 r) by simp [errV, hr]] at HX0
    clear hC0 hR0 hn
    go_enter Tryd.func43, Tryd.ntmps43
    go_wp2_with (first | (go_at_call 31; refine (HK _).mono ?_; rintro e w1 ⟨rfl, rfl⟩) | (go_at_call 48; refine HC.mono ?_; rintro e w1 ⟨rfl, rfl⟩) | (go_at_call 49; refine HF.mono ?_; rintro e w2 ⟨rfl, hb2⟩; have q0 := (hb2.cell (p := ⟨w.heap.size, 0, none⟩) hlt).trans p0; have q1 := (hb2.cell (p := ⟨w.heap.size, 1, none⟩) hlt).trans p1; have q2 := (hb2.cell (p := ⟨w.heap.size, 2, none⟩) hlt).trans p2; have hB2 := bel.trans (hb2.mono bel.size)) | (go_at_call 52; refine (HR _ hB2).mono ?_; rintro e w3 ⟨v3, rfl, hR3, hf3, hb3⟩; have hB3 := hB2.trans (hb3.mono hB2.size); have HX := HX0 _ _ hR3; obtain ⟨a3, c3, hv3, _⟩ := id hR3; subst hv3) | (go_at_call 51; refine HX.mono ?_; rintro e w4 ⟨rfl, hb4⟩; have hB4 := hB3.trans (hb4.mono hB3.size)))
    go_ret
    exact ⟨rfl, hB4⟩


theorem frame_check (k : Int) (v : Value) (d : ByteArray) (ns : List Int) (w : World) (hC : Cnts w) (hR : IRow w v ns) (hd : d.size ≤ maxLen) :
    Calls Tryd.prog 43 #[.agg #[.int .i64 k, v, .string d]] w fun e w' => e = .returned (errV (frF k ns d)) ∧ Below w.heap.size w w' := by
  have hR' := hR
  obtain ⟨ao, c, rfl, _⟩ := hR
  unfold frF
  cases h1 : kindB k with
  | false => rw [if_pos rfl]; exact check_1 k ao _ c d ns w hC hR' rfl hd h1
  | true =>
    rw [if_neg (by simp)]
    cases h2 : cntB k ns.length with
    | false => rw [if_pos rfl]; exact check_2 k ao _ c d ns w hC hR' rfl hd h1 h2
    | true =>
      rw [if_neg (by simp)]
      by_cases h3 : k = 3
      · subst h3
        rw [if_neg (by simp)]
        cases h4 : anyB ns with
        | true => rw [if_pos rfl]; exact check_4a ao _ c d ns w hC hR' rfl hd h1 h2 h4
        | false =>
          rw [if_neg (by simp)]
          by_cases h5 : 20 < d.size
          · rw [if_pos h5]; exact check_5 ao _ c d ns w hC hR' rfl hd h1 h2 h4 h5
          · rw [if_neg h5, if_neg (by simp)]; exact check_6a ao _ c d ns w hC hR' rfl hd h1 h2 h4 (by omega)
      · by_cases h0 : d.size = 0
        · obtain rfl := str_nil h0
          rw [if_neg (by simp [h0])]
          cases h4 : anyB ns with
          | true => rw [if_pos rfl]; exact check_4b k ao _ c ns w hC hR' rfl h1 h2 h3 h4
          | false =>
            rw [if_neg (by simp), if_neg (by rw [h0]; omega)]
            by_cases h6 : k = 2
            · subst h6
              obtain ⟨M, hM, hM1, hM12⟩ := cntB_ack h2
              refine (check_7 ao _ c ns w hC hR' rfl h1 h2 h4 M hM hM1 hM12).mono ?_
              rintro e w' ⟨rfl, hb⟩
              refine ⟨?_, hb⟩
              by_cases hr : chk (rgs ns) = 0
              · rw [if_neg (by simp [hr]), if_neg (by simp [hr])]
              · rw [if_pos hr, if_pos ⟨rfl, hr⟩]
            · rw [if_neg (by simp [h6])]; exact check_6b k ao _ c ns w hC hR' rfl h1 h2 h3 h4 h6
        · rw [if_pos ⟨h3, h0⟩]; exact check_3 k ao _ c d ns w hC hR' rfl hd h1 h2 h3 h0
end Go.Proofs.YtoabfilliiopmaaDoor
