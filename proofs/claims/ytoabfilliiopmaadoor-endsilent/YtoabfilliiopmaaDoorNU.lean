/- What package number answers (isNumber .. Whole), its arithmetic, and what the document's May, Need, Round and Whole answer. -/
import Derived.Test.YtoabfilliiopmaaDoorChecked
import Derived.WalkKit
import Derived.WalkSpells
import Derived.WalkLawsBesides
import Derived.LoopN
import Derived.Outline
import Derived.KernelRfl
namespace Go.Proofs.YtoabfilliiopmaaDoor.U
open Go.RowKit
set_option linter.unusedVariables false
set_option linter.unusedSimpArgs false


/-- May a number be? -/
def mayB (n : Int) : Bool := decide (0 ≤ n ∧ n ≤ 1073741823)
theorem mayB_yes {n : Int} (h : mayB n = true) : 0 ≤ n ∧ n ≤ 1073741823 := of_decide_eq_true h
theorem mayB_no {n : Int} (h : mayB n = false) : n < 0 ∨ 1073741823 < n := by
  have : ¬ (0 ≤ n ∧ n ≤ 1073741823) := of_decide_eq_false h
  omega

set_option maxRecDepth 100000 in
set_option maxHeartbeats 2000000 in
theorem isnum_yes (n : Int) (w : World) (h0 : 0 ≤ n) (h1 : n ≤ 1073741823) :
    Calls Tryd.prog 28 #[.int .i64 n] w fun e w' => e = .returned (.bool true) ∧ w' = w := by
  go_enter Tryd.func28, Tryd.ntmps28
  go_wp2
  go_ret
  exact ⟨rfl, rfl⟩
set_option maxRecDepth 100000 in
set_option maxHeartbeats 2000000 in
theorem isnum_lo (n : Int) (w : World) (h0 : n < 0) :
    Calls Tryd.prog 28 #[.int .i64 n] w fun e w' => e = .returned (.bool false) ∧ w' = w := by
  go_enter Tryd.func28, Tryd.ntmps28
  go_wp2
  go_ret
  exact ⟨rfl, rfl⟩
set_option maxRecDepth 100000 in
set_option maxHeartbeats 2000000 in
theorem isnum_hi (n : Int) (w : World) (h0 : 1073741823 < n) :
    Calls Tryd.prog 28 #[.int .i64 n] w fun e w' => e = .returned (.bool false) ∧ w' = w := by
  go_enter Tryd.func28, Tryd.ntmps28
  go_wp2
  go_ret
  exact ⟨by simp <;> omega, rfl⟩
theorem isnum (n : Int) (w : World) :
    Calls Tryd.prog 28 #[.int .i64 n] w fun e w' => e = .returned (.bool (mayB n)) ∧ w' = w := by
  cases h : mayB n with
  | true => exact isnum_yes n w (mayB_yes h).1 (mayB_yes h).2
  | false => rcases mayB_no h with h | h
             · exact isnum_lo n w h
             · exact isnum_hi n w h

/-- Can a cut have so many bytes? -/
def lenB (b : Int) : Bool := decide (1 ≤ b ∧ b ≤ 4)
theorem lenB_yes {b : Int} (h : lenB b = true) : b = 1 ∨ b = 2 ∨ b = 3 ∨ b = 4 := by
  have : 1 ≤ b ∧ b ≤ 4 := of_decide_eq_true h
  omega
theorem lenB_no {b : Int} (h : lenB b = false) : b < 1 ∨ 4 < b := by
  have : ¬ (1 ≤ b ∧ b ≤ 4) := of_decide_eq_false h
  omega
set_option maxRecDepth 100000 in
set_option maxHeartbeats 2000000 in
theorem islen_yes (b : Int) (w : World) (h0 : 1 ≤ b) (h1 : b ≤ 4) :
    Calls Tryd.prog 29 #[.int .i64 b] w fun e w' => e = .returned (.bool true) ∧ w' = w := by
  go_enter Tryd.func29, Tryd.ntmps29
  go_wp2
  go_ret
  exact ⟨rfl, rfl⟩
set_option maxRecDepth 100000 in
set_option maxHeartbeats 2000000 in
theorem islen_lo (b : Int) (w : World) (h0 : b < 1) :
    Calls Tryd.prog 29 #[.int .i64 b] w fun e w' => e = .returned (.bool false) ∧ w' = w := by
  go_enter Tryd.func29, Tryd.ntmps29
  go_wp2
  go_ret
  exact ⟨rfl, rfl⟩
set_option maxRecDepth 100000 in
set_option maxHeartbeats 2000000 in
theorem islen_hi (b : Int) (w : World) (h0 : 4 < b) :
    Calls Tryd.prog 29 #[.int .i64 b] w fun e w' => e = .returned (.bool false) ∧ w' = w := by
  go_enter Tryd.func29, Tryd.ntmps29
  go_wp2
  go_ret
  exact ⟨by simp <;> omega, rfl⟩
theorem islen (b : Int) (w : World) :
    Calls Tryd.prog 29 #[.int .i64 b] w fun e w' => e = .returned (.bool (lenB b)) ∧ w' = w := by
  cases h : lenB b with
  | true => exact islen_yes b w (by rcases lenB_yes h with h | h | h | h <;> omega) (by rcases lenB_yes h with h | h | h | h <;> omega)
  | false => rcases lenB_no h with h | h
             · exact islen_lo b w h
             · exact islen_hi b w h

/-- 256 so many times. -/
def rnd (b : Int) : Int := if b = 1 then 256 else if b = 2 then 65536 else if b = 3 then 16777216 else 4294967296
theorem rnd_bd (b : Int) : 256 ≤ rnd b ∧ rnd b ≤ 4294967296 := by unfold rnd; repeat' split <;> omega

set_option maxRecDepth 100000 in
set_option maxHeartbeats 2000000 in
theorem cuts_1 (w : World) :
    Calls Tryd.prog 30 #[.int .i64 1] w fun e w' => e = .returned (.int .i64 256) ∧ w' = w := by
  go_enter Tryd.func30, Tryd.ntmps30
  go_wp2
  go_ret
  exact ⟨rfl, rfl⟩

set_option maxRecDepth 100000 in
set_option maxHeartbeats 2000000 in
theorem cuts_2 (w : World) :
    Calls Tryd.prog 30 #[.int .i64 2] w fun e w' => e = .returned (.int .i64 65536) ∧ w' = w := by
  go_enter Tryd.func30, Tryd.ntmps30
  go_wp2
  go_ret
  exact ⟨rfl, rfl⟩

set_option maxRecDepth 100000 in
set_option maxHeartbeats 2000000 in
theorem cuts_3 (w : World) :
    Calls Tryd.prog 30 #[.int .i64 3] w fun e w' => e = .returned (.int .i64 16777216) ∧ w' = w := by
  go_enter Tryd.func30, Tryd.ntmps30
  go_wp2
  go_ret
  exact ⟨rfl, rfl⟩

set_option maxRecDepth 100000 in
set_option maxHeartbeats 2000000 in
theorem cuts_4 (w : World) :
    Calls Tryd.prog 30 #[.int .i64 4] w fun e w' => e = .returned (.int .i64 4294967296) ∧ w' = w := by
  go_enter Tryd.func30, Tryd.ntmps30
  go_wp2
  go_ret
  exact ⟨rfl, rfl⟩

theorem cuts (b : Int) (w : World) (h : lenB b = true) :
    Calls Tryd.prog 30 #[.int .i64 b] w fun e w' => e = .returned (.int .i64 (rnd b)) ∧ w' = w := by
  rcases lenB_yes h with rfl | rfl | rfl | rfl
  · exact cuts_1 w
  · exact cuts_2 w
  · exact cuts_3 w
  · exact cuts_4 w

set_option maxRecDepth 100000 in
set_option maxHeartbeats 2000000 in
theorem cut_no1 (n b : Int) (w : World) (h : mayB n = false) :
    Calls Tryd.prog 35 #[.int .i64 n, .int .i64 b] w fun e w' => e = .returned (.tuple #[.int .i64 0, .iface 53 (.int .i64 1)]) ∧ w' = w := by
  go_enter Tryd.func35, Tryd.ntmps35
  go_wp2_with fail
  refine (isnum n _).mono ?_
  rintro e w1 ⟨rfl, rfl⟩
  rw [h]
  go_wp2
  go_ret2
  exact ⟨rfl, rfl⟩
set_option maxRecDepth 100000 in
set_option maxHeartbeats 2000000 in
theorem cut_no2 (n b : Int) (w : World) (h : mayB n = true) (hb : lenB b = false) :
    Calls Tryd.prog 35 #[.int .i64 n, .int .i64 b] w fun e w' => e = .returned (.tuple #[.int .i64 0, .iface 53 (.int .i64 1)]) ∧ w' = w := by
  go_enter Tryd.func35, Tryd.ntmps35
  go_wp2_with fail
  refine (isnum n _).mono ?_
  rintro e w1 ⟨rfl, rfl⟩
  rw [h]
  go_wp2_with fail
  refine (islen b _).mono ?_
  rintro e w1 ⟨rfl, rfl⟩
  rw [hb]
  go_wp2
  go_ret2
  exact ⟨rfl, rfl⟩
set_option maxRecDepth 100000 in
set_option maxHeartbeats 2000000 in
theorem cut_yes (n b : Int) (w : World) (h : mayB n = true) (hb : lenB b = true) :
    Calls Tryd.prog 35 #[.int .i64 n, .int .i64 b] w fun e w' => e = .returned (.tuple #[.int .i64 (n % rnd b), .nilIface]) ∧ w' = w := by
  obtain ⟨h0, h1⟩ := mayB_yes h
  go_enter Tryd.func35, Tryd.ntmps35
  go_wp2_with fail
  refine (isnum n _).mono ?_
  rintro e w1 ⟨rfl, rfl⟩
  rw [h]
  go_wp2_with fail
  refine (islen b _).mono ?_
  rintro e w1 ⟨rfl, rfl⟩
  rw [hb]
  go_wp2_with fail
  refine (cuts b _ hb).mono ?_
  rintro e w1 ⟨rfl, rfl⟩
  have hr : 256 ≤ rnd b ∧ rnd b ≤ 4294967296 := rnd_bd b
  generalize hrr : rnd b = r at hr ⊢
  obtain ⟨hr0, hr1⟩ := hr
  have ht : n.tmod r = n % r := Int.tmod_eq_emod_of_nonneg h0
  have hm0 : 0 ≤ n % r := Int.emod_nonneg n (by omega)
  have hm1 : n % r < r := Int.emod_lt_of_pos n (by omega)
  go_wp2
  go_ret2
  rw [← hrr]; exact ⟨rfl, rfl⟩


/-- How many bytes, of twice n less known. -/
def need (n known : Int) : Int := if 2 * (n - known) ≤ 256 then 1 else if 2 * (n - known) ≤ 65536 then 2 else if 2 * (n - known) ≤ 16777216 then 3 else 4
theorem need_len (n known : Int) : lenB (need n known) = true := by unfold need; (repeat' split) <;> rfl
/-- Are they such? -/
def pairB (n known : Int) : Bool := decide (0 ≤ n ∧ n ≤ 1073741823 ∧ -1 ≤ known ∧ known < n)
theorem pairB_yes {n known : Int} (h : pairB n known = true) : 0 ≤ n ∧ n ≤ 1073741823 ∧ -1 ≤ known ∧ known < n := of_decide_eq_true h
theorem pairB_no {n known : Int} (h : pairB n known = false) : mayB n = false ∨ (mayB n = true ∧ known < -1) ∨ (mayB n = true ∧ -1 ≤ known ∧ n ≤ known) := by
  have h' : ¬ (0 ≤ n ∧ n ≤ 1073741823 ∧ -1 ≤ known ∧ known < n) := of_decide_eq_false h
  cases hm : mayB n with
  | false => exact Or.inl rfl
  | true =>
    obtain ⟨a, b⟩ := mayB_yes hm
    right
    by_cases c : known < -1
    · exact Or.inl ⟨rfl, c⟩
    · exact Or.inr ⟨rfl, by omega, by omega⟩
set_option maxRecDepth 100000 in
set_option maxHeartbeats 2000000 in
theorem need_no1 (n k : Int) (w : World) (h : mayB n = false) :
    Calls Tryd.prog 34 #[.int .i64 n, .int .i64 k] w fun e w' => e = .returned (.tuple #[.int .i64 0, .iface 53 (.int .i64 1)]) ∧ w' = w := by
  go_enter Tryd.func34, Tryd.ntmps34
  go_wp2_with fail
  refine (isnum n _).mono ?_
  rintro e w1 ⟨rfl, rfl⟩
  rw [h]
  go_wp2
  go_ret2
  exact ⟨rfl, rfl⟩
set_option maxRecDepth 100000 in
set_option maxHeartbeats 2000000 in
theorem need_no2 (n k : Int) (w : World) (h : mayB n = true) (hk : k < -1) :
    Calls Tryd.prog 34 #[.int .i64 n, .int .i64 k] w fun e w' => e = .returned (.tuple #[.int .i64 0, .iface 53 (.int .i64 1)]) ∧ w' = w := by
  go_enter Tryd.func34, Tryd.ntmps34
  go_wp2_with fail
  refine (isnum n _).mono ?_
  rintro e w1 ⟨rfl, rfl⟩
  rw [h]
  go_wp2
  go_ret2
  exact ⟨rfl, rfl⟩
set_option maxRecDepth 100000 in
set_option maxHeartbeats 2000000 in
theorem need_no3 (n k : Int) (w : World) (h : mayB n = true) (hk : -1 ≤ k) (hn : n ≤ k) :
    Calls Tryd.prog 34 #[.int .i64 n, .int .i64 k] w fun e w' => e = .returned (.tuple #[.int .i64 0, .iface 53 (.int .i64 1)]) ∧ w' = w := by
  go_enter Tryd.func34, Tryd.ntmps34
  go_wp2_with fail
  refine (isnum n _).mono ?_
  rintro e w1 ⟨rfl, rfl⟩
  rw [h]
  go_wp2
  go_ret2
  exact ⟨rfl, rfl⟩
theorem need_no (n k : Int) (w : World) (h : pairB n k = false) :
    Calls Tryd.prog 34 #[.int .i64 n, .int .i64 k] w fun e w' => e = .returned (.tuple #[.int .i64 0, .iface 53 (.int .i64 1)]) ∧ w' = w := by
  rcases pairB_no h with h | ⟨h, h1⟩ | ⟨h, h1, h2⟩
  · exact need_no1 n k w h
  · exact need_no2 n k w h h1
  · exact need_no3 n k w h h1 h2

set_option maxRecDepth 100000 in
set_option maxHeartbeats 2000000 in
theorem need_1 (n k : Int) (w : World) (h : pairB n k = true) (hhi : 2 * (n - k) ≤ 256) :
    Calls Tryd.prog 34 #[.int .i64 n, .int .i64 k] w fun e w' => e = .returned (.tuple #[.int .i64 1, .nilIface]) ∧ w' = w := by
  obtain ⟨h0, h1, h2, h3⟩ := pairB_yes h
  have hm : mayB n = true := decide_eq_true ⟨h0, h1⟩
  go_enter Tryd.func34, Tryd.ntmps34
  go_wp2_with fail
  refine (isnum n _).mono ?_
  rintro e w1 ⟨rfl, rfl⟩
  rw [hm]
  go_wp2_with fail
  refine wp_loop_rounds 2 ?_
  rw [rounds_succ]
  go_wp2_with fail
  refine (cuts_1 _).mono ?_
  rintro e w1 ⟨rfl, rfl⟩
  go_wp2_with fail
  go_ret2
  exact ⟨rfl, rfl⟩

set_option maxRecDepth 100000 in
set_option maxHeartbeats 2000000 in
theorem need_2 (n k : Int) (w : World) (h : pairB n k = true) (hlo : 256 < 2 * (n - k)) (hhi : 2 * (n - k) ≤ 65536) :
    Calls Tryd.prog 34 #[.int .i64 n, .int .i64 k] w fun e w' => e = .returned (.tuple #[.int .i64 2, .nilIface]) ∧ w' = w := by
  obtain ⟨h0, h1, h2, h3⟩ := pairB_yes h
  have hm : mayB n = true := decide_eq_true ⟨h0, h1⟩
  go_enter Tryd.func34, Tryd.ntmps34
  go_wp2_with fail
  refine (isnum n _).mono ?_
  rintro e w1 ⟨rfl, rfl⟩
  rw [hm]
  go_wp2_with fail
  refine wp_loop_rounds 3 ?_
  rw [rounds_succ]
  go_wp2_with fail
  refine (cuts_1 _).mono ?_
  rintro e w1 ⟨rfl, rfl⟩
  go_wp2_with fail
  rw [rounds_succ]
  go_wp2_with fail
  refine (cuts_2 _).mono ?_
  rintro e w1 ⟨rfl, rfl⟩
  go_wp2_with fail
  go_ret2
  exact ⟨rfl, rfl⟩

set_option maxRecDepth 100000 in
set_option maxHeartbeats 2000000 in
theorem need_3 (n k : Int) (w : World) (h : pairB n k = true) (hlo : 65536 < 2 * (n - k)) (hhi : 2 * (n - k) ≤ 16777216) :
    Calls Tryd.prog 34 #[.int .i64 n, .int .i64 k] w fun e w' => e = .returned (.tuple #[.int .i64 3, .nilIface]) ∧ w' = w := by
  obtain ⟨h0, h1, h2, h3⟩ := pairB_yes h
  have hm : mayB n = true := decide_eq_true ⟨h0, h1⟩
  go_enter Tryd.func34, Tryd.ntmps34
  go_wp2_with fail
  refine (isnum n _).mono ?_
  rintro e w1 ⟨rfl, rfl⟩
  rw [hm]
  go_wp2_with fail
  refine wp_loop_rounds 4 ?_
  rw [rounds_succ]
  go_wp2_with fail
  refine (cuts_1 _).mono ?_
  rintro e w1 ⟨rfl, rfl⟩
  go_wp2_with fail
  rw [rounds_succ]
  go_wp2_with fail
  refine (cuts_2 _).mono ?_
  rintro e w1 ⟨rfl, rfl⟩
  go_wp2_with fail
  rw [rounds_succ]
  go_wp2_with fail
  refine (cuts_3 _).mono ?_
  rintro e w1 ⟨rfl, rfl⟩
  go_wp2_with fail
  go_ret2
  exact ⟨rfl, rfl⟩

set_option maxRecDepth 100000 in
set_option maxHeartbeats 2000000 in
theorem need_4 (n k : Int) (w : World) (h : pairB n k = true) (hlo : 16777216 < 2 * (n - k)) :
    Calls Tryd.prog 34 #[.int .i64 n, .int .i64 k] w fun e w' => e = .returned (.tuple #[.int .i64 4, .nilIface]) ∧ w' = w := by
  obtain ⟨h0, h1, h2, h3⟩ := pairB_yes h
  have hm : mayB n = true := decide_eq_true ⟨h0, h1⟩
  go_enter Tryd.func34, Tryd.ntmps34
  go_wp2_with fail
  refine (isnum n _).mono ?_
  rintro e w1 ⟨rfl, rfl⟩
  rw [hm]
  go_wp2_with fail
  refine wp_loop_rounds 5 ?_
  rw [rounds_succ]
  go_wp2_with fail
  refine (cuts_1 _).mono ?_
  rintro e w1 ⟨rfl, rfl⟩
  go_wp2_with fail
  rw [rounds_succ]
  go_wp2_with fail
  refine (cuts_2 _).mono ?_
  rintro e w1 ⟨rfl, rfl⟩
  go_wp2_with fail
  rw [rounds_succ]
  go_wp2_with fail
  refine (cuts_3 _).mono ?_
  rintro e w1 ⟨rfl, rfl⟩
  go_wp2_with fail
  rw [rounds_succ]
  go_wp2_with fail
  refine (cuts_4 _).mono ?_
  rintro e w1 ⟨rfl, rfl⟩
  go_wp2_with fail
  go_ret2
  exact ⟨rfl, rfl⟩

theorem need_yes (n k : Int) (w : World) (h : pairB n k = true) :
    Calls Tryd.prog 34 #[.int .i64 n, .int .i64 k] w fun e w' => e = .returned (.tuple #[.int .i64 (need n k), .nilIface]) ∧ w' = w := by
  by_cases a : 2 * (n - k) ≤ 256
  · have e : need n k = 1 := by simp [need, a]
    rw [e]; exact need_1 n k w h a
  by_cases b : 2 * (n - k) ≤ 65536
  · have e : need n k = 2 := by simp [need, a, b]
    rw [e]; exact need_2 n k w h (by omega) b
  by_cases c : 2 * (n - k) ≤ 16777216
  · have e : need n k = 3 := by simp [need, a, b, c]
    rw [e]; exact need_3 n k w h (by omega) c
  · have e : need n k = 4 := by simp [need, a, b, c]
    rw [e]; exact need_4 n k w h (by omega)


theorem emod_le_self {n r : Int} (h0 : 0 ≤ n) (hr : 0 < r) : n % r ≤ n := by
  by_cases h : n < r
  · rw [Int.emod_eq_of_lt h0 h]; exact Int.le_refl _
  · have := Int.emod_lt_of_pos n hr
    omega
/-- Of the numbers that are cut so that nearest to next, of two as near the greater one: as package number has it; r: 256 so many times. -/
def near (cut r next : Int) : Int :=
  if next - next % r + cut < next ∧ mayB (next - next % r + cut + r) = true ∧ next - next % r + cut + r - next ≤ next - (next - next % r + cut) then next - next % r + cut + r
  else if next < next - next % r + cut ∧ mayB (next - next % r + cut - r) = true ∧ next - (next - next % r + cut - r) < next - next % r + cut - next then next - next % r + cut - r
  else next - next % r + cut
/-- Is there one? -/
def wholeB (cut b next : Int) : Bool := mayB next && lenB b && mayB cut && decide (cut < rnd b)

set_option maxRecDepth 100000 in
set_option maxHeartbeats 2000000 in
theorem whole_no1 (cut b next : Int) (w : World) (hn : mayB next = false) :
    Calls Tryd.prog 21 #[.int .i64 cut, .int .i64 b, .int .i64 next] w fun e w' => e = .returned (.tuple #[.int .i64 0, .iface 53 (.int .i64 1)]) ∧ w' = w := by
  go_enter Tryd.func21, Tryd.ntmps21
  go_wp2_with fail
  refine (isnum next _).mono ?_
  rintro e w1 ⟨rfl, rfl⟩
  rw [hn]
  go_wp2
  go_ret2
  exact ⟨rfl, rfl⟩

set_option maxRecDepth 100000 in
set_option maxHeartbeats 2000000 in
theorem whole_no2 (cut b next : Int) (w : World) (hn : mayB next = true) (hb : lenB b = false) :
    Calls Tryd.prog 21 #[.int .i64 cut, .int .i64 b, .int .i64 next] w fun e w' => e = .returned (.tuple #[.int .i64 0, .iface 53 (.int .i64 1)]) ∧ w' = w := by
  go_enter Tryd.func21, Tryd.ntmps21
  go_wp2_with fail
  refine (isnum next _).mono ?_
  rintro e w1 ⟨rfl, rfl⟩
  rw [hn]
  go_wp2_with fail
  refine (islen b _).mono ?_
  rintro e w1 ⟨rfl, rfl⟩
  rw [hb]
  go_wp2
  go_ret2
  exact ⟨rfl, rfl⟩

set_option maxRecDepth 100000 in
set_option maxHeartbeats 2000000 in
theorem whole_no3 (cut b next : Int) (w : World) (hn : mayB next = true) (hb : lenB b = true) (hc : mayB cut = false) :
    Calls Tryd.prog 21 #[.int .i64 cut, .int .i64 b, .int .i64 next] w fun e w' => e = .returned (.tuple #[.int .i64 0, .iface 53 (.int .i64 1)]) ∧ w' = w := by
  go_enter Tryd.func21, Tryd.ntmps21
  go_wp2_with fail
  refine (isnum next _).mono ?_
  rintro e w1 ⟨rfl, rfl⟩
  rw [hn]
  go_wp2_with fail
  refine (islen b _).mono ?_
  rintro e w1 ⟨rfl, rfl⟩
  rw [hb]
  go_wp2_with fail
  refine (isnum cut _).mono ?_
  rintro e w1 ⟨rfl, rfl⟩
  rw [hc]
  go_wp2
  go_ret2
  exact ⟨rfl, rfl⟩

set_option maxRecDepth 100000 in
set_option maxHeartbeats 2000000 in
theorem whole_no4 (cut b next : Int) (w : World) (hn : mayB next = true) (hb : lenB b = true) (hc : mayB cut = true) (hl : rnd b ≤ cut) :
    Calls Tryd.prog 21 #[.int .i64 cut, .int .i64 b, .int .i64 next] w fun e w' => e = .returned (.tuple #[.int .i64 0, .iface 53 (.int .i64 1)]) ∧ w' = w := by
  go_enter Tryd.func21, Tryd.ntmps21
  go_wp2_with fail
  refine (isnum next _).mono ?_
  rintro e w1 ⟨rfl, rfl⟩
  rw [hn]
  go_wp2_with fail
  refine (islen b _).mono ?_
  rintro e w1 ⟨rfl, rfl⟩
  rw [hb]
  go_wp2_with fail
  refine (isnum cut _).mono ?_
  rintro e w1 ⟨rfl, rfl⟩
  rw [hc]
  go_wp2_with fail
  refine (cuts b _ hb).mono ?_
  rintro e w1 ⟨rfl, rfl⟩
  go_wp2
  go_ret2
  exact ⟨rfl, rfl⟩

theorem whole_no (cut b next : Int) (w : World) (h : wholeB cut b next = false) :
    Calls Tryd.prog 21 #[.int .i64 cut, .int .i64 b, .int .i64 next] w fun e w' => e = .returned (.tuple #[.int .i64 0, .iface 53 (.int .i64 1)]) ∧ w' = w := by
  cases hn : mayB next with
  | false => exact whole_no1 cut b next w hn
  | true =>
    cases hb : lenB b with
    | false => exact whole_no2 cut b next w hn hb
    | true =>
      cases hc : mayB cut with
      | false => exact whole_no3 cut b next w hn hb hc
      | true =>
        refine whole_no4 cut b next w hn hb hc ?_
        by_cases hl : cut < rnd b
        · simp [wholeB, hn, hb, hc, hl] at h
        · omega

set_option maxRecDepth 100000 in
set_option maxHeartbeats 2000000 in
theorem whole_a (cut b next : Int) (w : World) (hn : mayB next = true) (hb : lenB b = true) (hc : mayB cut = true) (hl : cut < rnd b)
    (t1 : next - next % rnd b + cut < next) (t2 : mayB (next - next % rnd b + cut + rnd b) = true) (t3 : next - next % rnd b + cut + rnd b - next ≤ next - (next - next % rnd b + cut)) :
    Calls Tryd.prog 21 #[.int .i64 cut, .int .i64 b, .int .i64 next] w fun e w' => e = .returned (.tuple #[.int .i64 (next - next % rnd b + cut + rnd b), .nilIface]) ∧ w' = w := by
  obtain ⟨n0, n1⟩ := mayB_yes hn
  obtain ⟨c0, c1⟩ := mayB_yes hc
  have hm0 : 0 ≤ next % rnd b := Int.emod_nonneg next (by have := rnd_bd b; omega)
  have hm1 : next % rnd b < rnd b := Int.emod_lt_of_pos next (by have := rnd_bd b; omega)
  have hm2 : next % rnd b ≤ next := emod_le_self n0 (by have := rnd_bd b; omega)
  go_enter Tryd.func21, Tryd.ntmps21
  go_wp2_with fail
  refine (isnum next _).mono ?_
  rintro e w1 ⟨rfl, rfl⟩
  rw [hn]
  go_wp2_with fail
  refine (islen b _).mono ?_
  rintro e w1 ⟨rfl, rfl⟩
  rw [hb]
  go_wp2_with fail
  refine (isnum cut _).mono ?_
  rintro e w1 ⟨rfl, rfl⟩
  rw [hc]
  go_wp2_with fail
  refine (cuts b _ hb).mono ?_
  rintro e w1 ⟨rfl, rfl⟩
  go_wp2_with fail
  refine (cuts b _ hb).mono ?_
  rintro e w1 ⟨rfl, rfl⟩
  obtain ⟨hr0, hr1⟩ := rnd_bd b
  generalize hrr : rnd b = r at hr0 hr1 hm0 hm1 hm2 hl t1 t2 t3 ⊢
  go_wp2_with fail
  refine (isnum (next - next % r + cut + r) _).mono ?_
  rintro e w1 ⟨rfl, rfl⟩
  rw [t2]
  go_wp2
  go_ret2
  rw [← hrr]; exact ⟨rfl, rfl⟩

set_option maxRecDepth 100000 in
set_option maxHeartbeats 2000000 in
theorem whole_b (cut b next : Int) (w : World) (hn : mayB next = true) (hb : lenB b = true) (hc : mayB cut = true) (hl : cut < rnd b)
    (t1 : next - next % rnd b + cut < next) (t2 : mayB (next - next % rnd b + cut + rnd b) = true) (t3 : next - (next - next % rnd b + cut) < next - next % rnd b + cut + rnd b - next) :
    Calls Tryd.prog 21 #[.int .i64 cut, .int .i64 b, .int .i64 next] w fun e w' => e = .returned (.tuple #[.int .i64 (next - next % rnd b + cut), .nilIface]) ∧ w' = w := by
  obtain ⟨n0, n1⟩ := mayB_yes hn
  obtain ⟨c0, c1⟩ := mayB_yes hc
  have hm0 : 0 ≤ next % rnd b := Int.emod_nonneg next (by have := rnd_bd b; omega)
  have hm1 : next % rnd b < rnd b := Int.emod_lt_of_pos next (by have := rnd_bd b; omega)
  have hm2 : next % rnd b ≤ next := emod_le_self n0 (by have := rnd_bd b; omega)
  go_enter Tryd.func21, Tryd.ntmps21
  go_wp2_with fail
  refine (isnum next _).mono ?_
  rintro e w1 ⟨rfl, rfl⟩
  rw [hn]
  go_wp2_with fail
  refine (islen b _).mono ?_
  rintro e w1 ⟨rfl, rfl⟩
  rw [hb]
  go_wp2_with fail
  refine (isnum cut _).mono ?_
  rintro e w1 ⟨rfl, rfl⟩
  rw [hc]
  go_wp2_with fail
  refine (cuts b _ hb).mono ?_
  rintro e w1 ⟨rfl, rfl⟩
  go_wp2_with fail
  refine (cuts b _ hb).mono ?_
  rintro e w1 ⟨rfl, rfl⟩
  obtain ⟨hr0, hr1⟩ := rnd_bd b
  generalize hrr : rnd b = r at hr0 hr1 hm0 hm1 hm2 hl t1 t2 t3 ⊢
  go_wp2_with fail
  refine (isnum (next - next % r + cut + r) _).mono ?_
  rintro e w1 ⟨rfl, rfl⟩
  rw [t2]
  go_wp2
  go_ret2
  rw [← hrr]; exact ⟨rfl, rfl⟩

set_option maxRecDepth 100000 in
set_option maxHeartbeats 2000000 in
theorem whole_c (cut b next : Int) (w : World) (hn : mayB next = true) (hb : lenB b = true) (hc : mayB cut = true) (hl : cut < rnd b)
    (t1 : next - next % rnd b + cut < next) (t2 : mayB (next - next % rnd b + cut + rnd b) = false) :
    Calls Tryd.prog 21 #[.int .i64 cut, .int .i64 b, .int .i64 next] w fun e w' => e = .returned (.tuple #[.int .i64 (next - next % rnd b + cut), .nilIface]) ∧ w' = w := by
  obtain ⟨n0, n1⟩ := mayB_yes hn
  obtain ⟨c0, c1⟩ := mayB_yes hc
  have hm0 : 0 ≤ next % rnd b := Int.emod_nonneg next (by have := rnd_bd b; omega)
  have hm1 : next % rnd b < rnd b := Int.emod_lt_of_pos next (by have := rnd_bd b; omega)
  have hm2 : next % rnd b ≤ next := emod_le_self n0 (by have := rnd_bd b; omega)
  go_enter Tryd.func21, Tryd.ntmps21
  go_wp2_with fail
  refine (isnum next _).mono ?_
  rintro e w1 ⟨rfl, rfl⟩
  rw [hn]
  go_wp2_with fail
  refine (islen b _).mono ?_
  rintro e w1 ⟨rfl, rfl⟩
  rw [hb]
  go_wp2_with fail
  refine (isnum cut _).mono ?_
  rintro e w1 ⟨rfl, rfl⟩
  rw [hc]
  go_wp2_with fail
  refine (cuts b _ hb).mono ?_
  rintro e w1 ⟨rfl, rfl⟩
  go_wp2_with fail
  refine (cuts b _ hb).mono ?_
  rintro e w1 ⟨rfl, rfl⟩
  obtain ⟨hr0, hr1⟩ := rnd_bd b
  generalize hrr : rnd b = r at hr0 hr1 hm0 hm1 hm2 hl t1 t2 ⊢
  go_wp2_with fail
  refine (isnum (next - next % r + cut + r) _).mono ?_
  rintro e w1 ⟨rfl, rfl⟩
  rw [t2]
  go_wp2
  go_ret2
  rw [← hrr]; exact ⟨rfl, rfl⟩

set_option maxRecDepth 100000 in
set_option maxHeartbeats 2000000 in
theorem whole_d (cut b next : Int) (w : World) (hn : mayB next = true) (hb : lenB b = true) (hc : mayB cut = true) (hl : cut < rnd b)
    (t1 : next - next % rnd b + cut = next) :
    Calls Tryd.prog 21 #[.int .i64 cut, .int .i64 b, .int .i64 next] w fun e w' => e = .returned (.tuple #[.int .i64 (next), .nilIface]) ∧ w' = w := by
  obtain ⟨n0, n1⟩ := mayB_yes hn
  obtain ⟨c0, c1⟩ := mayB_yes hc
  have hm0 : 0 ≤ next % rnd b := Int.emod_nonneg next (by have := rnd_bd b; omega)
  have hm1 : next % rnd b < rnd b := Int.emod_lt_of_pos next (by have := rnd_bd b; omega)
  have hm2 : next % rnd b ≤ next := emod_le_self n0 (by have := rnd_bd b; omega)
  go_enter Tryd.func21, Tryd.ntmps21
  go_wp2_with fail
  refine (isnum next _).mono ?_
  rintro e w1 ⟨rfl, rfl⟩
  rw [hn]
  go_wp2_with fail
  refine (islen b _).mono ?_
  rintro e w1 ⟨rfl, rfl⟩
  rw [hb]
  go_wp2_with fail
  refine (isnum cut _).mono ?_
  rintro e w1 ⟨rfl, rfl⟩
  rw [hc]
  go_wp2_with fail
  refine (cuts b _ hb).mono ?_
  rintro e w1 ⟨rfl, rfl⟩
  go_wp2_with fail
  refine (cuts b _ hb).mono ?_
  rintro e w1 ⟨rfl, rfl⟩
  obtain ⟨hr0, hr1⟩ := rnd_bd b
  generalize hrr : rnd b = r at hr0 hr1 hm0 hm1 hm2 hl t1 ⊢
  go_wp2
  go_ret2
  rw [← hrr]; exact ⟨rfl, rfl⟩

set_option maxRecDepth 100000 in
set_option maxHeartbeats 2000000 in
theorem whole_e (cut b next : Int) (w : World) (hn : mayB next = true) (hb : lenB b = true) (hc : mayB cut = true) (hl : cut < rnd b)
    (t1 : next < next - next % rnd b + cut) (t2 : mayB (next - next % rnd b + cut - rnd b) = true) (t3 : next - (next - next % rnd b + cut - rnd b) < next - next % rnd b + cut - next) :
    Calls Tryd.prog 21 #[.int .i64 cut, .int .i64 b, .int .i64 next] w fun e w' => e = .returned (.tuple #[.int .i64 (next - next % rnd b + cut - rnd b), .nilIface]) ∧ w' = w := by
  obtain ⟨n0, n1⟩ := mayB_yes hn
  obtain ⟨c0, c1⟩ := mayB_yes hc
  have hm0 : 0 ≤ next % rnd b := Int.emod_nonneg next (by have := rnd_bd b; omega)
  have hm1 : next % rnd b < rnd b := Int.emod_lt_of_pos next (by have := rnd_bd b; omega)
  have hm2 : next % rnd b ≤ next := emod_le_self n0 (by have := rnd_bd b; omega)
  go_enter Tryd.func21, Tryd.ntmps21
  go_wp2_with fail
  refine (isnum next _).mono ?_
  rintro e w1 ⟨rfl, rfl⟩
  rw [hn]
  go_wp2_with fail
  refine (islen b _).mono ?_
  rintro e w1 ⟨rfl, rfl⟩
  rw [hb]
  go_wp2_with fail
  refine (isnum cut _).mono ?_
  rintro e w1 ⟨rfl, rfl⟩
  rw [hc]
  go_wp2_with fail
  refine (cuts b _ hb).mono ?_
  rintro e w1 ⟨rfl, rfl⟩
  go_wp2_with fail
  refine (cuts b _ hb).mono ?_
  rintro e w1 ⟨rfl, rfl⟩
  obtain ⟨hr0, hr1⟩ := rnd_bd b
  generalize hrr : rnd b = r at hr0 hr1 hm0 hm1 hm2 hl t1 t2 t3 ⊢
  go_wp2_with fail
  refine (isnum (next - next % r + cut - r) _).mono ?_
  rintro e w1 ⟨rfl, rfl⟩
  rw [t2]
  go_wp2
  go_ret2
  rw [← hrr]; exact ⟨rfl, rfl⟩

set_option maxRecDepth 100000 in
set_option maxHeartbeats 2000000 in
theorem whole_f (cut b next : Int) (w : World) (hn : mayB next = true) (hb : lenB b = true) (hc : mayB cut = true) (hl : cut < rnd b)
    (t1 : next < next - next % rnd b + cut) (t2 : mayB (next - next % rnd b + cut - rnd b) = true) (t3 : next - next % rnd b + cut - next ≤ next - (next - next % rnd b + cut - rnd b)) :
    Calls Tryd.prog 21 #[.int .i64 cut, .int .i64 b, .int .i64 next] w fun e w' => e = .returned (.tuple #[.int .i64 (next - next % rnd b + cut), .nilIface]) ∧ w' = w := by
  obtain ⟨n0, n1⟩ := mayB_yes hn
  obtain ⟨c0, c1⟩ := mayB_yes hc
  have hm0 : 0 ≤ next % rnd b := Int.emod_nonneg next (by have := rnd_bd b; omega)
  have hm1 : next % rnd b < rnd b := Int.emod_lt_of_pos next (by have := rnd_bd b; omega)
  have hm2 : next % rnd b ≤ next := emod_le_self n0 (by have := rnd_bd b; omega)
  go_enter Tryd.func21, Tryd.ntmps21
  go_wp2_with fail
  refine (isnum next _).mono ?_
  rintro e w1 ⟨rfl, rfl⟩
  rw [hn]
  go_wp2_with fail
  refine (islen b _).mono ?_
  rintro e w1 ⟨rfl, rfl⟩
  rw [hb]
  go_wp2_with fail
  refine (isnum cut _).mono ?_
  rintro e w1 ⟨rfl, rfl⟩
  rw [hc]
  go_wp2_with fail
  refine (cuts b _ hb).mono ?_
  rintro e w1 ⟨rfl, rfl⟩
  go_wp2_with fail
  refine (cuts b _ hb).mono ?_
  rintro e w1 ⟨rfl, rfl⟩
  obtain ⟨hr0, hr1⟩ := rnd_bd b
  generalize hrr : rnd b = r at hr0 hr1 hm0 hm1 hm2 hl t1 t2 t3 ⊢
  go_wp2_with fail
  refine (isnum (next - next % r + cut - r) _).mono ?_
  rintro e w1 ⟨rfl, rfl⟩
  rw [t2]
  go_wp2
  go_ret2
  rw [← hrr]; exact ⟨rfl, rfl⟩

set_option maxRecDepth 100000 in
set_option maxHeartbeats 2000000 in
theorem whole_g (cut b next : Int) (w : World) (hn : mayB next = true) (hb : lenB b = true) (hc : mayB cut = true) (hl : cut < rnd b)
    (t1 : next < next - next % rnd b + cut) (t2 : mayB (next - next % rnd b + cut - rnd b) = false) :
    Calls Tryd.prog 21 #[.int .i64 cut, .int .i64 b, .int .i64 next] w fun e w' => e = .returned (.tuple #[.int .i64 (next - next % rnd b + cut), .nilIface]) ∧ w' = w := by
  obtain ⟨n0, n1⟩ := mayB_yes hn
  obtain ⟨c0, c1⟩ := mayB_yes hc
  have hm0 : 0 ≤ next % rnd b := Int.emod_nonneg next (by have := rnd_bd b; omega)
  have hm1 : next % rnd b < rnd b := Int.emod_lt_of_pos next (by have := rnd_bd b; omega)
  have hm2 : next % rnd b ≤ next := emod_le_self n0 (by have := rnd_bd b; omega)
  go_enter Tryd.func21, Tryd.ntmps21
  go_wp2_with fail
  refine (isnum next _).mono ?_
  rintro e w1 ⟨rfl, rfl⟩
  rw [hn]
  go_wp2_with fail
  refine (islen b _).mono ?_
  rintro e w1 ⟨rfl, rfl⟩
  rw [hb]
  go_wp2_with fail
  refine (isnum cut _).mono ?_
  rintro e w1 ⟨rfl, rfl⟩
  rw [hc]
  go_wp2_with fail
  refine (cuts b _ hb).mono ?_
  rintro e w1 ⟨rfl, rfl⟩
  go_wp2_with fail
  refine (cuts b _ hb).mono ?_
  rintro e w1 ⟨rfl, rfl⟩
  obtain ⟨hr0, hr1⟩ := rnd_bd b
  generalize hrr : rnd b = r at hr0 hr1 hm0 hm1 hm2 hl t1 t2 ⊢
  go_wp2_with fail
  refine (isnum (next - next % r + cut - r) _).mono ?_
  rintro e w1 ⟨rfl, rfl⟩
  rw [t2]
  go_wp2
  go_ret2
  rw [← hrr]; exact ⟨rfl, rfl⟩

theorem whole_yes (cut b next : Int) (w : World) (h : wholeB cut b next = true) :
    Calls Tryd.prog 21 #[.int .i64 cut, .int .i64 b, .int .i64 next] w fun e w' => e = .returned (.tuple #[.int .i64 (near cut (rnd b) next), .nilIface]) ∧ w' = w := by
  obtain ⟨⟨⟨hn, hb⟩, hc⟩, hl⟩ : ((mayB next = true ∧ lenB b = true) ∧ mayB cut = true) ∧ cut < rnd b := by simpa [wholeB] using h
  by_cases t1 : next - next % rnd b + cut < next
  · cases t2 : mayB (next - next % rnd b + cut + rnd b) with
    | false =>
      have e : near cut (rnd b) next = next - next % rnd b + cut := by unfold near; rw [if_neg (by rw [t2]; simp), if_neg (by omega)]
      rw [e]; exact whole_c cut b next w hn hb hc hl t1 t2
    | true =>
      by_cases t3 : next - next % rnd b + cut + rnd b - next ≤ next - (next - next % rnd b + cut)
      · have e : near cut (rnd b) next = next - next % rnd b + cut + rnd b := by unfold near; rw [if_pos ⟨t1, t2, t3⟩]
        rw [e]; exact whole_a cut b next w hn hb hc hl t1 t2 t3
      · have e : near cut (rnd b) next = next - next % rnd b + cut := by unfold near; rw [if_neg (fun h => t3 h.2.2), if_neg (by omega)]
        rw [e]; exact whole_b cut b next w hn hb hc hl t1 t2 (by omega)
  · by_cases t0 : next - next % rnd b + cut = next
    · have e : near cut (rnd b) next = next := by unfold near; rw [if_neg (by omega), if_neg (by omega)]; exact t0
      rw [e]; exact whole_d cut b next w hn hb hc hl t0
    · have t1' : next < next - next % rnd b + cut := by omega
      cases t2 : mayB (next - next % rnd b + cut - rnd b) with
      | false =>
        have e : near cut (rnd b) next = next - next % rnd b + cut := by unfold near; rw [if_neg (by omega), if_neg (by rw [t2]; simp)]
        rw [e]; exact whole_g cut b next w hn hb hc hl t1' t2
      | true =>
        by_cases t3 : next - (next - next % rnd b + cut - rnd b) < next - next % rnd b + cut - next
        · have e : near cut (rnd b) next = next - next % rnd b + cut - rnd b := by unfold near; rw [if_neg (by omega), if_pos ⟨t1', t2, t3⟩]
          rw [e]; exact whole_e cut b next w hn hb hc hl t1' t2 t3
        · have e : near cut (rnd b) next = next - next % rnd b + cut := by unfold near; rw [if_neg (by omega), if_neg (fun h => t3 h.2.2)]
          rw [e]; exact whole_f cut b next w hn hb hc hl t1' t2 (by omega)


/-- How far from 0. -/
def far (x : Int) : Int := if x < 0 then -x else x
theorem mayB_iff (n : Int) : mayB n = true ↔ 0 ≤ n ∧ n ≤ 1073741823 := by simp [mayB]
theorem wholeB_iff (cut b next : Int) : wholeB cut b next = true ↔ ((mayB next = true ∧ lenB b = true) ∧ mayB cut = true) ∧ cut < rnd b := by simp [wholeB]
theorem lenB_rnd {b : Int} (h : lenB b = true) : rnd b = 256 ∨ rnd b = 65536 ∨ rnd b = 16777216 ∨ rnd b = 4294967296 := by
  rcases lenB_yes h with rfl | rfl | rfl | rfl <;> simp [rnd]

theorem rnd_1 : rnd 1 = 256 := by simp [rnd]
theorem rnd_2 : rnd 2 = 65536 := by simp [rnd]
theorem rnd_3 : rnd 3 = 16777216 := by simp [rnd]
theorem rnd_4 : rnd 4 = 4294967296 := by simp [rnd]
theorem near_spec (cut b next : Int) (h : wholeB cut b next = true) :
    (0 ≤ near cut (rnd b) next ∧ near cut (rnd b) next ≤ 1073741823) ∧ near cut (rnd b) next % rnd b = cut ∧
    (rnd b ≤ near cut (rnd b) next → far (near cut (rnd b) next - next) ≤ far (near cut (rnd b) next - rnd b - next)) ∧
    (near cut (rnd b) next + rnd b ≤ 1073741823 → far (near cut (rnd b) next - next) < far (near cut (rnd b) next + rnd b - next)) := by
  obtain ⟨⟨⟨hn, hb⟩, hc⟩, hl⟩ := (wholeB_iff _ _ _).1 h
  obtain ⟨n0, n1⟩ := mayB_yes hn
  obtain ⟨c0, c1⟩ := mayB_yes hc
  rcases lenB_rnd hb with e | e | e | e
  all_goals
    rw [e] at hl ⊢
    have hx : ∃ x, x = near cut (rnd b) next := ⟨_, rfl⟩
    rw [e] at hx
    obtain ⟨x, hx⟩ := hx
    rw [← hx]
    unfold near at hx
    simp only [mayB_iff] at hx
    unfold far
    split at hx
    · refine ⟨?_, ?_, ?_, ?_⟩ <;> (try intro hh) <;> (repeat' split) <;> omega
    · split at hx
      · refine ⟨?_, ?_, ?_, ?_⟩ <;> (try intro hh) <;> (repeat' split) <;> omega
      · refine ⟨?_, ?_, ?_, ?_⟩ <;> (try intro hh) <;> (repeat' split) <;> omega

theorem told_right (n k more : Int) (h : pairB n k = true) (h0 : k ≤ more) (h1 : more < n) :
    wholeB (n % rnd (need n k)) (need n k) (more + 1) = true ∧ near (n % rnd (need n k)) (rnd (need n k)) (more + 1) = n := by
  obtain ⟨a0, a1, a2, a3⟩ := pairB_yes h
  have hl := need_len n k
  have hb : (need n k = 1 ∧ 2 * (n - k) ≤ 256) ∨ (need n k = 2 ∧ 2 * (n - k) ≤ 65536) ∨ (need n k = 3 ∧ 2 * (n - k) ≤ 16777216) ∨ (need n k = 4 ∧ 2 * (n - k) ≤ 4294967296) := by
    unfold need
    by_cases a : 2 * (n - k) ≤ 256
    · left; simp [a]
    · by_cases b : 2 * (n - k) ≤ 65536
      · right; left; simp [a, b]
      · by_cases c : 2 * (n - k) ≤ 16777216
        · right; right; left; simp [a, b, c]
        · right; right; right; simp [a, b, c]; omega
  rcases hb with ⟨e, hr⟩ | ⟨e, hr⟩ | ⟨e, hr⟩ | ⟨e, hr⟩
  all_goals
    rw [e] at hl ⊢
    constructor
    · rw [wholeB_iff]
      refine ⟨⟨⟨?_, hl⟩, ?_⟩, ?_⟩
      · rw [mayB_iff]; omega
      · rw [mayB_iff]; simp [rnd]; omega
      · simp [rnd]; omega
    · have hx : ∃ x, x = near (n % rnd (need n k)) (rnd (need n k)) (more + 1) := ⟨_, rfl⟩
      rw [e] at hx
      obtain ⟨x, hx⟩ := hx
      rw [← hx]
      simp only [rnd_1, rnd_2, rnd_3, rnd_4] at hx
      unfold near at hx
      simp only [mayB_iff] at hx
      split at hx
      · omega
      · split at hx
        · omega
        · omega

end Go.Proofs.YtoabfilliiopmaaDoor.U
