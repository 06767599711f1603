/- What the laws of package run need. -/
import Derived.Test.YtdokgalidhmbbaaGreatDoorHF
set_option linter.unusedVariables false
set_option linter.unusedSimpArgs false
set_option maxRecDepth 100000
set_option maxHeartbeats 8000000
namespace Go.Proofs.YtdokgalidhmbbaaGreatDoor.U
open Go.RowKit


/-- May a number be? -/
def mayB (n : Int) : Bool := decide (0 ≤ n ∧ n ≤ 1073741823)
theorem mayB_yes {n : Int} (h : mayB n = true) : 0 ≤ n ∧ n ≤ 1073741823 := of_decide_eq_true h
theorem mayB_no {n : Int} (h : mayB n = false) : n < 0 ∨ 1073741823 < n := by
  have : ¬ (0 ≤ n ∧ n ≤ 1073741823) := of_decide_eq_false h
  omega

set_option maxRecDepth 100000 in
set_option maxHeartbeats 2000000 in
theorem isnum_yes (n : Int) (w : World) (h0 : 0 ≤ n) (h1 : n ≤ 1073741823) :
    Calls Tryz.prog 110 #[.int .i64 n] w fun e w' => e = .returned (.bool true) ∧ w' = w := by
  go_enter Tryz.func110, Tryz.ntmps110
  go_wp2
  go_ret
  exact ⟨rfl, rfl⟩
set_option maxRecDepth 100000 in
set_option maxHeartbeats 2000000 in
theorem isnum_lo (n : Int) (w : World) (h0 : n < 0) :
    Calls Tryz.prog 110 #[.int .i64 n] w fun e w' => e = .returned (.bool false) ∧ w' = w := by
  go_enter Tryz.func110, Tryz.ntmps110
  go_wp2
  go_ret
  exact ⟨rfl, rfl⟩
set_option maxRecDepth 100000 in
set_option maxHeartbeats 2000000 in
theorem isnum_hi (n : Int) (w : World) (h0 : 1073741823 < n) :
    Calls Tryz.prog 110 #[.int .i64 n] w fun e w' => e = .returned (.bool false) ∧ w' = w := by
  go_enter Tryz.func110, Tryz.ntmps110
  go_wp2
  go_ret
  exact ⟨by simp <;> omega, rfl⟩
theorem isnum (n : Int) (w : World) :
    Calls Tryz.prog 110 #[.int .i64 n] w fun e w' => e = .returned (.bool (mayB n)) ∧ w' = w := by
  cases h : mayB n with
  | true => exact isnum_yes n w (mayB_yes h).1 (mayB_yes h).2
  | false => rcases mayB_no h with h | h
             · exact isnum_lo n w h
             · exact isnum_hi n w h

/-- Can a cut have so many bytes? -/
def lenB (b : Int) : Bool := decide (1 ≤ b ∧ b ≤ 4)
theorem lenB_yes {b : Int} (h : lenB b = true) : b = 1 ∨ b = 2 ∨ b = 3 ∨ b = 4 := by
  have : 1 ≤ b ∧ b ≤ 4 := of_decide_eq_true h
  omega
theorem lenB_no {b : Int} (h : lenB b = false) : b < 1 ∨ 4 < b := by
  have : ¬ (1 ≤ b ∧ b ≤ 4) := of_decide_eq_false h
  omega
set_option maxRecDepth 100000 in
set_option maxHeartbeats 2000000 in
theorem islen_yes (b : Int) (w : World) (h0 : 1 ≤ b) (h1 : b ≤ 4) :
    Calls Tryz.prog 204 #[.int .i64 b] w fun e w' => e = .returned (.bool true) ∧ w' = w := by
  go_enter Tryz.func204, Tryz.ntmps204
  go_wp2
  go_ret
  exact ⟨rfl, rfl⟩
set_option maxRecDepth 100000 in
set_option maxHeartbeats 2000000 in
theorem islen_lo (b : Int) (w : World) (h0 : b < 1) :
    Calls Tryz.prog 204 #[.int .i64 b] w fun e w' => e = .returned (.bool false) ∧ w' = w := by
  go_enter Tryz.func204, Tryz.ntmps204
  go_wp2
  go_ret
  exact ⟨rfl, rfl⟩
set_option maxRecDepth 100000 in
set_option maxHeartbeats 2000000 in
theorem islen_hi (b : Int) (w : World) (h0 : 4 < b) :
    Calls Tryz.prog 204 #[.int .i64 b] w fun e w' => e = .returned (.bool false) ∧ w' = w := by
  go_enter Tryz.func204, Tryz.ntmps204
  go_wp2
  go_ret
  exact ⟨by simp <;> omega, rfl⟩
theorem islen (b : Int) (w : World) :
    Calls Tryz.prog 204 #[.int .i64 b] w fun e w' => e = .returned (.bool (lenB b)) ∧ w' = w := by
  cases h : lenB b with
  | true => exact islen_yes b w (by rcases lenB_yes h with h | h | h | h <;> omega) (by rcases lenB_yes h with h | h | h | h <;> omega)
  | false => rcases lenB_no h with h | h
             · exact islen_lo b w h
             · exact islen_hi b w h

/-- 256 so many times. -/
def rnd (b : Int) : Int := if b = 1 then 256 else if b = 2 then 65536 else if b = 3 then 16777216 else 4294967296
theorem rnd_bd (b : Int) : 256 ≤ rnd b ∧ rnd b ≤ 4294967296 := by unfold rnd; repeat' split <;> omega

set_option maxRecDepth 100000 in
set_option maxHeartbeats 2000000 in
theorem cuts_1 (w : World) :
    Calls Tryz.prog 111 #[.int .i64 1] w fun e w' => e = .returned (.int .i64 256) ∧ w' = w := by
  go_enter Tryz.func111, Tryz.ntmps111
  go_wp2
  go_ret
  exact ⟨rfl, rfl⟩

set_option maxRecDepth 100000 in
set_option maxHeartbeats 2000000 in
theorem cuts_2 (w : World) :
    Calls Tryz.prog 111 #[.int .i64 2] w fun e w' => e = .returned (.int .i64 65536) ∧ w' = w := by
  go_enter Tryz.func111, Tryz.ntmps111
  go_wp2
  go_ret
  exact ⟨rfl, rfl⟩

set_option maxRecDepth 100000 in
set_option maxHeartbeats 2000000 in
theorem cuts_3 (w : World) :
    Calls Tryz.prog 111 #[.int .i64 3] w fun e w' => e = .returned (.int .i64 16777216) ∧ w' = w := by
  go_enter Tryz.func111, Tryz.ntmps111
  go_wp2
  go_ret
  exact ⟨rfl, rfl⟩

set_option maxRecDepth 100000 in
set_option maxHeartbeats 2000000 in
theorem cuts_4 (w : World) :
    Calls Tryz.prog 111 #[.int .i64 4] w fun e w' => e = .returned (.int .i64 4294967296) ∧ w' = w := by
  go_enter Tryz.func111, Tryz.ntmps111
  go_wp2
  go_ret
  exact ⟨rfl, rfl⟩

theorem cuts (b : Int) (w : World) (h : lenB b = true) :
    Calls Tryz.prog 111 #[.int .i64 b] w fun e w' => e = .returned (.int .i64 (rnd b)) ∧ w' = w := by
  rcases lenB_yes h with rfl | rfl | rfl | rfl
  · exact cuts_1 w
  · exact cuts_2 w
  · exact cuts_3 w
  · exact cuts_4 w

set_option maxRecDepth 100000 in
set_option maxHeartbeats 2000000 in
theorem cut_yes (n b : Int) (w : World) (h : mayB n = true) (hb : lenB b = true) :
    Calls Tryz.prog 176 #[.int .i64 n, .int .i64 b] w fun e w' => e = .returned (.tuple #[.int .i64 (n % rnd b), .nilIface]) ∧ w' = w := by
  obtain ⟨h0, h1⟩ := mayB_yes h
  go_enter Tryz.func176, Tryz.ntmps176
  go_wp2_with fail
  refine (isnum n _).mono ?_
  rintro e w1 ⟨rfl, rfl⟩
  rw [h]
  go_wp2_with fail
  refine (islen b _).mono ?_
  rintro e w1 ⟨rfl, rfl⟩
  rw [hb]
  go_wp2_with fail
  refine (cuts b _ hb).mono ?_
  rintro e w1 ⟨rfl, rfl⟩
  have hr : 256 ≤ rnd b ∧ rnd b ≤ 4294967296 := rnd_bd b
  generalize hrr : rnd b = r at hr ⊢
  obtain ⟨hr0, hr1⟩ := hr
  have ht : n.tmod r = n % r := Int.tmod_eq_emod_of_nonneg h0
  have hm0 : 0 ≤ n % r := Int.emod_nonneg n (by omega)
  have hm1 : n % r < r := Int.emod_lt_of_pos n (by omega)
  go_wp2
  go_ret2
  rw [← hrr]; exact ⟨rfl, rfl⟩


/-- How many bytes, of twice n less known. -/
def need (n known : Int) : Int := if 2 * (n - known) ≤ 256 then 1 else if 2 * (n - known) ≤ 65536 then 2 else if 2 * (n - known) ≤ 16777216 then 3 else 4
theorem need_len (n known : Int) : lenB (need n known) = true := by unfold need; (repeat' split) <;> rfl
/-- Are they such? -/
def pairB (n known : Int) : Bool := decide (0 ≤ n ∧ n ≤ 1073741823 ∧ -1 ≤ known ∧ known < n)
theorem pairB_yes {n known : Int} (h : pairB n known = true) : 0 ≤ n ∧ n ≤ 1073741823 ∧ -1 ≤ known ∧ known < n := of_decide_eq_true h
theorem pairB_no {n known : Int} (h : pairB n known = false) : mayB n = false ∨ (mayB n = true ∧ known < -1) ∨ (mayB n = true ∧ -1 ≤ known ∧ n ≤ known) := by
  have h' : ¬ (0 ≤ n ∧ n ≤ 1073741823 ∧ -1 ≤ known ∧ known < n) := of_decide_eq_false h
  cases hm : mayB n with
  | false => exact Or.inl rfl
  | true =>
    obtain ⟨a, b⟩ := mayB_yes hm
    right
    by_cases c : known < -1
    · exact Or.inl ⟨rfl, c⟩
    · exact Or.inr ⟨rfl, by omega, by omega⟩
set_option maxRecDepth 100000 in
set_option maxHeartbeats 2000000 in
theorem need_no1 (n k : Int) (w : World) (h : mayB n = false) :
    Calls Tryz.prog 83 #[.int .i64 n, .int .i64 k] w fun e w' => e = .returned (.tuple #[.int .i64 0, .iface 133 (.int .i64 1)]) ∧ w' = w := by
  go_enter Tryz.func83, Tryz.ntmps83
  go_wp2_with fail
  refine (isnum n _).mono ?_
  rintro e w1 ⟨rfl, rfl⟩
  rw [h]
  go_wp2
  go_ret2
  exact ⟨rfl, rfl⟩
set_option maxRecDepth 100000 in
set_option maxHeartbeats 2000000 in
theorem need_no2 (n k : Int) (w : World) (h : mayB n = true) (hk : k < -1) :
    Calls Tryz.prog 83 #[.int .i64 n, .int .i64 k] w fun e w' => e = .returned (.tuple #[.int .i64 0, .iface 133 (.int .i64 1)]) ∧ w' = w := by
  go_enter Tryz.func83, Tryz.ntmps83
  go_wp2_with fail
  refine (isnum n _).mono ?_
  rintro e w1 ⟨rfl, rfl⟩
  rw [h]
  go_wp2
  go_ret2
  exact ⟨rfl, rfl⟩
set_option maxRecDepth 100000 in
set_option maxHeartbeats 2000000 in
theorem need_no3 (n k : Int) (w : World) (h : mayB n = true) (hk : -1 ≤ k) (hn : n ≤ k) :
    Calls Tryz.prog 83 #[.int .i64 n, .int .i64 k] w fun e w' => e = .returned (.tuple #[.int .i64 0, .iface 133 (.int .i64 1)]) ∧ w' = w := by
  go_enter Tryz.func83, Tryz.ntmps83
  go_wp2_with fail
  refine (isnum n _).mono ?_
  rintro e w1 ⟨rfl, rfl⟩
  rw [h]
  go_wp2
  go_ret2
  exact ⟨rfl, rfl⟩
theorem need_no (n k : Int) (w : World) (h : pairB n k = false) :
    Calls Tryz.prog 83 #[.int .i64 n, .int .i64 k] w fun e w' => e = .returned (.tuple #[.int .i64 0, .iface 133 (.int .i64 1)]) ∧ w' = w := by
  rcases pairB_no h with h | ⟨h, h1⟩ | ⟨h, h1, h2⟩
  · exact need_no1 n k w h
  · exact need_no2 n k w h h1
  · exact need_no3 n k w h h1 h2

set_option maxRecDepth 100000 in
set_option maxHeartbeats 2000000 in
theorem need_1 (n k : Int) (w : World) (h : pairB n k = true) (hhi : 2 * (n - k) ≤ 256) :
    Calls Tryz.prog 83 #[.int .i64 n, .int .i64 k] w fun e w' => e = .returned (.tuple #[.int .i64 1, .nilIface]) ∧ w' = w := by
  obtain ⟨h0, h1, h2, h3⟩ := pairB_yes h
  have hm : mayB n = true := decide_eq_true ⟨h0, h1⟩
  go_enter Tryz.func83, Tryz.ntmps83
  go_wp2_with fail
  refine (isnum n _).mono ?_
  rintro e w1 ⟨rfl, rfl⟩
  rw [hm]
  go_wp2_with fail
  refine wp_loop_rounds 2 ?_
  rw [rounds_succ]
  go_wp2_with fail
  refine (cuts_1 _).mono ?_
  rintro e w1 ⟨rfl, rfl⟩
  go_wp2_with fail
  go_ret2
  exact ⟨rfl, rfl⟩

set_option maxRecDepth 100000 in
set_option maxHeartbeats 2000000 in
theorem need_2 (n k : Int) (w : World) (h : pairB n k = true) (hlo : 256 < 2 * (n - k)) (hhi : 2 * (n - k) ≤ 65536) :
    Calls Tryz.prog 83 #[.int .i64 n, .int .i64 k] w fun e w' => e = .returned (.tuple #[.int .i64 2, .nilIface]) ∧ w' = w := by
  obtain ⟨h0, h1, h2, h3⟩ := pairB_yes h
  have hm : mayB n = true := decide_eq_true ⟨h0, h1⟩
  go_enter Tryz.func83, Tryz.ntmps83
  go_wp2_with fail
  refine (isnum n _).mono ?_
  rintro e w1 ⟨rfl, rfl⟩
  rw [hm]
  go_wp2_with fail
  refine wp_loop_rounds 3 ?_
  rw [rounds_succ]
  go_wp2_with fail
  refine (cuts_1 _).mono ?_
  rintro e w1 ⟨rfl, rfl⟩
  go_wp2_with fail
  rw [rounds_succ]
  go_wp2_with fail
  refine (cuts_2 _).mono ?_
  rintro e w1 ⟨rfl, rfl⟩
  go_wp2_with fail
  go_ret2
  exact ⟨rfl, rfl⟩

set_option maxRecDepth 100000 in
set_option maxHeartbeats 2000000 in
theorem need_3 (n k : Int) (w : World) (h : pairB n k = true) (hlo : 65536 < 2 * (n - k)) (hhi : 2 * (n - k) ≤ 16777216) :
    Calls Tryz.prog 83 #[.int .i64 n, .int .i64 k] w fun e w' => e = .returned (.tuple #[.int .i64 3, .nilIface]) ∧ w' = w := by
  obtain ⟨h0, h1, h2, h3⟩ := pairB_yes h
  have hm : mayB n = true := decide_eq_true ⟨h0, h1⟩
  go_enter Tryz.func83, Tryz.ntmps83
  go_wp2_with fail
  refine (isnum n _).mono ?_
  rintro e w1 ⟨rfl, rfl⟩
  rw [hm]
  go_wp2_with fail
  refine wp_loop_rounds 4 ?_
  rw [rounds_succ]
  go_wp2_with fail
  refine (cuts_1 _).mono ?_
  rintro e w1 ⟨rfl, rfl⟩
  go_wp2_with fail
  rw [rounds_succ]
  go_wp2_with fail
  refine (cuts_2 _).mono ?_
  rintro e w1 ⟨rfl, rfl⟩
  go_wp2_with fail
  rw [rounds_succ]
  go_wp2_with fail
  refine (cuts_3 _).mono ?_
  rintro e w1 ⟨rfl, rfl⟩
  go_wp2_with fail
  go_ret2
  exact ⟨rfl, rfl⟩

set_option maxRecDepth 100000 in
set_option maxHeartbeats 2000000 in
theorem need_4 (n k : Int) (w : World) (h : pairB n k = true) (hlo : 16777216 < 2 * (n - k)) :
    Calls Tryz.prog 83 #[.int .i64 n, .int .i64 k] w fun e w' => e = .returned (.tuple #[.int .i64 4, .nilIface]) ∧ w' = w := by
  obtain ⟨h0, h1, h2, h3⟩ := pairB_yes h
  have hm : mayB n = true := decide_eq_true ⟨h0, h1⟩
  go_enter Tryz.func83, Tryz.ntmps83
  go_wp2_with fail
  refine (isnum n _).mono ?_
  rintro e w1 ⟨rfl, rfl⟩
  rw [hm]
  go_wp2_with fail
  refine wp_loop_rounds 5 ?_
  rw [rounds_succ]
  go_wp2_with fail
  refine (cuts_1 _).mono ?_
  rintro e w1 ⟨rfl, rfl⟩
  go_wp2_with fail
  rw [rounds_succ]
  go_wp2_with fail
  refine (cuts_2 _).mono ?_
  rintro e w1 ⟨rfl, rfl⟩
  go_wp2_with fail
  rw [rounds_succ]
  go_wp2_with fail
  refine (cuts_3 _).mono ?_
  rintro e w1 ⟨rfl, rfl⟩
  go_wp2_with fail
  rw [rounds_succ]
  go_wp2_with fail
  refine (cuts_4 _).mono ?_
  rintro e w1 ⟨rfl, rfl⟩
  go_wp2_with fail
  go_ret2
  exact ⟨rfl, rfl⟩

theorem need_yes (n k : Int) (w : World) (h : pairB n k = true) :
    Calls Tryz.prog 83 #[.int .i64 n, .int .i64 k] w fun e w' => e = .returned (.tuple #[.int .i64 (need n k), .nilIface]) ∧ w' = w := by
  by_cases a : 2 * (n - k) ≤ 256
  · have e : need n k = 1 := by simp [need, a]
    rw [e]; exact need_1 n k w h a
  by_cases b : 2 * (n - k) ≤ 65536
  · have e : need n k = 2 := by simp [need, a, b]
    rw [e]; exact need_2 n k w h (by omega) b
  by_cases c : 2 * (n - k) ≤ 16777216
  · have e : need n k = 3 := by simp [need, a, b, c]
    rw [e]; exact need_3 n k w h (by omega) c
  · have e : need n k = 4 := by simp [need, a, b, c]
    rw [e]; exact need_4 n k w h (by omega)


theorem emod_le_self {n r : Int} (h0 : 0 ≤ n) (hr : 0 < r) : n % r ≤ n := by
  by_cases h : n < r
  · rw [Int.emod_eq_of_lt h0 h]; exact Int.le_refl _
  · have := Int.emod_lt_of_pos n hr
    omega
/-- Of the numbers that are cut so that nearest to next, of two as near the greater one: as package number has it; r: 256 so many times. -/
def near (cut r next : Int) : Int :=
  if next - next % r + cut < next ∧ mayB (next - next % r + cut + r) = true ∧ next - next % r + cut + r - next ≤ next - (next - next % r + cut) then next - next % r + cut + r
  else if next < next - next % r + cut ∧ mayB (next - next % r + cut - r) = true ∧ next - (next - next % r + cut - r) < next - next % r + cut - next then next - next % r + cut - r
  else next - next % r + cut
/-- Is there one? -/
def wholeB (cut b next : Int) : Bool := mayB next && lenB b && mayB cut && decide (cut < rnd b)

set_option maxRecDepth 100000 in
set_option maxHeartbeats 2000000 in
theorem whole_no1 (cut b next : Int) (w : World) (hn : mayB next = false) :
    Calls Tryz.prog 178 #[.int .i64 cut, .int .i64 b, .int .i64 next] w fun e w' => e = .returned (.tuple #[.int .i64 0, .iface 133 (.int .i64 1)]) ∧ w' = w := by
  go_enter Tryz.func178, Tryz.ntmps178
  go_wp2_with fail
  refine (isnum next _).mono ?_
  rintro e w1 ⟨rfl, rfl⟩
  rw [hn]
  go_wp2
  go_ret2
  exact ⟨rfl, rfl⟩

set_option maxRecDepth 100000 in
set_option maxHeartbeats 2000000 in
theorem whole_no2 (cut b next : Int) (w : World) (hn : mayB next = true) (hb : lenB b = false) :
    Calls Tryz.prog 178 #[.int .i64 cut, .int .i64 b, .int .i64 next] w fun e w' => e = .returned (.tuple #[.int .i64 0, .iface 133 (.int .i64 1)]) ∧ w' = w := by
  go_enter Tryz.func178, Tryz.ntmps178
  go_wp2_with fail
  refine (isnum next _).mono ?_
  rintro e w1 ⟨rfl, rfl⟩
  rw [hn]
  go_wp2_with fail
  refine (islen b _).mono ?_
  rintro e w1 ⟨rfl, rfl⟩
  rw [hb]
  go_wp2
  go_ret2
  exact ⟨rfl, rfl⟩

set_option maxRecDepth 100000 in
set_option maxHeartbeats 2000000 in
theorem whole_no3 (cut b next : Int) (w : World) (hn : mayB next = true) (hb : lenB b = true) (hc : mayB cut = false) :
    Calls Tryz.prog 178 #[.int .i64 cut, .int .i64 b, .int .i64 next] w fun e w' => e = .returned (.tuple #[.int .i64 0, .iface 133 (.int .i64 1)]) ∧ w' = w := by
  go_enter Tryz.func178, Tryz.ntmps178
  go_wp2_with fail
  refine (isnum next _).mono ?_
  rintro e w1 ⟨rfl, rfl⟩
  rw [hn]
  go_wp2_with fail
  refine (islen b _).mono ?_
  rintro e w1 ⟨rfl, rfl⟩
  rw [hb]
  go_wp2_with fail
  refine (isnum cut _).mono ?_
  rintro e w1 ⟨rfl, rfl⟩
  rw [hc]
  go_wp2
  go_ret2
  exact ⟨rfl, rfl⟩

set_option maxRecDepth 100000 in
set_option maxHeartbeats 2000000 in
theorem whole_no4 (cut b next : Int) (w : World) (hn : mayB next = true) (hb : lenB b = true) (hc : mayB cut = true) (hl : rnd b ≤ cut) :
    Calls Tryz.prog 178 #[.int .i64 cut, .int .i64 b, .int .i64 next] w fun e w' => e = .returned (.tuple #[.int .i64 0, .iface 133 (.int .i64 1)]) ∧ w' = w := by
  go_enter Tryz.func178, Tryz.ntmps178
  go_wp2_with fail
  refine (isnum next _).mono ?_
  rintro e w1 ⟨rfl, rfl⟩
  rw [hn]
  go_wp2_with fail
  refine (islen b _).mono ?_
  rintro e w1 ⟨rfl, rfl⟩
  rw [hb]
  go_wp2_with fail
  refine (isnum cut _).mono ?_
  rintro e w1 ⟨rfl, rfl⟩
  rw [hc]
  go_wp2_with fail
  refine (cuts b _ hb).mono ?_
  rintro e w1 ⟨rfl, rfl⟩
  go_wp2
  go_ret2
  exact ⟨rfl, rfl⟩

theorem whole_no (cut b next : Int) (w : World) (h : wholeB cut b next = false) :
    Calls Tryz.prog 178 #[.int .i64 cut, .int .i64 b, .int .i64 next] w fun e w' => e = .returned (.tuple #[.int .i64 0, .iface 133 (.int .i64 1)]) ∧ w' = w := by
  cases hn : mayB next with
  | false => exact whole_no1 cut b next w hn
  | true =>
    cases hb : lenB b with
    | false => exact whole_no2 cut b next w hn hb
    | true =>
      cases hc : mayB cut with
      | false => exact whole_no3 cut b next w hn hb hc
      | true =>
        refine whole_no4 cut b next w hn hb hc ?_
        by_cases hl : cut < rnd b
        · simp [wholeB, hn, hb, hc, hl] at h
        · omega

set_option maxRecDepth 100000 in
set_option maxHeartbeats 2000000 in
theorem whole_a (cut b next : Int) (w : World) (hn : mayB next = true) (hb : lenB b = true) (hc : mayB cut = true) (hl : cut < rnd b)
    (t1 : next - next % rnd b + cut < next) (t2 : mayB (next - next % rnd b + cut + rnd b) = true) (t3 : next - next % rnd b + cut + rnd b - next ≤ next - (next - next % rnd b + cut)) :
    Calls Tryz.prog 178 #[.int .i64 cut, .int .i64 b, .int .i64 next] w fun e w' => e = .returned (.tuple #[.int .i64 (next - next % rnd b + cut + rnd b), .nilIface]) ∧ w' = w := by
  obtain ⟨n0, n1⟩ := mayB_yes hn
  obtain ⟨c0, c1⟩ := mayB_yes hc
  have hm0 : 0 ≤ next % rnd b := Int.emod_nonneg next (by have := rnd_bd b; omega)
  have hm1 : next % rnd b < rnd b := Int.emod_lt_of_pos next (by have := rnd_bd b; omega)
  have hm2 : next % rnd b ≤ next := emod_le_self n0 (by have := rnd_bd b; omega)
  go_enter Tryz.func178, Tryz.ntmps178
  go_wp2_with fail
  refine (isnum next _).mono ?_
  rintro e w1 ⟨rfl, rfl⟩
  rw [hn]
  go_wp2_with fail
  refine (islen b _).mono ?_
  rintro e w1 ⟨rfl, rfl⟩
  rw [hb]
  go_wp2_with fail
  refine (isnum cut _).mono ?_
  rintro e w1 ⟨rfl, rfl⟩
  rw [hc]
  go_wp2_with fail
  refine (cuts b _ hb).mono ?_
  rintro e w1 ⟨rfl, rfl⟩
  go_wp2_with fail
  refine (cuts b _ hb).mono ?_
  rintro e w1 ⟨rfl, rfl⟩
  obtain ⟨hr0, hr1⟩ := rnd_bd b
  generalize hrr : rnd b = r at hr0 hr1 hm0 hm1 hm2 hl t1 t2 t3 ⊢
  go_wp2_with fail
  refine (isnum (next - next % r + cut + r) _).mono ?_
  rintro e w1 ⟨rfl, rfl⟩
  rw [t2]
  go_wp2
  go_ret2
  rw [← hrr]; exact ⟨rfl, rfl⟩

set_option maxRecDepth 100000 in
set_option maxHeartbeats 2000000 in
theorem whole_b (cut b next : Int) (w : World) (hn : mayB next = true) (hb : lenB b = true) (hc : mayB cut = true) (hl : cut < rnd b)
    (t1 : next - next % rnd b + cut < next) (t2 : mayB (next - next % rnd b + cut + rnd b) = true) (t3 : next - (next - next % rnd b + cut) < next - next % rnd b + cut + rnd b - next) :
    Calls Tryz.prog 178 #[.int .i64 cut, .int .i64 b, .int .i64 next] w fun e w' => e = .returned (.tuple #[.int .i64 (next - next % rnd b + cut), .nilIface]) ∧ w' = w := by
  obtain ⟨n0, n1⟩ := mayB_yes hn
  obtain ⟨c0, c1⟩ := mayB_yes hc
  have hm0 : 0 ≤ next % rnd b := Int.emod_nonneg next (by have := rnd_bd b; omega)
  have hm1 : next % rnd b < rnd b := Int.emod_lt_of_pos next (by have := rnd_bd b; omega)
  have hm2 : next % rnd b ≤ next := emod_le_self n0 (by have := rnd_bd b; omega)
  go_enter Tryz.func178, Tryz.ntmps178
  go_wp2_with fail
  refine (isnum next _).mono ?_
  rintro e w1 ⟨rfl, rfl⟩
  rw [hn]
  go_wp2_with fail
  refine (islen b _).mono ?_
  rintro e w1 ⟨rfl, rfl⟩
  rw [hb]
  go_wp2_with fail
  refine (isnum cut _).mono ?_
  rintro e w1 ⟨rfl, rfl⟩
  rw [hc]
  go_wp2_with fail
  refine (cuts b _ hb).mono ?_
  rintro e w1 ⟨rfl, rfl⟩
  go_wp2_with fail
  refine (cuts b _ hb).mono ?_
  rintro e w1 ⟨rfl, rfl⟩
  obtain ⟨hr0, hr1⟩ := rnd_bd b
  generalize hrr : rnd b = r at hr0 hr1 hm0 hm1 hm2 hl t1 t2 t3 ⊢
  go_wp2_with fail
  refine (isnum (next - next % r + cut + r) _).mono ?_
  rintro e w1 ⟨rfl, rfl⟩
  rw [t2]
  go_wp2
  go_ret2
  rw [← hrr]; exact ⟨rfl, rfl⟩

set_option maxRecDepth 100000 in
set_option maxHeartbeats 2000000 in
theorem whole_c (cut b next : Int) (w : World) (hn : mayB next = true) (hb : lenB b = true) (hc : mayB cut = true) (hl : cut < rnd b)
    (t1 : next - next % rnd b + cut < next) (t2 : mayB (next - next % rnd b + cut + rnd b) = false) :
    Calls Tryz.prog 178 #[.int .i64 cut, .int .i64 b, .int .i64 next] w fun e w' => e = .returned (.tuple #[.int .i64 (next - next % rnd b + cut), .nilIface]) ∧ w' = w := by
  obtain ⟨n0, n1⟩ := mayB_yes hn
  obtain ⟨c0, c1⟩ := mayB_yes hc
  have hm0 : 0 ≤ next % rnd b := Int.emod_nonneg next (by have := rnd_bd b; omega)
  have hm1 : next % rnd b < rnd b := Int.emod_lt_of_pos next (by have := rnd_bd b; omega)
  have hm2 : next % rnd b ≤ next := emod_le_self n0 (by have := rnd_bd b; omega)
  go_enter Tryz.func178, Tryz.ntmps178
  go_wp2_with fail
  refine (isnum next _).mono ?_
  rintro e w1 ⟨rfl, rfl⟩
  rw [hn]
  go_wp2_with fail
  refine (islen b _).mono ?_
  rintro e w1 ⟨rfl, rfl⟩
  rw [hb]
  go_wp2_with fail
  refine (isnum cut _).mono ?_
  rintro e w1 ⟨rfl, rfl⟩
  rw [hc]
  go_wp2_with fail
  refine (cuts b _ hb).mono ?_
  rintro e w1 ⟨rfl, rfl⟩
  go_wp2_with fail
  refine (cuts b _ hb).mono ?_
  rintro e w1 ⟨rfl, rfl⟩
  obtain ⟨hr0, hr1⟩ := rnd_bd b
  generalize hrr : rnd b = r at hr0 hr1 hm0 hm1 hm2 hl t1 t2 ⊢
  go_wp2_with fail
  refine (isnum (next - next % r + cut + r) _).mono ?_
  rintro e w1 ⟨rfl, rfl⟩
  rw [t2]
  go_wp2
  go_ret2
  rw [← hrr]; exact ⟨rfl, rfl⟩

set_option maxRecDepth 100000 in
set_option maxHeartbeats 2000000 in
theorem whole_d (cut b next : Int) (w : World) (hn : mayB next = true) (hb : lenB b = true) (hc : mayB cut = true) (hl : cut < rnd b)
    (t1 : next - next % rnd b + cut = next) :
    Calls Tryz.prog 178 #[.int .i64 cut, .int .i64 b, .int .i64 next] w fun e w' => e = .returned (.tuple #[.int .i64 (next), .nilIface]) ∧ w' = w := by
  obtain ⟨n0, n1⟩ := mayB_yes hn
  obtain ⟨c0, c1⟩ := mayB_yes hc
  have hm0 : 0 ≤ next % rnd b := Int.emod_nonneg next (by have := rnd_bd b; omega)
  have hm1 : next % rnd b < rnd b := Int.emod_lt_of_pos next (by have := rnd_bd b; omega)
  have hm2 : next % rnd b ≤ next := emod_le_self n0 (by have := rnd_bd b; omega)
  go_enter Tryz.func178, Tryz.ntmps178
  go_wp2_with fail
  refine (isnum next _).mono ?_
  rintro e w1 ⟨rfl, rfl⟩
  rw [hn]
  go_wp2_with fail
  refine (islen b _).mono ?_
  rintro e w1 ⟨rfl, rfl⟩
  rw [hb]
  go_wp2_with fail
  refine (isnum cut _).mono ?_
  rintro e w1 ⟨rfl, rfl⟩
  rw [hc]
  go_wp2_with fail
  refine (cuts b _ hb).mono ?_
  rintro e w1 ⟨rfl, rfl⟩
  go_wp2_with fail
  refine (cuts b _ hb).mono ?_
  rintro e w1 ⟨rfl, rfl⟩
  obtain ⟨hr0, hr1⟩ := rnd_bd b
  generalize hrr : rnd b = r at hr0 hr1 hm0 hm1 hm2 hl t1 ⊢
  go_wp2
  go_ret2
  rw [← hrr]; exact ⟨rfl, rfl⟩

set_option maxRecDepth 100000 in
set_option maxHeartbeats 2000000 in
theorem whole_e (cut b next : Int) (w : World) (hn : mayB next = true) (hb : lenB b = true) (hc : mayB cut = true) (hl : cut < rnd b)
    (t1 : next < next - next % rnd b + cut) (t2 : mayB (next - next % rnd b + cut - rnd b) = true) (t3 : next - (next - next % rnd b + cut - rnd b) < next - next % rnd b + cut - next) :
    Calls Tryz.prog 178 #[.int .i64 cut, .int .i64 b, .int .i64 next] w fun e w' => e = .returned (.tuple #[.int .i64 (next - next % rnd b + cut - rnd b), .nilIface]) ∧ w' = w := by
  obtain ⟨n0, n1⟩ := mayB_yes hn
  obtain ⟨c0, c1⟩ := mayB_yes hc
  have hm0 : 0 ≤ next % rnd b := Int.emod_nonneg next (by have := rnd_bd b; omega)
  have hm1 : next % rnd b < rnd b := Int.emod_lt_of_pos next (by have := rnd_bd b; omega)
  have hm2 : next % rnd b ≤ next := emod_le_self n0 (by have := rnd_bd b; omega)
  go_enter Tryz.func178, Tryz.ntmps178
  go_wp2_with fail
  refine (isnum next _).mono ?_
  rintro e w1 ⟨rfl, rfl⟩
  rw [hn]
  go_wp2_with fail
  refine (islen b _).mono ?_
  rintro e w1 ⟨rfl, rfl⟩
  rw [hb]
  go_wp2_with fail
  refine (isnum cut _).mono ?_
  rintro e w1 ⟨rfl, rfl⟩
  rw [hc]
  go_wp2_with fail
  refine (cuts b _ hb).mono ?_
  rintro e w1 ⟨rfl, rfl⟩
  go_wp2_with fail
  refine (cuts b _ hb).mono ?_
  rintro e w1 ⟨rfl, rfl⟩
  obtain ⟨hr0, hr1⟩ := rnd_bd b
  generalize hrr : rnd b = r at hr0 hr1 hm0 hm1 hm2 hl t1 t2 t3 ⊢
  go_wp2_with fail
  refine (isnum (next - next % r + cut - r) _).mono ?_
  rintro e w1 ⟨rfl, rfl⟩
  rw [t2]
  go_wp2
  go_ret2
  rw [← hrr]; exact ⟨rfl, rfl⟩

set_option maxRecDepth 100000 in
set_option maxHeartbeats 2000000 in
theorem whole_f (cut b next : Int) (w : World) (hn : mayB next = true) (hb : lenB b = true) (hc : mayB cut = true) (hl : cut < rnd b)
    (t1 : next < next - next % rnd b + cut) (t2 : mayB (next - next % rnd b + cut - rnd b) = true) (t3 : next - next % rnd b + cut - next ≤ next - (next - next % rnd b + cut - rnd b)) :
    Calls Tryz.prog 178 #[.int .i64 cut, .int .i64 b, .int .i64 next] w fun e w' => e = .returned (.tuple #[.int .i64 (next - next % rnd b + cut), .nilIface]) ∧ w' = w := by
  obtain ⟨n0, n1⟩ := mayB_yes hn
  obtain ⟨c0, c1⟩ := mayB_yes hc
  have hm0 : 0 ≤ next % rnd b := Int.emod_nonneg next (by have := rnd_bd b; omega)
  have hm1 : next % rnd b < rnd b := Int.emod_lt_of_pos next (by have := rnd_bd b; omega)
  have hm2 : next % rnd b ≤ next := emod_le_self n0 (by have := rnd_bd b; omega)
  go_enter Tryz.func178, Tryz.ntmps178
  go_wp2_with fail
  refine (isnum next _).mono ?_
  rintro e w1 ⟨rfl, rfl⟩
  rw [hn]
  go_wp2_with fail
  refine (islen b _).mono ?_
  rintro e w1 ⟨rfl, rfl⟩
  rw [hb]
  go_wp2_with fail
  refine (isnum cut _).mono ?_
  rintro e w1 ⟨rfl, rfl⟩
  rw [hc]
  go_wp2_with fail
  refine (cuts b _ hb).mono ?_
  rintro e w1 ⟨rfl, rfl⟩
  go_wp2_with fail
  refine (cuts b _ hb).mono ?_
  rintro e w1 ⟨rfl, rfl⟩
  obtain ⟨hr0, hr1⟩ := rnd_bd b
  generalize hrr : rnd b = r at hr0 hr1 hm0 hm1 hm2 hl t1 t2 t3 ⊢
  go_wp2_with fail
  refine (isnum (next - next % r + cut - r) _).mono ?_
  rintro e w1 ⟨rfl, rfl⟩
  rw [t2]
  go_wp2
  go_ret2
  rw [← hrr]; exact ⟨rfl, rfl⟩

set_option maxRecDepth 100000 in
set_option maxHeartbeats 2000000 in
theorem whole_g (cut b next : Int) (w : World) (hn : mayB next = true) (hb : lenB b = true) (hc : mayB cut = true) (hl : cut < rnd b)
    (t1 : next < next - next % rnd b + cut) (t2 : mayB (next - next % rnd b + cut - rnd b) = false) :
    Calls Tryz.prog 178 #[.int .i64 cut, .int .i64 b, .int .i64 next] w fun e w' => e = .returned (.tuple #[.int .i64 (next - next % rnd b + cut), .nilIface]) ∧ w' = w := by
  obtain ⟨n0, n1⟩ := mayB_yes hn
  obtain ⟨c0, c1⟩ := mayB_yes hc
  have hm0 : 0 ≤ next % rnd b := Int.emod_nonneg next (by have := rnd_bd b; omega)
  have hm1 : next % rnd b < rnd b := Int.emod_lt_of_pos next (by have := rnd_bd b; omega)
  have hm2 : next % rnd b ≤ next := emod_le_self n0 (by have := rnd_bd b; omega)
  go_enter Tryz.func178, Tryz.ntmps178
  go_wp2_with fail
  refine (isnum next _).mono ?_
  rintro e w1 ⟨rfl, rfl⟩
  rw [hn]
  go_wp2_with fail
  refine (islen b _).mono ?_
  rintro e w1 ⟨rfl, rfl⟩
  rw [hb]
  go_wp2_with fail
  refine (isnum cut _).mono ?_
  rintro e w1 ⟨rfl, rfl⟩
  rw [hc]
  go_wp2_with fail
  refine (cuts b _ hb).mono ?_
  rintro e w1 ⟨rfl, rfl⟩
  go_wp2_with fail
  refine (cuts b _ hb).mono ?_
  rintro e w1 ⟨rfl, rfl⟩
  obtain ⟨hr0, hr1⟩ := rnd_bd b
  generalize hrr : rnd b = r at hr0 hr1 hm0 hm1 hm2 hl t1 t2 ⊢
  go_wp2_with fail
  refine (isnum (next - next % r + cut - r) _).mono ?_
  rintro e w1 ⟨rfl, rfl⟩
  rw [t2]
  go_wp2
  go_ret2
  rw [← hrr]; exact ⟨rfl, rfl⟩

theorem whole_yes (cut b next : Int) (w : World) (h : wholeB cut b next = true) :
    Calls Tryz.prog 178 #[.int .i64 cut, .int .i64 b, .int .i64 next] w fun e w' => e = .returned (.tuple #[.int .i64 (near cut (rnd b) next), .nilIface]) ∧ w' = w := by
  obtain ⟨⟨⟨hn, hb⟩, hc⟩, hl⟩ : ((mayB next = true ∧ lenB b = true) ∧ mayB cut = true) ∧ cut < rnd b := by simpa [wholeB] using h
  by_cases t1 : next - next % rnd b + cut < next
  · cases t2 : mayB (next - next % rnd b + cut + rnd b) with
    | false =>
      have e : near cut (rnd b) next = next - next % rnd b + cut := by unfold near; rw [if_neg (by rw [t2]; simp), if_neg (by omega)]
      rw [e]; exact whole_c cut b next w hn hb hc hl t1 t2
    | true =>
      by_cases t3 : next - next % rnd b + cut + rnd b - next ≤ next - (next - next % rnd b + cut)
      · have e : near cut (rnd b) next = next - next % rnd b + cut + rnd b := by unfold near; rw [if_pos ⟨t1, t2, t3⟩]
        rw [e]; exact whole_a cut b next w hn hb hc hl t1 t2 t3
      · have e : near cut (rnd b) next = next - next % rnd b + cut := by unfold near; rw [if_neg (fun h => t3 h.2.2), if_neg (by omega)]
        rw [e]; exact whole_b cut b next w hn hb hc hl t1 t2 (by omega)
  · by_cases t0 : next - next % rnd b + cut = next
    · have e : near cut (rnd b) next = next := by unfold near; rw [if_neg (by omega), if_neg (by omega)]; exact t0
      rw [e]; exact whole_d cut b next w hn hb hc hl t0
    · have t1' : next < next - next % rnd b + cut := by omega
      cases t2 : mayB (next - next % rnd b + cut - rnd b) with
      | false =>
        have e : near cut (rnd b) next = next - next % rnd b + cut := by unfold near; rw [if_neg (by omega), if_neg (by rw [t2]; simp)]
        rw [e]; exact whole_g cut b next w hn hb hc hl t1' t2
      | true =>
        by_cases t3 : next - (next - next % rnd b + cut - rnd b) < next - next % rnd b + cut - next
        · have e : near cut (rnd b) next = next - next % rnd b + cut - rnd b := by unfold near; rw [if_neg (by omega), if_pos ⟨t1', t2, t3⟩]
          rw [e]; exact whole_e cut b next w hn hb hc hl t1' t2 t3
        · have e : near cut (rnd b) next = next - next % rnd b + cut := by unfold near; rw [if_neg (by omega), if_neg (fun h => t3 h.2.2)]
          rw [e]; exact whole_f cut b next w hn hb hc hl t1' t2 (by omega)


/-- How far from 0. -/
def far (x : Int) : Int := if x < 0 then -x else x
theorem mayB_iff (n : Int) : mayB n = true ↔ 0 ≤ n ∧ n ≤ 1073741823 := by simp [mayB]
theorem wholeB_iff (cut b next : Int) : wholeB cut b next = true ↔ ((mayB next = true ∧ lenB b = true) ∧ mayB cut = true) ∧ cut < rnd b := by simp [wholeB]
theorem lenB_rnd {b : Int} (h : lenB b = true) : rnd b = 256 ∨ rnd b = 65536 ∨ rnd b = 16777216 ∨ rnd b = 4294967296 := by
  rcases lenB_yes h with rfl | rfl | rfl | rfl <;> simp [rnd]

theorem rnd_1 : rnd 1 = 256 := by simp [rnd]
theorem rnd_2 : rnd 2 = 65536 := by simp [rnd]
theorem rnd_3 : rnd 3 = 16777216 := by simp [rnd]
theorem rnd_4 : rnd 4 = 4294967296 := by simp [rnd]
theorem near_spec (cut b next : Int) (h : wholeB cut b next = true) :
    (0 ≤ near cut (rnd b) next ∧ near cut (rnd b) next ≤ 1073741823) ∧ near cut (rnd b) next % rnd b = cut ∧
    (rnd b ≤ near cut (rnd b) next → far (near cut (rnd b) next - next) ≤ far (near cut (rnd b) next - rnd b - next)) ∧
    (near cut (rnd b) next + rnd b ≤ 1073741823 → far (near cut (rnd b) next - next) < far (near cut (rnd b) next + rnd b - next)) := by
  obtain ⟨⟨⟨hn, hb⟩, hc⟩, hl⟩ := (wholeB_iff _ _ _).1 h
  obtain ⟨n0, n1⟩ := mayB_yes hn
  obtain ⟨c0, c1⟩ := mayB_yes hc
  rcases lenB_rnd hb with e | e | e | e
  all_goals
    rw [e] at hl ⊢
    have hx : ∃ x, x = near cut (rnd b) next := ⟨_, rfl⟩
    rw [e] at hx
    obtain ⟨x, hx⟩ := hx
    rw [← hx]
    unfold near at hx
    simp only [mayB_iff] at hx
    unfold far
    split at hx
    · refine ⟨?_, ?_, ?_, ?_⟩ <;> (try intro hh) <;> (repeat' split) <;> omega
    · split at hx
      · refine ⟨?_, ?_, ?_, ?_⟩ <;> (try intro hh) <;> (repeat' split) <;> omega
      · refine ⟨?_, ?_, ?_, ?_⟩ <;> (try intro hh) <;> (repeat' split) <;> omega

/-- The greatest that is cut so and no greater than next, where there is one: else the cut. -/
def low (cut r next : Int) : Int := if cut < next then cut + (next - cut) / r * r else cut
end Go.Proofs.YtdokgalidhmbbaaGreatDoor.U
namespace Go.Proofs.YtdokgalidhmbbaaGreatDoor
open Go.RowKit Go.Lib Go.Sort


abbrev F := Int × List Int × ByteArray
def fF (f : F) : Int := frF f.1 f.2.1 f.2.2
def fS (f : F) : ByteArray := frS f.1 f.2.1 f.2.2
def fat (l : List F) (j : Nat) : F := l[j]?.getD (0, [], { data := #[] })
/-- What is wrong with the first frame that is wrong. -/
def fsF : List F → Int
  | [] => 0
  | f :: fs => if fF f ≠ 0 then fF f else fsF fs
/-- Their bytes, one behind the other. -/
def fsS : List F → ByteArray
  | [] => { data := #[] }
  | f :: fs => fS f ++ fsS fs
theorem fat_cons (f : F) (l : List F) (j : Nat) : fat (f :: l) (j + 1) = fat l j := by simp [fat]
theorem fat_zero (f : F) (l : List F) : fat (f :: l) 0 = f := by simp [fat]
theorem fat_get {l : List F} {j : Nat} (h : j < l.length) : fat l j = l[j] := by simp [fat, h]
theorem fat_mem {l : List F} {j : Nat} (h : j < l.length) : fat l j ∈ l := by rw [fat_get h]; exact List.getElem_mem h
theorem fsF_at : ∀ (l : List F) (k : Nat), k < l.length → (∀ j, j < k → fF (fat l j) = 0) → fF (fat l k) ≠ 0 → fsF l = fF (fat l k)
  | [], k, h, _, _ => by simp at h
  | f :: l, 0, _, _, hn => by
    rw [fat_zero] at hn ⊢
    simp [fsF, hn]
  | f :: l, k + 1, h, h0, hn => by
    have e := h0 0 (by omega)
    rw [fat_zero] at e
    rw [fat_cons] at hn ⊢
    simp only [fsF, e, ne_eq, not_true, if_false]
    exact fsF_at l k (by simpa using h) (fun j hj => by have := h0 (j + 1) (by omega); rwa [fat_cons] at this) hn
theorem fsF_ok : ∀ (l : List F), (∀ j, j < l.length → fF (fat l j) = 0) → fsF l = 0
  | [], _ => rfl
  | f :: l, h => by
    have e := h 0 (by simp)
    rw [fat_zero] at e
    simp only [fsF, e, ne_eq, not_true, if_false]
    exact fsF_ok l (fun j hj => by have := h (j + 1) (by simpa using hj); rwa [fat_cons] at this)
theorem fsF_all : ∀ (l : List F), fsF l = 0 → ∀ j, j < l.length → fF (fat l j) = 0
  | [], _, j, h => by simp at h
  | f :: l, h, j, hj => by
    by_cases e : fF f = 0
    · simp only [fsF, e, ne_eq, not_true, if_false] at h
      cases j with
      | zero => rw [fat_zero]; exact e
      | succ j => rw [fat_cons]; exact fsF_all l h j (by simpa using hj)
    · simp only [fsF, ne_eq, e, not_false_iff, if_true] at h
theorem ba_assoc (a b c : ByteArray) : a ++ b ++ c = a ++ (b ++ c) := by
  apply ints_inj
  simp only [V.ints_app, List.append_assoc]
theorem ba_nil (a : ByteArray) : a ++ ({ data := #[] } : ByteArray) = a := by
  apply ints_inj
  rw [V.ints_app]
  show V.ints a ++ [] = _
  simp
theorem nil_ba (a : ByteArray) : ({ data := #[] } : ByteArray) ++ a = a := by
  apply ints_inj
  rw [V.ints_app]
  rfl
theorem fsS_append : ∀ (a b : List F), fsS (a ++ b) = fsS a ++ fsS b
  | [], b => by simp only [List.nil_append, fsS]; rw [nil_ba]
  | f :: a, b => by simp only [List.cons_append, fsS, fsS_append a b, ba_assoc]
theorem fsS_one (f : F) : fsS [f] = fS f := by simp only [fsS]; rw [ba_nil]
theorem fsS_next {l : List F} {k : Nat} (h : k < l.length) : fsS (l.take (k + 1)) = fsS (l.take k) ++ fS (fat l k) := by
  rw [List.take_succ_eq_append_getElem h, fsS_append, fsS_one, fat_get h]
/-- The bytes of a number that is cut, the greatest first. -/
def numB (n b : Int) : List Int := if b = 1 then [n % 256] else if b = 2 then [n / 256 % 256, n % 256] else if b = 3 then [n / 65536 % 256, n / 256 % 256, n % 256] else [n / 16777216 % 256, n / 65536 % 256, n / 256 % 256, n % 256]
def pkN (n k : Int) : ByteArray := strOfNums [U.need n k] ++ strOfNums (numB n (U.need n k))
def pkS (n k : Int) (l : List F) : ByteArray := pkN n k ++ fsS l
/-- What is wrong with a packet. -/
def pkF (n k : Int) (l : List F) : Int := if U.pairB n k = false then 1 else if l.length = 0 then 5 else if 12 < l.length then 4 else if fsF l ≠ 0 then fsF l else if 200 < (pkS n k l).size then 4 else 0
theorem numB_length {n b : Int} (h : U.lenB b = true) : ((numB n b).length : Int) = b := by
  rcases U.lenB_yes h with rfl | rfl | rfl | rfl <;> rfl
theorem numB_bytes (n b : Int) : Bytes (numB n b) := by
  have h : ∀ m : Int, 0 ≤ m % 256 ∧ m % 256 < 256 := fun m => by omega
  unfold numB Bytes
  intro z hz
  split at hz
  · simp at hz; subst hz; exact h _
  · split at hz
    · simp at hz; rcases hz with rfl | rfl <;> exact h _
    · split at hz
      · simp at hz; rcases hz with rfl | rfl | rfl <;> exact h _
      · simp at hz; rcases hz with rfl | rfl | rfl | rfl <;> exact h _

/-- Bytes as one number, the greatest first. -/
def big (l : List Int) : Int := l.foldl (fun c x => 256 * c + x) 0
theorem big_next {l : List Int} {k : Nat} (h : k < l.length) : big (l.take (k + 1)) = 256 * big (l.take k) + l[k]?.getD 0 := by
  rw [List.take_succ_eq_append_getElem h, List.getElem?_eq_getElem h]
  unfold big
  rw [List.foldl_append]
  rfl
theorem big_bd {l : List Int} (hl : Bytes l) : ∀ k, k ≤ l.length → 0 ≤ big (l.take k) ∧ big (l.take k) < (256 : Int) ^ k := by
  intro k
  induction k with
  | zero => intro _; simp [big]
  | succ k ih =>
    intro h
    have i := ih (by omega)
    have hb : 0 ≤ l[k]?.getD 0 ∧ l[k]?.getD 0 < 256 := by
      rw [List.getElem?_eq_getElem (by omega)]
      exact hl _ (List.getElem_mem _)
    rw [big_next (by omega), Int.pow_succ]
    generalize l[k]?.getD 0 = y at hb
    generalize big (l.take k) = z at i
    generalize (256 : Int) ^ k = p at i
    omega
theorem big_small {l : List Int} (hl : Bytes l) (k : Nat) (h : k ≤ l.length) (h3 : k ≤ 3) : 0 ≤ big (l.take k) ∧ big (l.take k) < 16777216 := by
  have i := big_bd hl k h
  have : (256 : Int) ^ k ≤ 16777216 := by
    match k, h3 with
    | 0, _ => decide
    | 1, _ => decide
    | 2, _ => decide
    | 3, _ => decide
  omega
/-- All frames that bytes are, to the last byte, where there are no more than k of them. -/
def rdLk : Nat → ByteArray → Option (List F)
  | 0, s => if s.size = 0 then some [] else none
  | k + 1, s => if s.size = 0 then some [] else
    match rdF s with
    | none => none
    | some x => (rdLk k (s.extract x.2 s.size)).map (x.1 :: ·)
/-- All frames that bytes are, to the last byte. -/
def rdL (s : ByteArray) : Option (List F) := rdLk s.size s
theorem rdLk_enough : ∀ (k j : Nat) (s : ByteArray), s.size ≤ k → s.size ≤ j → rdLk k s = rdLk j s := by
  intro k
  induction k with
  | zero =>
    intro j s hk _
    have h0 : s.size = 0 := by omega
    cases j with
    | zero => rfl
    | succ j => simp only [rdLk, if_pos h0]
  | succ k ih =>
    intro j s hk hj
    by_cases h0 : s.size = 0
    · cases j with
      | zero => simp only [rdLk, if_pos h0]
      | succ j => simp only [rdLk, if_pos h0]
    · cases j with
      | zero => omega
      | succ j =>
        simp only [rdLk, if_neg h0]
        cases h1 : rdF s with
        | none => rfl
        | some x =>
          obtain ⟨⟨a, ns, d⟩, n⟩ := x
          have hi := rdF_inv h1
          have hz : (s.extract n s.size).size = s.size - n := by rw [ByteArray.size_extract]; omega
          simp only
          rw [ih j (s.extract n s.size) (by omega) (by omega)]
theorem rdL_nil {s : ByteArray} (h : s.size = 0) : rdL s = some [] := by
  unfold rdL
  rw [h]
  simp only [rdLk, if_pos h]
theorem rdL_none {s : ByteArray} (h : s.size ≠ 0) (h1 : rdF s = none) : rdL s = none := by
  obtain ⟨m, hm⟩ : ∃ m, s.size = m + 1 := ⟨s.size - 1, by omega⟩
  unfold rdL
  rw [hm]
  simp only [rdLk, if_neg h, h1]
theorem rdL_some {s : ByteArray} {f : F} {n : Nat} (h : s.size ≠ 0) (h1 : rdF s = some (f, n)) : rdL s = (rdL (s.extract n s.size)).map (f :: ·) := by
  obtain ⟨m, hm⟩ : ∃ m, s.size = m + 1 := ⟨s.size - 1, by omega⟩
  obtain ⟨a, ns, d⟩ := f
  have hi := rdF_inv h1
  have hz : (s.extract n s.size).size = s.size - n := by rw [ByteArray.size_extract]; omega
  have e : rdL s = (rdLk m (s.extract n s.size)).map ((a, ns, d) :: ·) := by
    show rdLk s.size s = _
    conv => lhs; rw [hm]
    simp only [rdLk, if_neg h, h1]
  rw [e, rdLk_enough m (s.extract n s.size).size _ (by omega) (Nat.le_refl _)]
  rfl
theorem rdL_ne {s : ByteArray} (h : s.size ≠ 0) : rdL s ≠ some [] := by
  intro e
  cases h1 : rdF s with
  | none => rw [rdL_none h h1] at e; cases e
  | some x =>
    obtain ⟨f, n⟩ := x
    rw [rdL_some h h1] at e
    cases h2 : rdL (s.extract n s.size) with
    | none => rw [h2] at e; cases e
    | some y => rw [h2] at e; cases e
/-- Some of them were read, and these bytes are left. -/
def rdLA (L : List F) (s : ByteArray) : Option (List F) := (rdL s).map (L ++ ·)
theorem rdLA_start (s : ByteArray) : rdLA [] s = rdL s := by unfold rdLA; cases rdL s <;> simp
theorem rdLA_nil {L : List F} {s : ByteArray} (h : s.size = 0) : rdLA L s = some L := by simp [rdLA, rdL_nil h]
theorem rdLA_none {L : List F} {s : ByteArray} (h : s.size ≠ 0) (h1 : rdF s = none) : rdLA L s = none := by simp [rdLA, rdL_none h h1]
theorem rdLA_some {L : List F} {s : ByteArray} {f : F} {n : Nat} (h : s.size ≠ 0) (h1 : rdF s = some (f, n)) : rdLA L s = rdLA (L ++ [f]) (s.extract n s.size) := by
  unfold rdLA
  rw [rdL_some h h1]
  cases rdL (s.extract n s.size) <;> simp
theorem rdLA_good {L : List F} {s : ByteArray} {f : F} {n : Nat} (h1 : rdF s = some (f, n)) : fF f = 0 ∧ 1 ≤ n ∧ n ≤ s.size := by
  obtain ⟨k, ns, d⟩ := f
  have := rdF_inv h1
  exact ⟨this.1, this.2.1, this.2.2.1⟩
/-- From one to twelve of them. -/
def fin (o : Option (List F)) : Option (List F) := o.bind fun l => if l.length = 0 ∨ 12 < l.length then none else some l
theorem fin_full {L : List F} {s : ByteArray} (hL : L.length = 12) (h : s.size ≠ 0) : fin (rdLA L s) = none := by
  unfold rdLA
  cases h1 : rdL s with
  | none => rfl
  | some y =>
    have hy : y.length ≠ 0 := fun e => by rw [List.eq_nil_of_length_eq_zero e] at h1; exact rdL_ne h h1
    simp only [Option.map_some, fin, Option.bind_some]
    rw [if_pos (by rw [List.length_append]; omega)]
theorem fin_some {l : List F} (h : 1 ≤ l.length) (h2 : l.length ≤ 12) : fin (some l) = some l := by
  simp only [fin, Option.bind_some]
  rw [if_neg (by omega)]
/-- The number that a packet's bytes begin with, and how many these are. -/
def rdN (s : ByteArray) (next : Int) : Option (Int × Nat) := match V.ints s with
  | [] => none
  | k :: l => if U.lenB k = false ∨ (l.length : Int) < k then none else if U.wholeB (big (l.take k.toNat)) k next = false then none else some (U.near (big (l.take k.toNat)) (U.rnd k) next, 1 + k.toNat)
def rdP (s : ByteArray) (next : Int) : Option (Int × List F) := (rdN s next).bind fun x => (fin (rdL (s.extract x.2 s.size))).map fun l => (x.1, l)
/-- What is wrong with bytes as a packet. -/
def opF (s : ByteArray) (next : Int) : Int := if U.mayB next = false then 1 else if 200 < s.size then 4 else if rdP s next = none then 2 else 0
theorem pkF_ok {n k : Int} {l : List F} (h : pkF n k l = 0) : U.pairB n k = true ∧ 1 ≤ l.length ∧ l.length ≤ 12 ∧ fsF l = 0 ∧ (pkS n k l).size ≤ 200 := by
  unfold pkF at h
  split at h
  · cases h
  · rename_i h1
    split at h
    · cases h
    · split at h
      · cases h
      · split at h
        · contradiction
        · rename_i h4
          split at h
          · cases h
          · exact ⟨by simpa using h1, by omega, by omega, by simpa using h4, by omega⟩
theorem ints_pkN (n k : Int) : V.ints (pkN n k) = U.need n k :: numB n (U.need n k) := by
  unfold pkN
  have h := U.lenB_yes (U.need_len n k)
  rw [V.ints_app, V.ints_nums _ (numB_bytes _ _), V.ints_nums [U.need n k] (fun z hz => by simp at hz; subst hz; omega)]
  rfl


def FCells (w : World) (b off : Nat) (fs : List F) : Prop := ∀ j, j < fs.length → ∃ u, w.cell? ⟨b, off + j * 3, none⟩ = some (.int .i64 (fat fs j).1) ∧ w.cell? ⟨b, off + j * 3 + 1, none⟩ = some u ∧ w.cell? ⟨b, off + j * 3 + 2, none⟩ = some (.string (fat fs j).2.2) ∧ IRow w u (fat fs j).2.1 ∧ (fat fs j).2.2.size ≤ maxLen
/-- The slice's value v holds the frames fs in the world w. -/
def FRow (w : World) (v : Value) (fs : List F) : Prop := ∃ ao c, v = .slice ao fs.length c ∧ fs.length ≤ 9223372036854775807 ∧ fs.length ≤ c ∧ (fs = [] ∨ ∃ b off, ao = some ⟨b, off, none⟩ ∧ b < w.heap.size ∧ FCells w b off fs)
theorem FCells.below {w w' : World} {b off : Nat} {fs : List F} (h : FCells w b off fs) (hb : b < w.heap.size) (bel : Below w.heap.size w w') : FCells w' b off fs := fun j hj => by
  obtain ⟨u, h0, h1, h2, h3, h4⟩ := h j hj
  exact ⟨u, (bel.cell (p := ⟨b, off + j * 3, none⟩) hb).trans h0, (bel.cell (p := ⟨b, off + j * 3 + 1, none⟩) hb).trans h1, (bel.cell (p := ⟨b, off + j * 3 + 2, none⟩) hb).trans h2, h3.below bel, h4⟩
theorem FRow.below {w w' : World} {v : Value} {fs : List F} (h : FRow w v fs) (bel : Below w.heap.size w w') : FRow w' v fs := by
  obtain ⟨ao, c, rfl, hl, hn, h⟩ := h
  refine ⟨ao, c, rfl, hl, hn, ?_⟩
  rcases h with h | ⟨b, off, rfl, hb, hc⟩
  · exact .inl h
  · exact .inr ⟨b, off, rfl, Nat.lt_of_lt_of_le hb bel.size, hc.below hb bel⟩
theorem FRow.shape {w : World} {v : Value} {fs : List F} (h : FRow w v fs) : ∃ ao c, v = .slice ao fs.length c := by
  obtain ⟨ao, c, e, _⟩ := h
  exact ⟨ao, c, e⟩

def uat (us : List Value) (j : Nat) : Value := us[j]?.getD .nilIface
def fcs : List Value → List F → List Value
  | u :: us, f :: fs => .int .i64 f.1 :: u :: .string f.2.2 :: fcs us fs
  | _, _ => []
theorem fcs_get : ∀ (us : List Value) (fs : List F) (j : Nat), us.length = fs.length → j < fs.length → (fcs us fs)[j * 3]? = some (.int .i64 (fat fs j).1) ∧ (fcs us fs)[j * 3 + 1]? = some (uat us j) ∧ (fcs us fs)[j * 3 + 2]? = some (.string (fat fs j).2.2)
  | [], [], j, _, h => by simp at h
  | [], f :: fs, j, h, _ => by simp at h
  | u :: us, [], j, h, _ => by simp at h
  | u :: us, f :: fs, 0, _, _ => by simp [fcs, fat, uat]
  | u :: us, f :: fs, j + 1, h, h1 => by
    have i := fcs_get us fs j (by simpa using h) (by simpa using h1)
    have e1 : (j + 1) * 3 = j * 3 + 1 + 1 + 1 := by omega
    have e2 : uat (u :: us) (j + 1) = uat us j := by simp [uat]
    rw [e1, fat_cons, e2]
    simpa [fcs] using i
theorem fcs_snoc : ∀ (us : List Value) (fs : List F) (u : Value) (f : F), us.length = fs.length → fcs (us ++ [u]) (fs ++ [f]) = fcs us fs ++ [.int .i64 f.1, u, .string f.2.2]
  | [], [], u, f, _ => rfl
  | [], g :: fs, u, f, h => by simp at h
  | v :: us, [], u, f, h => by simp at h
  | v :: us, g :: fs, u, f, h => by simp only [List.cons_append, fcs, fcs_snoc us fs u f (by simpa using h)]
/-- The frames fs lie in a slice that the call made itself, the numbers of each in another such slice; each is right. -/
structure FOwn (w : World) (B : Nat) (v : Value) (us : List Value) (fs : List F) : Prop where
  len : us.length = fs.length
  own : w.ownsRow B 141 3 v fs.length (fcs us fs)
  rows : ∀ j, j < fs.length → OwnI w B (uat us j) (fat fs j).2.1
  good : ∀ j, j < fs.length → fF (fat fs j) = 0
theorem FOwn.nil (w : World) (B : Nat) : FOwn w B (.slice none 0 0) [] [] := ⟨rfl, World.ownsRow_nil _ _ _ _, fun j h => by simp at h, fun j h => by simp at h⟩
theorem FOwn.below {w w' : World} {B : Nat} {v : Value} {us : List Value} {fs : List F} (h : FOwn w B v us fs) (bel : Below w.heap.size w w') : FOwn w' B v us fs :=
  ⟨h.len, own_below h.own bel, fun j hj => (h.rows j hj).below bel, h.good⟩
theorem own_apart {w : World} {B B' n m : Nat} {u v : Value} {xs ys : List Value} (h : w.ownsRow B 3 1 u n xs) (h' : w.ownsRow B' 141 3 v m ys) : u.ownBlock = none ∨ u.ownBlock ≠ v.ownBlock := by
  rcases h.2 with ⟨rfl, _⟩ | ⟨g, cap, cur, rfl, _, hg, _⟩
  · exact .inl rfl
  · right
    intro e
    rcases h'.2 with ⟨rfl, _⟩ | ⟨g', cap', cur', rfl, _, hg', _⟩
    · cases e
    · have : g = g' := by simpa [Value.ownBlock] using e
      subst this
      rw [hg] at hg'
      cases hg'
theorem uat_old {us : List Value} {u : Value} {j : Nat} (h : j < us.length) : uat (us ++ [u]) j = uat us j := by simp [uat, List.getElem?_append_left h]
theorem uat_new {us : List Value} {u : Value} : uat (us ++ [u]) us.length = u := by simp [uat]
theorem fat_old {fs : List F} {f : F} {j : Nat} (h : j < fs.length) : fat (fs ++ [f]) j = fat fs j := by simp [fat, List.getElem?_append_left h]
theorem fat_new {fs : List F} {f : F} : fat (fs ++ [f]) fs.length = f := by simp [fat]
theorem FOwn.app {w w' : World} {B : Nat} {v v' u : Value} {us : List Value} {fs : List F} {f : F} (h : FOwn w B v us fs) (hu : OwnI w B u f.2.1) (hf : fF f = 0)
    (ho : w'.ownsRow B 141 3 v' (fs.length + 1) (fcs us fs ++ [.int .i64 f.1, u, .string f.2.2])) (hg : w.grownBy w' v.ownBlock) : FOwn w' B v' (us ++ [u]) (fs ++ [f]) := by
  refine ⟨by simp [h.len], by rw [fcs_snoc _ _ _ _ h.len, List.length_append]; exact ho, fun j hj => ?_, fun j hj => ?_⟩
  · rw [List.length_append, List.length_cons, List.length_nil] at hj
    by_cases e : j = fs.length
    · rw [e, fat_new, ← h.len, uat_new]
      exact hu.kept hg (own_apart hu h.own)
    · have hj' : j < fs.length := by omega
      rw [fat_old hj', uat_old (by rw [h.len]; exact hj')]
      exact (h.rows j hj').kept hg (own_apart (h.rows j hj') h.own)
  · rw [List.length_append, List.length_cons, List.length_nil] at hj
    by_cases e : j = fs.length
    · rw [e, fat_new]; exact hf
    · rw [fat_old (by omega)]; exact h.good j (by omega)
theorem fF_small {f : F} (h : fF f = 0) : f.2.1.length ≤ 24 ∧ f.2.2.size ≤ 20 := by
  obtain ⟨_, h2, _, _, h5, _⟩ := frF_ok h
  refine ⟨?_, h5⟩
  unfold cntB at h2
  split at h2
  · have := of_decide_eq_true h2; omega
  · have := of_decide_eq_true h2
    rw [this]; unfold cntK; split
    · omega
    · split <;> omega
theorem FOwn.row {w : World} {B : Nat} {v : Value} {us : List Value} {fs : List F} (h : FOwn w B v us fs) (hl : fs.length ≤ 1000000) : FRow w v fs := by
  rcases h.own.2 with ⟨e, h0⟩ | ⟨g, cap, cur, e, hb, hg, hcap, _⟩
  · exact ⟨none, 0, by rw [e, h0], by omega, by omega, .inl (List.eq_nil_of_length_eq_zero h0)⟩
  · refine ⟨some ⟨g, 0, none⟩, cap, e, by omega, hcap, .inr ⟨g, 0, rfl, (Array.getElem?_eq_some_iff.1 hg).1, fun j hj => ?_⟩⟩
    have ho := h.own
    rw [e] at ho
    have f := fcs_get us fs j h.len hj
    have c0 := ho.cells (g := g) rfl _ _ f.1
    have c1 := ho.cells (g := g) rfl _ _ f.2.1
    have c2 := ho.cells (g := g) rfl _ _ f.2.2
    rw [Addr.add_lit] at c0 c1 c2
    have hs := fF_small (h.good j hj)
    exact ⟨_, c0, by rw [← Nat.add_assoc] at c1; exact c1, by rw [← Nat.add_assoc] at c2; exact c2, irow_of_own (h.rows j hj) (by omega), by unfold maxLen; omega⟩
theorem infoF : (Tryz.prog.info? 141).map (fun i => (i.zero, i.size, i.bytes)) = some (some (.agg #[.int .i64 0, .slice none 0 0, .string { data := #[] }]), 3, 48) := by kernel_rfl
theorem cells_frame_new (w : World) (k : Int) (u : Value) (d : ByteArray) (t : TypeId) : ∀ (j : Nat) (u' : Value), [Value.int .i64 k, u, .string d][j]? = some u' → (w.alloc (.cells #[.int .i64 k, u, .string d] t)).cell? ((⟨w.heap.size, 0, none⟩ : Addr).add j) = some u' := by
  intro j u' h
  rw [Addr.add_lit]
  match j, h with
  | 0, h => simp at h; subst h; simp
  | 1, h => simp at h; subst h; simp
  | 2, h => simp at h; subst h; simp
  | j + 3, h => simp at h
theorem frame_one (k : Int) (a : Option Addr) (n c : Nat) (d : ByteArray) : ∀ u' ∈ [Value.int .i64 k, .slice a n c, .string d], u'.oneCell' = true := by
  intro u' h
  simp at h
  rcases h with rfl | rfl | rfl <;> rfl
theorem frS_size {k : Int} {ns : List Int} {d : ByteArray} (h : frF k ns d = 0) : (frS k ns d).size ≤ 121 := by
  have h1 := mid_size h
  have h2 := (frF_ok h).2.2.2.2.1
  unfold frS
  rw [ByteArray.size_append, ByteArray.size_append, strOfNums_size [k]]
  simp only [List.length_cons, List.length_nil]
  omega
theorem fsS_size {l : List F} (h : ∀ j, j < l.length → fF (fat l j) = 0) : ∀ k, k ≤ l.length → (fsS (l.take k)).size ≤ 121 * k := by
  intro k
  induction k with
  | zero => intro _; simp [fsS]; rfl
  | succ k ih =>
    intro hk
    have i := ih (by omega)
    have s : (fS (fat l k)).size ≤ 121 := frS_size (h k (by omega))
    rw [fsS_next (by omega), ByteArray.size_append]
    omega

end Go.Proofs.YtdokgalidhmbbaaGreatDoor
namespace Go.Proofs.YtdokgalidhmbbaaGreatDoor
open Go.RowKit Go.Shelf Go.Lib
attribute [local go_sem] Oper.semAt_some

theorem qmk (b : Nat) (h1 : 1 ≤ b) (h4 : b ≤ 4) (w : World) : (Instr.makeSlice 37 (.int .i64 (b : Int)) (.int .i64 (b : Int))).run Tryz.prog w = .ok (.slice (some ⟨w.heap.size, 0, none⟩) b b) (w.alloc (.cells ((List.replicate b (0 : Int)).map (Value.int .u8)).toArray 5)) := by
  rcases (show b = 1 ∨ b = 2 ∨ b = 3 ∨ b = 4 by omega) with rfl | rfl | rfl | rfl
  · kernel_rfl
  · kernel_rfl
  · kernel_rfl
  · kernel_rfl
set_option maxRecDepth 100000 in
set_option maxHeartbeats 2000000 in
theorem pnum (b : Nat) (hb1 : 1 ≤ b) (hb4 : b ≤ 4) (n k c : Int) (w : World) (hne : ∀ W, Calls Tryz.prog 83 #[.int .i64 n, .int .i64 k] W fun e w' => e = .returned (.tuple #[.int .i64 (b : Int), .nilIface]) ∧ W = w') (hcu : ∀ W, Calls Tryz.prog 176 #[.int .i64 n, .int .i64 (b : Int)] W fun e w' => e = .returned (.tuple #[.int .i64 c, .nilIface]) ∧ W = w') (h0 : 0 ≤ c) (h1 : c < 4294967296) (xs : List Int) (hxs : (V.after c (List.replicate b 0) (V.downto b b)).2 = xs) :
    Calls Tryz.prog 151 #[.int .i64 n, .int .i64 k] w fun e w' => e = .returned (.tuple #[.string (strOfNums [(b : Int)] ++ strOfNums xs), .nilIface]) ∧ Below w.heap.size w w' := by
  refine (callsIn_wide (n := 4)).1 ?_
  have f1 : Fence.wide.fn 83 := trivial
  have f2 : Fence.wide.fn 176 := trivial
  have f3 : Fence.wide.fn 108 := trivial
  have hmk := fun W => qmk b hb1 hb4 W
  generalize hZ : ((List.replicate b (0 : Int)).map (Value.int .u8)).toArray = Z at hmk
  have HZ : Hid (((List.replicate b (0 : Int)).map (Value.int .u8)).toArray = Z) := hZ
  clear hZ
  have HB : Hid (1 ≤ b ∧ b ≤ 4) := ⟨hb1, hb4⟩
  have hb8 : (b : Int) % 256 = (b : Int) := by omega
  clear hb1 hb4
  refine callsIn_of_wp_marks Tryz.func151 rfl trivial ?_ rfl
  simp only [Tryz.ntmps151, List.size_toArray, List.length_cons, List.length_nil, Nat.reduceAdd, Nat.reduceSub, Array.replicate_succ, Array.replicate_zero, List.push_toArray, List.append_toArray, List.nil_append, List.cons_append]
  gi_wp2_with (first | (gi_at_call 83; refine (callsIn_wide.2 (hne _)).mono ?_; rintro e w1 ⟨rfl, rfl⟩) | (gi_at_call 176; refine (callsIn_wide.2 (hcu _)).mono ?_; rintro e w1 ⟨rfl, rfl⟩) | (gi_at_call 108; refine (V.back_in Fence.wide 3 trivial rfl _ _ _ _).mono ?_; rintro e w' ⟨rfl, rfl⟩))
  clear hmk
  obtain ⟨W0, hW0⟩ : ∃ W0, ((((w.alloc (.cells #[.int .i64 c] 3)).alloc (.cells Z 5)).alloc (.cells #[(.slice (some ⟨w.heap.size + 1, 0, none⟩) b b)] 37)).alloc (.cells #[(.slice (some ⟨w.heap.size + 1, 0, none⟩) b b)] 37)) = W0 := ⟨_, rfl⟩
  have sz : W0.heap.size = w.heap.size + 4 := by rw [← hW0]; simp
  have bR : Boxed W0 w.heap.size 3 (.int .i64 c) := by rw [← hW0]; exact (((Boxed.new w 3 _).alloc _).alloc _).alloc _
  have bB : V.Byt W0 (w.heap.size + 1) (List.replicate b 0) := by
    rw [← hW0]
    have h : V.Byt ((w.alloc (.cells #[.int .i64 c] 3)).alloc (.cells Z 5)) (w.heap.size + 1) (List.replicate b 0) := by
      have := World.alloc_heap_new (w.alloc (.cells #[.int .i64 c] 3)) (.cells Z 5)
      rw [World.size_alloc] at this
      unfold V.Byt
      rw [HZ.out]
      exact this
    exact (h.alloc _).alloc _
  have bS : Boxed W0 (w.heap.size + 1 + 1) 37 (.slice (some ⟨w.heap.size + 1, 0, none⟩) b b) := by
    rw [← hW0]
    have h := Boxed.new ((w.alloc (.cells #[.int .i64 c] 3)).alloc (.cells Z 5)) 37 (.slice (some ⟨w.heap.size + 1, 0, none⟩) b b)
    rw [World.size_alloc, World.size_alloc] at h
    exact h.alloc _
  have bH : Boxed W0 (w.heap.size + 1 + 1 + 1) 37 (.slice (some ⟨w.heap.size + 1, 0, none⟩) b b) := by
    rw [← hW0]
    have h := Boxed.new (((w.alloc (.cells #[.int .i64 c] 3)).alloc (.cells Z 5)).alloc (.cells #[(.slice (some ⟨w.heap.size + 1, 0, none⟩) b b)] 37)) 37 (.slice (some ⟨w.heap.size + 1, 0, none⟩) b b)
    rw [World.size_alloc, World.size_alloc, World.size_alloc] at h
    exact h
  have hB0 : Below w.heap.size w W0 := by
    rw [← hW0]
    exact (((((Below.refl _ w).alloc (Nat.le_refl _) _).alloc (by simp <;> omega) _).alloc (by simp <;> omega) _).alloc (by simp <;> omega) _)
  have HZL : Hid (((List.replicate b 0) : List Int).length = b) := List.length_replicate ..
  rw [hW0]
  clear hW0
  refine wpIn_rangeFunc_ownG rfl (by decide) (gf := 138) (lb := #[.pointer (some ⟨w.heap.size + 1 + 1 + 1, 0, none⟩)]) rfl trivial (enters_of Tryz.func138 (by kernel_rfl) rfl)
    (V.back_stops Fence.wide (4 - 1) trivial rfl (by decide) (w.heap.size + 1 + 1 + 1) (w.heap.size + 1) b b (by have := HB.out; omega) W0 (by omega) (by omega) ⟨bH.cell, fun j hj => ⟨_, bB.cell j (by rw [HZL.out]; exact hj)⟩⟩)
    (fun h k hR => k (h hR)) (V.KpRow.put (w := W0)) (Below.refl _ _) (fun _ => rfl)
    (fun pre W => Boxed W w.heap.size 3 (.int .i64 (V.after c (List.replicate b 0) (pre.map fun x => x.1.1)).1) ∧ V.Byt W (w.heap.size + 1) (V.after c (List.replicate b 0) (pre.map fun x => x.1.1)).2 ∧ Boxed W (w.heap.size + 1 + 1) 37 (.slice (some ⟨w.heap.size + 1, 0, none⟩) b b) ∧ Boxed W (w.heap.size + 1 + 1 + 1) 37 (.slice (some ⟨w.heap.size + 1, 0, none⟩) b b) ∧ Below w.heap.size w W)
    (fun _ _ _ => False)
    (OwnFrom.and (Own.from (boxed_own _ _ _) _) (OwnFrom.and (Own.from (V.Byt.own _ _) _) (OwnFrom.and (Own.from (boxed_own _ _ _) _) (OwnFrom.and (Own.from (boxed_own _ _ _) _) (ownFrom_below (Nat.le_refl _) (by omega))))))
    (fun _ _ _ _ _ hs _ _ => hs)
    ⟨bR, bB, bS, bH, hB0⟩
    (fun x => { tmps := #[.int .i64 n, .int .i64 k, undef, undef, .string { data := #[] }, .nilIface, .int .i64 (b : Int), .nilIface, .pointer (some ⟨w.heap.size, 0, none⟩), .pointer (some ⟨w.heap.size + 1 + 1, 0, none⟩), .int .i64 (x.1.1 : Int), .tuple #[.int .i64 (b : Int), .nilIface], .int .i64 n, .int .i64 k, .tuple #[.int .i64 (b : Int), .nilIface], .int .i64 (b : Int), .nilIface, .nilIface, .bool false, undef, .tuple #[.int .i64 c, .nilIface], .int .i64 n, .int .i64 (b : Int), .tuple #[.int .i64 c, .nilIface], .int .i64 c, .nilIface, .nilIface, .bool false, undef, .int .i64 (b : Int), (.slice (some ⟨w.heap.size + 1, 0, none⟩) b b), (.slice (some ⟨w.heap.size + 1, 0, none⟩) b b), .func (.func 138) #[] #[.pointer (some ⟨w.heap.size + 1 + 1 + 1, 0, none⟩)], .int .i64 (x.1.1 : Int), .int .u8 x.1.2, undef, undef, undef, undef, undef, undef, undef, undef, undef, undef, undef, undef, undef, undef], defers := [] }) ?assign ?body ?done ?stop
  case assign =>
    intro l x W K hK
    gi_wp2
    exact hK
  case body =>
    rintro l pre ⟨⟨i, v⟩, hx⟩ W ⟨kR, kB, kS, kH, hB⟩ _
    have hx : i < b := hx
    have hlen := (V.after_len c (List.replicate b 0) (pre.map fun x => x.1.1)).trans HZL.out
    have hbd := V.after_bd c (List.replicate b 0) (pre.map fun x => x.1.1) h0 h1
    have sn := V.after_snoc c (List.replicate b 0) (pre.map fun x => x.1.1) i
    have kc := kB.cell i (by rw [hlen]; exact hx)
    have kf := kB.frozen i
    have HS : Hid (V.after c (List.replicate b 0) (pre.map (fun x => x.1.1) ++ [i]) = V.step (V.after c (List.replicate b 0) (pre.map fun x => x.1.1)) i) := sn
    have HL : Hid ((V.after c (List.replicate b 0) (pre.map fun x => x.1.1)).2.length = b) := hlen
    clear sn hlen
    generalize V.after c (List.replicate b 0) (pre.map fun x => x.1.1) = st at *
    have kRc := kR.cell
    have kRf := kR.frozen
    have kSc := kS.cell
    obtain ⟨hbd0, hbd1⟩ := hbd
    have g1 : ((i : Nat) : Int) < (b : Int) := by omega
    gi_wp2
    have kB' := (kB.set i (st.1 % 256)).other (B' := w.heap.size) (by omega) (.int .i64 (st.1 / 256))
    have kR' := (V.Boxed.otherRow (B' := w.heap.size + 1) (j := i) kR (by omega) (.int .u8 (st.1 % 256))).set (.int .i64 (st.1 / 256))
    have kS' := (V.Boxed.otherRow (B' := w.heap.size + 1) (j := i) kS (by omega) (.int .u8 (st.1 % 256))).other (B' := w.heap.size) (by omega) (.int .i64 (st.1 / 256))
    have kH' := (V.Boxed.otherRow (B' := w.heap.size + 1) (j := i) kH (by omega) (.int .u8 (st.1 % 256))).other (B' := w.heap.size) (by omega) (.int .i64 (st.1 / 256))
    have hB' := (hB.setCell (p := ⟨w.heap.size + 1, i, none⟩) (by show w.heap.size ≤ w.heap.size + 1; omega) (.int .u8 (st.1 % 256))).setCell (p := ⟨w.heap.size, 0, none⟩) (Nat.le_refl _) (.int .i64 (st.1 / 256))
    have hL : (st.2.set i (st.1 % 256)).length = b := by rw [List.length_set]; exact HL.out
    refine ⟨((KeepsOthers.setCell _ _ _).trans (KeepsOthers.setCell _ _ _)).from _, fun _ => ⟨kH'.cell, fun j hj => ⟨_, kB'.cell j (by rw [hL]; exact hj)⟩⟩, ?_, ?_, kS', kH', hB'⟩
    · rw [List.map_append]
      show Boxed _ _ _ (.int .i64 (V.after c (List.replicate b 0) (pre.map (fun x => x.1.1) ++ [i])).1)
      rw [HS.out]; exact kR'
    · rw [List.map_append]
      show V.Byt _ _ (V.after c (List.replicate b 0) (pre.map (fun x => x.1.1) ++ [i])).2
      rw [HS.out]; exact kB'
  case done =>
    rintro D ys W hD hys ⟨kR, kB, kS, kH, hB⟩ hK
    rw [hys, hxs] at kB
    have hl : xs.length = b := by rw [← hxs, V.after_len, HZL.out]
    have kB1 := kB.alloc (.cells #[.int .u8 (b : Int)] 5)
    have hcv := run_convert_bytes_arg (P := Tryz.prog) (W.alloc (.cells #[.int .u8 (b : Int)] 5)) 37 5 Tryz.underlying37 Tryz.underlying5 (w.heap.size + 1) 0 b b xs hl (fun j hj => by
      rw [Nat.zero_add, kB1.cell j (by omega)]; simp [List.getD]) 9 Tryz.underlying9
    have hc1 := V.conv_new [(b : Int)] W #[.int .u8 (b : Int)] rfl
    simp only [List.length_cons, List.length_nil, Nat.reduceAdd] at hc1
    have kSc := (kS.alloc (.cells #[.int .u8 (b : Int)] 5)).cell
    have sa : (strOfNums [(b : Int)]).size + (strOfNums xs).size ≤ 9223372036854775807 := by rw [strOfNums_size, strOfNums_size, hl]; have := HB.out; simp; omega
    have HL : Hid (xs.length = b) := hl
    have hK2 : (W.alloc (.cells #[.int .u8 (b : Int)] 5)).heap[D]? = some (Obj.deferred (some [])) := (heap_alloc_old W _ (Array.getElem?_eq_some_iff.1 hK).1).trans hK
    clear hl hys kB1
    generalize hsx : strOfNums xs = sx at hcv sa
    generalize hs1 : strOfNums [(b : Int)] = s1 at hc1 sa
    have HX : Hid (strOfNums xs = sx ∧ strOfNums [(b : Int)] = s1) := ⟨hsx, hs1⟩
    clear hsx hs1
    gi_wp2
    refine ⟨by simp, .inl ⟨_, _, rfl, run_takeDeferred hK2, ?_⟩⟩
    exact ⟨_, results_tmp2 rfl _ _ _, by rw [HX.out.1, HX.out.2]; rfl, (hB.alloc hB.size _).trans (belowK_b (w := w) (Nat.le_refl _) _ D _ _ (by omega) hK2 rfl rfl)⟩
  case stop =>
    rintro D c pre W _ _ h _
    exact h.elim
theorem after_1 (n : Int) (h : 0 ≤ n) : (V.after (n % 256) [0] (V.downto 1 1)).2 = numB n 1 := by
  simp [V.after, V.step, V.downto, numB, List.range_succ]
theorem after_2 (n : Int) (h : 0 ≤ n) : (V.after (n % 65536) [0, 0] (V.downto 2 2)).2 = numB n 2 := by
  simp [V.after, V.step, V.downto, numB, List.range_succ] <;> omega
theorem after_3 (n : Int) (h : 0 ≤ n) : (V.after (n % 16777216) [0, 0, 0] (V.downto 3 3)).2 = numB n 3 := by
  simp [V.after, V.step, V.downto, numB, List.range_succ] <;> omega
theorem after_4 (n : Int) (h : 0 ≤ n) : (V.after (n % 4294967296) [0, 0, 0, 0] (V.downto 4 4)).2 = numB n 4 := by
  simp [V.after, V.step, V.downto, numB, List.range_succ] <;> omega
theorem printNum_yes (n k : Int) (w : World) (h : U.pairB n k = true) : Calls Tryz.prog 151 #[.int .i64 n, .int .i64 k] w fun e w' => e = .returned (.tuple #[.string (pkN n k), .nilIface]) ∧ Below w.heap.size w w' := by
  obtain ⟨n0, n1, _⟩ := U.pairB_yes h
  have hm : U.mayB n = true := (U.mayB_iff n).2 ⟨n0, n1⟩
  have hn : ∀ W, Calls Tryz.prog 83 #[.int .i64 n, .int .i64 k] W fun e w' => e = .returned (.tuple #[.int .i64 (U.need n k), .nilIface]) ∧ W = w' := fun W => (U.need_yes n k W h).mono fun e w' hh => ⟨hh.1, hh.2.symm⟩
  have hc : ∀ W, Calls Tryz.prog 176 #[.int .i64 n, .int .i64 (U.need n k)] W fun e w' => e = .returned (.tuple #[.int .i64 (n % U.rnd (U.need n k)), .nilIface]) ∧ W = w' := fun W => (U.cut_yes n (U.need n k) W hm (U.need_len n k)).mono fun e w' hh => ⟨hh.1, hh.2.symm⟩
  unfold pkN
  rcases U.lenB_yes (U.need_len n k) with e | e | e | e
  · rw [e] at hn hc ⊢
    exact pnum 1 (by decide) (by decide) n k _ w hn hc (by rw [U.rnd_1]; omega) (by rw [U.rnd_1]; omega) _ (by rw [U.rnd_1]; exact after_1 n n0)
  · rw [e] at hn hc ⊢
    exact pnum 2 (by decide) (by decide) n k _ w hn hc (by rw [U.rnd_2]; omega) (by rw [U.rnd_2]; omega) _ (by rw [U.rnd_2]; exact after_2 n n0)
  · rw [e] at hn hc ⊢
    exact pnum 3 (by decide) (by decide) n k _ w hn hc (by rw [U.rnd_3]; omega) (by rw [U.rnd_3]; omega) _ (by rw [U.rnd_3]; exact after_3 n n0)
  · rw [e] at hn hc ⊢
    exact pnum 4 (by decide) (by decide) n k _ w hn hc (by rw [U.rnd_4]; omega) (by rw [U.rnd_4]; omega) _ (by rw [U.rnd_4]; exact after_4 n n0)
set_option maxRecDepth 100000 in
set_option maxHeartbeats 4000000 in
theorem printNum_no (n k : Int) (w : World) (h : U.pairB n k = false) : Calls Tryz.prog 151 #[.int .i64 n, .int .i64 k] w fun e w' => e = .returned (.tuple #[.string { data := #[] }, errV 1]) ∧ Below w.heap.size w w' := by
  have HN := fun W => U.need_no n k W h
  rw [errV1]
  clear h
  go_enter Tryz.func151, Tryz.ntmps151
  go_wp2_with (first | (go_at_call 83; refine (HN _).mono ?_; rintro e w1 ⟨rfl, rfl⟩))
  go_ret2
  exact ⟨rfl, Below.refl _ _⟩
end Go.Proofs.YtdokgalidhmbbaaGreatDoor
namespace Go.Proofs.YtdokgalidhmbbaaGreatDoor
open Go.RowKit Go.Lib Go.Sort


theorem strCells_ba (a b : ByteArray) : strCells (a ++ b) = strCells a ++ strCells b := by
  have e : a ++ b = strOfNums (V.ints a ++ V.ints b) := by rw [← V.ints_app]; exact (V.str_ints (a ++ b)).symm
  have ea : strOfNums (V.ints a) = a := V.str_ints a
  have eb : strOfNums (V.ints b) = b := V.str_ints b
  rw [e, V.strCells_app, ea, eb]
/-- What is wrong with a packet's frames. -/
def pfF (l : List F) : Int := if l.length = 0 then 5 else if 12 < l.length then 4 else fsF l
set_option maxRecDepth 100000 in
set_option maxHeartbeats 4000000 in
theorem pfr_none (ao : Option Addr) (c : Nat) (w : World) : Calls Tryz.prog 152 #[.slice ao 0 c] w fun e w' => e = .returned (.tuple #[.string { data := #[] }, .iface 133 (.int .i64 5)]) ∧ Below w.heap.size w w' := by
  go_enter Tryz.func152, Tryz.ntmps152
  go_wp2_with fail
  go_ret2
  exact ⟨rfl, Below.refl _ _⟩
set_option maxRecDepth 100000 in
set_option maxHeartbeats 4000000 in
theorem pfr_many (ao : Option Addr) (m c : Nat) (w : World) (h : 12 < m) (hl : m ≤ 9223372036854775807) : Calls Tryz.prog 152 #[.slice ao m c] w fun e w' => e = .returned (.tuple #[.string { data := #[] }, .iface 133 (.int .i64 4)]) ∧ Below w.heap.size w w' := by
  have h0 : ¬ (m : Int) = 0 := by omega
  have h1 : (12 : Int) < (m : Int) := by omega
  go_enter Tryz.func152, Tryz.ntmps152
  go_wp2_with fail
  go_ret2
  exact ⟨rfl, Below.refl _ _⟩
set_option maxRecDepth 100000 in
set_option maxHeartbeats 4000000 in
theorem pfr_some (b off len c : Nat) (l : List F) (w : World) (hF : V.Forms w) (hC : Cnts w) (hlen : l.length = len) (h0 : 1 ≤ len) (h12 : len ≤ 12) (hb : b < w.heap.size) (hc : FCells w b off l) :
    Calls Tryz.prog 152 #[.slice (some ⟨b, off, none⟩) len c] w fun e w' => ((fsF l = 0 ∧ e = .returned (.tuple #[.string (fsS l), .nilIface])) ∨ (fsF l ≠ 0 ∧ e = .returned (.tuple #[.string { data := #[] }, errV (fsF l)]))) ∧ Below w.heap.size w w' := by
  obtain ⟨i0, hi, hz0, hz1, hz2⟩ := info_parts V.info5
  have g0 : ¬ (len : Int) = 0 := by omega
  have g12 : ¬ (12 : Int) < (len : Int) := by omega
  have HL : Hid (l.length = len) := hlen
  have HC : Hid (FCells w b off l) := hc
  have HV : Hid (V.Forms w ∧ Cnts w) := ⟨hF, hC⟩
  clear hlen hc hF hC
  go_enter Tryz.func152, Tryz.ntmps152
  go_wp2_with fail
  go_loopw [4, 21] (fun t i wr => ∃ k : Nat, k ≤ len ∧ i = .int .i64 k ∧ wr.ownsRow w.heap.size 5 1 t (fsS (l.take k)).size (strCells (fsS (l.take k))) ∧ Hid (∀ j, j < k → fF (fat l j) = 0) ∧ Below w.heap.size w wr) (fun _ i _ => len - (intOf i).toNat)
  case atStart => exact ⟨0, Nat.zero_le _, rfl, World.ownsRow_nil _ _ _ _, (fun j hj => absurd hj (Nat.not_lt_zero _)), Below.refl _ _⟩
  case round =>
    obtain ⟨k, hk, rfl, hown, hall, hB⟩ := hrel
    by_cases hlt : k < len
    · have hkl : k < l.length := by have := HL.out; omega
      obtain ⟨u, x0, x1, x2, r, hd⟩ := HC.out.below hb hB k hkl
      have g1 : (k : Int) < (len : Int) := by omega
      have hsz1 : (fsS (l.take k)).size ≤ 1452 := by
        have hh : ∀ j, j < (l.take k).length → fF (fat (l.take k) j) = 0 := fun j hj => by
          rw [List.length_take] at hj
          have := hall.out j (by omega)
          rwa [show fat (l.take k) j = fat l j by simp [fat, List.getElem?_take, show j < k by omega]]
        have := fsS_size hh (l.take k).length (Nat.le_refl _)
        rw [List.take_length, List.length_take] at this
        omega
      have HN : Hid (fsS (l.take (k + 1)) = fsS (l.take k) ++ fS (fat l k)) := fsS_next hkl
      have HAT : Hid (fF (fat l k) ≠ 0 → fsF l = fF (fat l k)) := fun hn => fsF_at l k hkl hall.out hn
      have HAL : Hid (fF (fat l k) = 0 → ∀ j, j < k + 1 → fF (fat l j) = 0) := fun he j hj => by
        by_cases e : j = k
        · rw [e]; exact he
        · exact hall.out j (by omega)
      have hV1 : V.Forms wr ∧ Cnts wr := ⟨HV.out.1.below hB, HV.out.2.below hB⟩
      clear hkl hall
      generalize fat l k = f at *
      obtain ⟨kk, ns, d⟩ := f
      simp only at x0 x1 x2 r hd
      have bel1 : Below wr.heap.size wr (wr.alloc (.cells #[.int .i64 kk, u, .string d] 141)) := (Below.refl _ wr).alloc (Nat.le_refl _) _
      have hlb : b < wr.heap.size := Nat.lt_of_lt_of_le hb hB.size
      by_cases hz : fF (kk, ns, d) = 0
      · have HP := frame_print_ok kk u d ns _ (hV1.2.below bel1) (hV1.1.below bel1) (r.below bel1) hz
        have hs2 : (frS kk ns d).size ≤ 121 := frS_size hz
        have HA1 : Hid (∀ j, j < k + 1 → fF (fat l j) = 0) := HAL.out hz
        obtain ⟨au, cu, hu, _⟩ := id r
        subst hu
        have hB1 : Below w.heap.size w (wr.alloc (.cells #[.int .i64 kk, .slice au ns.length cu, .string d] 141)) := hB.alloc hB.size _
        have hown1 := own_below hown bel1
        have HNs : Hid (fsS (l.take (k + 1)) = fsS (l.take k) ++ frS kk ns d) := HN.out
        clear hz HAL HAT HN r hV1 hown
        generalize frS kk ns d = sz at *
        generalize fsS (l.take k) = so at *
        generalize ns.length = nn at *
        go_wp2_with fail
        refine HP.mono ?_
        rintro e w1 ⟨rfl, hb1⟩
        have hB2 := hB1.trans (hb1.mono hB1.size)
        have hown2 := own_below hown1 hb1
        have hbs := hB2.size
        clear HP hown1 hB1
        go_wp2_with (at_builtin; refine wpList_append_own_string _ rfl _ _ 37 9 rfl w.heap.size 5 i0 Tryz.underlying37 Tryz.underlying9 hi hz0 hz1 hz2 _ _ _ rfl hown2 _ rfl (by unfold maxLen; omega) (by omega) hbs ?_; intro v' w2 hown3 hg2 _)
        have hg3 : w1.grownBy w2 u4.ownBlock := hg2
        have hB3 : Below w.heap.size w w2 := hB2.grown hg3 hbs (fun j e => (hown2.lt j e).1)
        exact ⟨⟨k + 1, by omega, by go_num, by rw [HNs.out, strCells_ba, ByteArray.size_append]; exact hown3, HA1, hB3⟩, by simp [intOf]; omega⟩
      · have HP := frame_print_no kk u d ns _ (hV1.2.below bel1) (r.below bel1) hd hz
        have HE : Hid (fsF l = fF (kk, ns, d)) := HAT.out hz
        have HZ : Hid (fF (kk, ns, d) ≠ 0) := hz
        have hE : errV (frF kk ns d) = .iface 133 (.int .i64 (frF kk ns d)) := by
          have : frF kk ns d ≠ 0 := hz
          simp [errV, this]
        rw [hE] at HP
        have HEV : Hid (errV (fsF l) = .iface 133 (.int .i64 (frF kk ns d))) := by
          show _ = _
          rw [HE.out]; exact hE
        obtain ⟨au, cu, hu, _⟩ := id r
        subst hu
        have hB1 : Below w.heap.size w (wr.alloc (.cells #[.int .i64 kk, .slice au ns.length cu, .string d] 141)) := hB.alloc hB.size _
        clear hz HAL HAT HN r hV1 hown hE
        generalize frF kk ns d = ff at HP HEV
        generalize ns.length = nn at *
        go_wp2_with fail
        refine HP.mono ?_
        rintro e w1 ⟨rfl, hb1⟩
        have hB2 := hB1.trans (hb1.mono hB1.size)
        go_wp2_with fail
        go_ret2
        exact ⟨.inr ⟨by rw [HE.out]; exact HZ.out, by rw [HEV.out]; rfl⟩, hB2⟩
    · obtain rfl : k = len := by omega
      have hcv := V.own_string hown
      have e1 : l.take k = l := List.take_of_length_le (by have := HL.out; omega)
      rw [e1] at hcv
      have HZ : Hid (fsF l = 0) := fsF_ok l (fun j hj => hall.out j (by have := HL.out; omega))
      clear hown e1
      go_wp2_with fail
      go_ret2
      exact ⟨.inl ⟨HZ.out, rfl⟩, hB⟩
theorem pfr_yes (v : Value) (l : List F) (w : World) (hF : V.Forms w) (hC : Cnts w) (hR : FRow w v l) (h : pfF l = 0) : Calls Tryz.prog 152 #[v] w fun e w' => e = .returned (.tuple #[.string (fsS l), .nilIface]) ∧ Below w.heap.size w w' := by
  unfold pfF at h
  obtain ⟨ao, c, rfl, hl, hn, hz⟩ := hR
  split at h
  · cases h
  · rename_i h0
    split at h
    · cases h
    · rename_i h1
      rcases hz with e | ⟨b, off, rfl, hb, hc⟩
      · rw [e] at h0; exact absurd rfl h0
      · refine (pfr_some b off _ c l w hF hC rfl (by omega) (by omega) hb hc).mono ?_
        rintro e w' ⟨⟨_, rfl⟩ | ⟨hh, _⟩, hb⟩
        · exact ⟨rfl, hb⟩
        · exact absurd h hh
theorem pfr_no (v : Value) (l : List F) (w : World) (hF : V.Forms w) (hC : Cnts w) (hR : FRow w v l) (h : pfF l ≠ 0) : Calls Tryz.prog 152 #[v] w fun e w' => e = .returned (.tuple #[.string { data := #[] }, errV (pfF l)]) ∧ Below w.heap.size w w' := by
  obtain ⟨ao, c, rfl, hl, hn, hz⟩ := hR
  by_cases h0 : l.length = 0
  · rw [show pfF l = 5 by simp only [pfF, if_pos h0], h0]
    exact pfr_none ao c w
  · by_cases h1 : 12 < l.length
    · rw [show pfF l = 4 by simp only [pfF, if_neg h0, if_pos h1]]
      exact pfr_many ao _ c w h1 hl
    · rw [show pfF l = fsF l by simp only [pfF, if_neg h0, if_neg h1]] at h ⊢
      rcases hz with e | ⟨b, off, rfl, hb, hc⟩
      · rw [e] at h0; exact absurd rfl h0
      · refine (pfr_some b off _ c l w hF hC rfl (by omega) (by omega) hb hc).mono ?_
        rintro e w' ⟨⟨hh, _⟩ | ⟨_, rfl⟩, hb⟩
        · exact absurd hh h
        · exact ⟨rfl, hb⟩
theorem pkF_eq (n k : Int) (l : List F) (h : U.pairB n k = true) : pkF n k l = if pfF l ≠ 0 then pfF l else if 200 < (pkS n k l).size then 4 else 0 := by
  unfold pkF pfF
  rw [if_neg (by rw [h]; decide)]
  by_cases h0 : l.length = 0
  · simp [h0]
  · by_cases h1 : 12 < l.length
    · simp [h0, h1]
    · simp only [if_neg h0, if_neg h1]
theorem pfF_all {l : List F} (h : pfF l = 0) : fsF l = 0 ∧ 1 ≤ l.length ∧ l.length ≤ 12 := by
  unfold pfF at h
  split at h
  · cases h
  · split at h
    · cases h
    · exact ⟨h, by omega, by omega⟩
theorem pk_sizes {n k : Int} {l : List F} (h : pfF l = 0) : (pkN n k).size ≤ 5 ∧ (fsS l).size ≤ 1452 := by
  constructor
  · rw [← ints_length, ints_pkN, List.length_cons]
    have := numB_length (n := n) (U.need_len n k)
    have := U.lenB_yes (U.need_len n k)
    omega
  · obtain ⟨h1, h2, h3⟩ := pfF_all h
    have := fsS_size (fsF_all l h1) l.length (Nat.le_refl _)
    rw [List.take_length] at this
    omega
set_option maxRecDepth 100000 in
set_option maxHeartbeats 4000000 in
theorem pkt_print_a (n k : Int) (ao : Option Addr) (m c : Nat) (w : World) (h : U.pairB n k = false) :
    Calls Tryz.prog 125 #[.int .i64 n, .int .i64 k, .slice ao m c] w fun e w' => e = .returned (.tuple #[.string { data := #[] }, .iface 133 (.int .i64 1)]) ∧ Below w.heap.size w w' := by
  have HN := printNum_no n k w h
  rw [errV1] at HN
  clear h
  go_enter Tryz.func125, Tryz.ntmps125
  go_wp2_with (first | (go_at_call 151; refine HN.mono ?_; rintro e w1 ⟨rfl, hb1⟩))
  go_ret2
  exact ⟨rfl, hb1⟩
set_option maxRecDepth 100000 in
set_option maxHeartbeats 4000000 in
theorem pkt_print_b (n k : Int) (v : Value) (l : List F) (w : World) (hF : V.Forms w) (hC : Cnts w) (hR : FRow w v l) (h : U.pairB n k = true) (h1 : pfF l ≠ 0) :
    Calls Tryz.prog 125 #[.int .i64 n, .int .i64 k, v] w fun e w' => e = .returned (.tuple #[.string { data := #[] }, errV (pfF l)]) ∧ Below w.heap.size w w' := by
  have HN := printNum_yes n k w h
  have HP := fun W (hb : Below w.heap.size w W) => pfr_no v l W (hF.below hb) (hC.below hb) (hR.below hb) h1
  rw [show errV (pfF l) = .iface 133 (.int .i64 (pfF l)) by simp [errV, h1]] at HP ⊢
  obtain ⟨ao, c, rfl⟩ := hR.shape
  clear h h1 hR hF hC
  generalize pfF l = f at *
  generalize l.length = m at *
  generalize pkN n k = sn at *
  go_enter Tryz.func125, Tryz.ntmps125
  go_wp2_with (first | (go_at_call 151; refine HN.mono ?_; rintro e w1 ⟨rfl, hb1⟩) | (go_at_call 152; refine (HP _ hb1).mono ?_; rintro e w2 ⟨rfl, hb2⟩; have hB2 := hb1.trans (hb2.mono hb1.size)))
  go_ret2
  exact ⟨rfl, hB2⟩
set_option maxRecDepth 100000 in
set_option maxHeartbeats 4000000 in
theorem pkt_print_c (n k : Int) (v : Value) (l : List F) (w : World) (hF : V.Forms w) (hC : Cnts w) (hR : FRow w v l) (h : U.pairB n k = true) (h1 : pfF l = 0) (h2 : 200 < (pkS n k l).size) :
    Calls Tryz.prog 125 #[.int .i64 n, .int .i64 k, v] w fun e w' => e = .returned (.tuple #[.string { data := #[] }, .iface 133 (.int .i64 4)]) ∧ Below w.heap.size w w' := by
  have HN := printNum_yes n k w h
  have HP := fun W (hb : Below w.heap.size w W) => pfr_yes v l W (hF.below hb) (hC.below hb) (hR.below hb) h1
  obtain ⟨ao, c, rfl⟩ := hR.shape
  have hsz := pk_sizes (n := n) (k := k) h1
  unfold pkS at *
  rw [ByteArray.size_append] at h2
  clear h h1 hR hF hC
  generalize l.length = m at *
  generalize pkN n k = sn at *
  generalize fsS l = sf at *
  have ht : (200 : Int) < (sn.size : Int) + (sf.size : Int) := by omega
  have ha : sn.size + sf.size ≤ 9223372036854775807 := by omega
  have hs1 : (sn.size : Int) ≤ 5 := by omega
  have hs2 : (sf.size : Int) ≤ 1452 := by omega
  clear h2
  go_enter Tryz.func125, Tryz.ntmps125
  go_wp2_with (first | (go_at_call 151; refine HN.mono ?_; rintro e w1 ⟨rfl, hb1⟩) | (go_at_call 152; refine (HP _ hb1).mono ?_; rintro e w2 ⟨rfl, hb2⟩; have hB2 := hb1.trans (hb2.mono hb1.size)))
  go_ret2
  exact ⟨rfl, hB2⟩
set_option maxRecDepth 100000 in
set_option maxHeartbeats 4000000 in
theorem pkt_print_d (n k : Int) (v : Value) (l : List F) (w : World) (hF : V.Forms w) (hC : Cnts w) (hR : FRow w v l) (h : U.pairB n k = true) (h1 : pfF l = 0) (h2 : (pkS n k l).size ≤ 200) :
    Calls Tryz.prog 125 #[.int .i64 n, .int .i64 k, v] w fun e w' => e = .returned (.tuple #[.string (pkS n k l), .nilIface]) ∧ Below w.heap.size w w' := by
  have HN := printNum_yes n k w h
  have HP := fun W (hb : Below w.heap.size w W) => pfr_yes v l W (hF.below hb) (hC.below hb) (hR.below hb) h1
  obtain ⟨ao, c, rfl⟩ := hR.shape
  have hsz := pk_sizes (n := n) (k := k) h1
  unfold pkS at *
  rw [ByteArray.size_append] at h2
  clear h h1 hR hF hC
  generalize l.length = m at *
  generalize pkN n k = sn at *
  generalize fsS l = sf at *
  have ht : ¬ (200 : Int) < (sn.size : Int) + (sf.size : Int) := by omega
  have ha : sn.size + sf.size ≤ 9223372036854775807 := by omega
  have hs1 : (sn.size : Int) ≤ 5 := by omega
  have hs2 : (sf.size : Int) ≤ 1452 := by omega
  clear h2
  go_enter Tryz.func125, Tryz.ntmps125
  go_wp2_with (first | (go_at_call 151; refine HN.mono ?_; rintro e w1 ⟨rfl, hb1⟩) | (go_at_call 152; refine (HP _ hb1).mono ?_; rintro e w2 ⟨rfl, hb2⟩; have hB2 := hb1.trans (hb2.mono hb1.size)))
  go_ret2
  exact ⟨rfl, hB2⟩
theorem pkt_print_no (n k : Int) (v : Value) (l : List F) (w : World) (hF : V.Forms w) (hC : Cnts w) (hR : FRow w v l) (h : pkF n k l ≠ 0) :
    Calls Tryz.prog 125 #[.int .i64 n, .int .i64 k, v] w fun e w' => e = .returned (.tuple #[.string { data := #[] }, errV (pkF n k l)]) ∧ Below w.heap.size w w' := by
  cases h1 : U.pairB n k with
  | false =>
    rw [show pkF n k l = 1 by simp only [pkF, if_pos h1]]
    obtain ⟨ao, c, rfl⟩ := hR.shape
    exact pkt_print_a n k ao _ c w h1
  | true =>
    rw [pkF_eq n k l h1] at h ⊢
    by_cases h2 : pfF l = 0
    · rw [if_neg (by simp [h2])] at h ⊢
      by_cases h3 : 200 < (pkS n k l).size
      · rw [if_pos h3]
        exact pkt_print_c n k v l w hF hC hR h1 h2 h3
      · rw [if_neg h3] at h
        exact absurd rfl h
    · rw [if_pos h2]
      exact pkt_print_b n k v l w hF hC hR h1 h2
theorem pkt_print_ok (n k : Int) (v : Value) (l : List F) (w : World) (hF : V.Forms w) (hC : Cnts w) (hR : FRow w v l) (h : pkF n k l = 0) :
    Calls Tryz.prog 125 #[.int .i64 n, .int .i64 k, v] w fun e w' => e = .returned (.tuple #[.string (pkS n k l), .nilIface]) ∧ Below w.heap.size w w' := by
  obtain ⟨h1, h2, h3, h4, h5⟩ := pkF_ok h
  exact pkt_print_d n k v l w hF hC hR h1 (by unfold pfF; rw [if_neg (by omega), if_neg (by omega)]; exact h4) h5


theorem index_at {d : ByteArray} {k : Nat} (h : k < d.size) (w : World) : (Instr.index 9 (.string d) (.int .i64 (k : Int))).run Tryz.prog w = .ok (.int .u8 ((V.ints d)[k]?.getD 0)) w := by
  have e : ((d[k].toNat : Nat) : Int) = (V.ints d)[k]?.getD 0 := by
    obtain ⟨⟨r⟩⟩ := d
    have h' : k < r.length := h
    simp [V.ints, h']
    rfl
  have hp : (k : Int) < (d.size : Int) := by omega
  have eu := Tryz.underlying9
  go_simp
  first | done | simp [e]
set_option maxRecDepth 100000 in
set_option maxHeartbeats 4000000 in
theorem tnum_nil (next : Int) (w : World) : Calls Tryz.prog 155 #[.string { data := #[] }, .int .i64 next] w fun e w' => e = .returned (.tuple #[.int .i64 0, .string { data := #[] }, .iface 133 (.int .i64 2)]) ∧ Below w.heap.size w w' := by
  go_enter Tryz.func155, Tryz.ntmps155
  go_wp2_with fail
  go_ret3
  exact ⟨rfl, Below.refl _ _⟩
set_option maxRecDepth 100000 in
set_option maxHeartbeats 4000000 in
theorem tnum_short (s : ByteArray) (next k : Int) (l : List Int) (w : World) (hs : V.ints s = k :: l) (hl : s.size ≤ 200) (h : (l.length : Int) < k) : Calls Tryz.prog 155 #[.string s, .int .i64 next] w fun e w' => e = .returned (.tuple #[.int .i64 0, .string { data := #[] }, .iface 133 (.int .i64 2)]) ∧ Below w.heap.size w w' := by
  have hz : s.size = l.length + 1 := by rw [← ints_length, hs]; rfl
  have hby : Bytes l := fun z hz => bytes_ints s z (by rw [hs]; simp [hz])
  have hk : 0 ≤ k ∧ k < 256 := bytes_ints s k (by rw [hs]; simp)
  have hne := str_ne (d := s) (by omega)
  have hi0 := fun W => index0 s k l hs W
  have tl : s.size ≤ 9223372036854775807 := by omega
  have gl : (s.size : Int) ≤ k := by omega
  clear hs hby hz h
  go_enter Tryz.func155, Tryz.ntmps155
  go_wp2_with fail
  go_ret3
  exact ⟨rfl, Below.refl _ _⟩
set_option maxRecDepth 100000 in
set_option maxHeartbeats 4000000 in
theorem tnum_bad (s : ByteArray) (next k : Int) (l : List Int) (w : World) (hs : V.ints s = k :: l) (hl : s.size ≤ 200) (h : ¬ (l.length : Int) < k) (hb : U.lenB k = false) : Calls Tryz.prog 155 #[.string s, .int .i64 next] w fun e w' => e = .returned (.tuple #[.int .i64 0, .string { data := #[] }, .iface 133 (.int .i64 2)]) ∧ Below w.heap.size w w' := by
  have hz : s.size = l.length + 1 := by rw [← ints_length, hs]; rfl
  have hby : Bytes l := fun z hz => bytes_ints s z (by rw [hs]; simp [hz])
  have hk : 0 ≤ k ∧ k < 256 := bytes_ints s k (by rw [hs]; simp)
  have hne := str_ne (d := s) (by omega)
  have hi0 := fun W => index0 s k l hs W
  have tl : s.size ≤ 9223372036854775807 := by omega
  have hsl : ∀ W : World, (Instr.slice 9 (.string s) (some (.int .i64 1)) none none).run Tryz.prog W = .ok (.string (s.extract 1 s.size)) W := fun W => run_from s 1 (by omega) tl W
  have hid : V.ints (s.extract 1 s.size) = l := by rw [ints_drop s 1 (by omega), hs]; rfl
  have hr1 : (s.extract 1 s.size).size = l.length := by rw [← ints_length, hid]
  have HIX : Hid (∀ (i : Nat) (W : World), i < l.length → (Instr.index 9 (.string (s.extract 1 s.size)) (.int .i64 (i : Int))).run Tryz.prog W = .ok (.int .u8 (l[i]?.getD 0)) W) := fun i W hi => by
    have := index_at (d := s.extract 1 s.size) (k := i) (by omega) W
    rw [hid] at this
    exact this
  obtain ⟨K, rfl⟩ : ∃ K : Nat, k = (K : Int) := ⟨k.toNat, by omega⟩
  have gl : ¬ (s.size : Int) ≤ (K : Int) := by omega
  have HEX : Hid (∀ a, a ≤ l.length → (s.extract 1 s.size).extract a (s.extract 1 s.size).size = s.extract (1 + a) s.size) := fun a ha => by
    apply ints_inj
    rw [ints_drop _ _ (by omega), hid, ints_drop _ _ (by omega), hs, show 1 + a = a + 1 by omega, List.drop_succ_cons]
  generalize hr1' : s.extract 1 s.size = r1 at *
  have HK : Hid ((K : Nat) ≤ l.length) := by show _ ≤ _; omega
  have HS : Hid (s.size = l.length + 1) := hz
  have HBY : Hid (Bytes l) := hby
  clear hz hs hid hr1' hby
  have HW : Hid (∀ z W, Calls Tryz.prog 178 #[.int .i64 z, .int .i64 (K : Int), .int .i64 next] W fun e w' => e = .returned (.tuple #[.int .i64 0, .iface 133 (.int .i64 1)]) ∧ w' = W) := fun z W => U.whole_no z K next W (by simp [U.wholeB, hb])
  clear hb h
  go_enter Tryz.func155, Tryz.ntmps155
  go_wp2_with fail
  go_quiet (fail)
  go_wp2_with fail
  go_loopw [9, 30] (fun c i wr => ∃ (j : Nat) (z : Int), j ≤ K ∧ i = .int .i64 (j : Int) ∧ c = .int .i64 z ∧ Hid (Below w.heap.size w wr)) (fun _ i _ => K - (intOf i).toNat)
  case atStart => exact ⟨0, 0, Nat.zero_le _, rfl, rfl, below_drewN (Below.refl _ _) _⟩
  case round =>
    obtain ⟨j, z, hj, rfl, rfl, HB⟩ := hrel
    by_cases hlt : j < K
    · have g1 : (j : Int) < (K : Int) := by omega
      have hix := fun W => HIX.out j W (by have := HK.out; omega)
      generalize l[j]?.getD 0 = y at hix
      go_wp2_with fail
      exact ⟨⟨j + 1, _, by omega, by go_num, rfl, HB⟩, by simp [intOf]; omega⟩
    · have g1 : ¬ (j : Int) < (K : Int) := by omega
      have HWz := HW.out z
      go_wp2_with (first | (go_at_call 178; refine (HWz _).mono ?_; rintro e w1 ⟨rfl, rfl⟩))
      go_ret3
      exact ⟨rfl, HB.out⟩
set_option maxRecDepth 100000 in
set_option maxHeartbeats 4000000 in
theorem tnum_no (s : ByteArray) (next k : Int) (l : List Int) (w : World) (hs : V.ints s = k :: l) (hl : s.size ≤ 200) (h : ¬ (l.length : Int) < k) (hb : U.lenB k = true) (hw : U.wholeB (big (l.take k.toNat)) k next = false) : Calls Tryz.prog 155 #[.string s, .int .i64 next] w fun e w' => e = .returned (.tuple #[.int .i64 0, .string { data := #[] }, .iface 133 (.int .i64 2)]) ∧ Below w.heap.size w w' := by
  have hz : s.size = l.length + 1 := by rw [← ints_length, hs]; rfl
  have hby : Bytes l := fun z hz => bytes_ints s z (by rw [hs]; simp [hz])
  have hk : 0 ≤ k ∧ k < 256 := bytes_ints s k (by rw [hs]; simp)
  have hne := str_ne (d := s) (by omega)
  have hi0 := fun W => index0 s k l hs W
  have tl : s.size ≤ 9223372036854775807 := by omega
  have hsl : ∀ W : World, (Instr.slice 9 (.string s) (some (.int .i64 1)) none none).run Tryz.prog W = .ok (.string (s.extract 1 s.size)) W := fun W => run_from s 1 (by omega) tl W
  have hid : V.ints (s.extract 1 s.size) = l := by rw [ints_drop s 1 (by omega), hs]; rfl
  have hr1 : (s.extract 1 s.size).size = l.length := by rw [← ints_length, hid]
  have HIX : Hid (∀ (i : Nat) (W : World), i < l.length → (Instr.index 9 (.string (s.extract 1 s.size)) (.int .i64 (i : Int))).run Tryz.prog W = .ok (.int .u8 (l[i]?.getD 0)) W) := fun i W hi => by
    have := index_at (d := s.extract 1 s.size) (k := i) (by omega) W
    rw [hid] at this
    exact this
  obtain ⟨K, rfl⟩ : ∃ K : Nat, k = (K : Int) := ⟨k.toNat, by omega⟩
  have gl : ¬ (s.size : Int) ≤ (K : Int) := by omega
  have HEX : Hid (∀ a, a ≤ l.length → (s.extract 1 s.size).extract a (s.extract 1 s.size).size = s.extract (1 + a) s.size) := fun a ha => by
    apply ints_inj
    rw [ints_drop _ _ (by omega), hid, ints_drop _ _ (by omega), hs, show 1 + a = a + 1 by omega, List.drop_succ_cons]
  generalize hr1' : s.extract 1 s.size = r1 at *
  have HK : Hid ((K : Nat) ≤ l.length) := by show _ ≤ _; omega
  have HS : Hid (s.size = l.length + 1) := hz
  have HBY : Hid (Bytes l) := hby
  clear hz hs hid hr1' hby
  rw [Int.toNat_natCast] at hw
  have H4 : Hid (K ≤ 4) := by show _ ≤ _; have := U.lenB_yes hb; omega
  have HW : Hid (∀ W, Calls Tryz.prog 178 #[.int .i64 (big (l.take K)), .int .i64 (K : Int), .int .i64 next] W fun e w' => e = .returned (.tuple #[.int .i64 0, .iface 133 (.int .i64 1)]) ∧ w' = W) := fun W => U.whole_no _ _ next W hw
  clear hb h hw
  go_enter Tryz.func155, Tryz.ntmps155
  go_wp2_with fail
  go_quiet (fail)
  go_wp2_with fail
  go_loopw [9, 30] (fun c i wr => ∃ (j : Nat), j ≤ K ∧ i = .int .i64 (j : Int) ∧ c = .int .i64 (big (l.take j)) ∧ Hid (Below w.heap.size w wr)) (fun _ i _ => K - (intOf i).toNat)
  case atStart => exact ⟨0, Nat.zero_le _, rfl, rfl, below_drewN (Below.refl _ _) _⟩
  case round =>
    obtain ⟨j, hj, rfl, rfl, HB⟩ := hrel
    by_cases hlt : j < K
    · have g1 : (j : Int) < (K : Int) := by omega
      have hjl : j < l.length := by have := HK.out; omega
      have hix := fun W => HIX.out j W hjl
      have hbd := big_small HBY.out j (by omega) (by have := H4.out; omega)
      have HN : Hid (big (l.take (j + 1)) = 256 * big (l.take j) + l[j]?.getD 0) := big_next hjl
      have hy : 0 ≤ l[j]?.getD 0 ∧ l[j]?.getD 0 < 256 := by
        rw [List.getElem?_eq_getElem hjl]
        exact HBY.out _ (List.getElem_mem _)
      clear hjl
      generalize l[j]?.getD 0 = y at hix hy HN
      generalize big (l.take j) = z at hbd HN
      obtain ⟨y0, y1⟩ := hy
      obtain ⟨z0, z1⟩ := hbd
      have ho := V.or_byte z y z0 (by omega) y0 y1
      go_wp2_with fail
      exact ⟨⟨j + 1, by omega, by go_num, by rw [HN.out, Int.mul_comm], HB⟩, by simp [intOf]; omega⟩
    · have g1 : ¬ (j : Int) < (K : Int) := by omega
      obtain rfl : j = K := by omega
      have HWz := HW.out
      generalize big (l.take j) = z at HWz
      go_wp2_with (first | (go_at_call 178; refine (HWz _).mono ?_; rintro e w1 ⟨rfl, rfl⟩))
      go_ret3
      exact ⟨rfl, HB.out⟩
set_option maxRecDepth 100000 in
set_option maxHeartbeats 4000000 in
theorem tnum_yes (s : ByteArray) (next k : Int) (l : List Int) (w : World) (hs : V.ints s = k :: l) (hl : s.size ≤ 200) (h : ¬ (l.length : Int) < k) (hb : U.lenB k = true) (hw : U.wholeB (big (l.take k.toNat)) k next = true) : Calls Tryz.prog 155 #[.string s, .int .i64 next] w fun e w' => e = .returned (.tuple #[.int .i64 (U.near (big (l.take k.toNat)) (U.rnd k) next), .string (s.extract (1 + k.toNat) s.size), .nilIface]) ∧ Below w.heap.size w w' := by
  have hz : s.size = l.length + 1 := by rw [← ints_length, hs]; rfl
  have hby : Bytes l := fun z hz => bytes_ints s z (by rw [hs]; simp [hz])
  have hk : 0 ≤ k ∧ k < 256 := bytes_ints s k (by rw [hs]; simp)
  have hne := str_ne (d := s) (by omega)
  have hi0 := fun W => index0 s k l hs W
  have tl : s.size ≤ 9223372036854775807 := by omega
  have hsl : ∀ W : World, (Instr.slice 9 (.string s) (some (.int .i64 1)) none none).run Tryz.prog W = .ok (.string (s.extract 1 s.size)) W := fun W => run_from s 1 (by omega) tl W
  have hid : V.ints (s.extract 1 s.size) = l := by rw [ints_drop s 1 (by omega), hs]; rfl
  have hr1 : (s.extract 1 s.size).size = l.length := by rw [← ints_length, hid]
  have HIX : Hid (∀ (i : Nat) (W : World), i < l.length → (Instr.index 9 (.string (s.extract 1 s.size)) (.int .i64 (i : Int))).run Tryz.prog W = .ok (.int .u8 (l[i]?.getD 0)) W) := fun i W hi => by
    have := index_at (d := s.extract 1 s.size) (k := i) (by omega) W
    rw [hid] at this
    exact this
  obtain ⟨K, rfl⟩ : ∃ K : Nat, k = (K : Int) := ⟨k.toNat, by omega⟩
  have gl : ¬ (s.size : Int) ≤ (K : Int) := by omega
  have HEX : Hid (∀ a, a ≤ l.length → (s.extract 1 s.size).extract a (s.extract 1 s.size).size = s.extract (1 + a) s.size) := fun a ha => by
    apply ints_inj
    rw [ints_drop _ _ (by omega), hid, ints_drop _ _ (by omega), hs, show 1 + a = a + 1 by omega, List.drop_succ_cons]
  generalize hr1' : s.extract 1 s.size = r1 at *
  have HK : Hid ((K : Nat) ≤ l.length) := by show _ ≤ _; omega
  have HS : Hid (s.size = l.length + 1) := hz
  have HBY : Hid (Bytes l) := hby
  clear hz hs hid hr1' hby
  rw [Int.toNat_natCast] at hw ⊢
  have H4 : Hid (K ≤ 4) := by show _ ≤ _; have := U.lenB_yes hb; omega
  have HW : Hid (∀ W, Calls Tryz.prog 178 #[.int .i64 (big (l.take K)), .int .i64 (K : Int), .int .i64 next] W fun e w' => e = .returned (.tuple #[.int .i64 (U.near (big (l.take K)) (U.rnd K) next), .nilIface]) ∧ w' = W) := fun W => U.whole_yes _ _ next W hw
  have hsl2 := fun W => run_from r1 K (by have := HK.out; omega) (by have := HS.out; omega) W
  rw [HEX.out K HK.out] at hsl2
  clear hb h hw
  generalize U.near (big (l.take K)) (U.rnd K) next = N at *
  generalize s.extract (1 + K) s.size = r2 at *
  go_enter Tryz.func155, Tryz.ntmps155
  go_wp2_with fail
  go_quiet (fail)
  go_wp2_with fail
  go_loopw [9, 30] (fun c i wr => ∃ (j : Nat), j ≤ K ∧ i = .int .i64 (j : Int) ∧ c = .int .i64 (big (l.take j)) ∧ Hid (Below w.heap.size w wr)) (fun _ i _ => K - (intOf i).toNat)
  case atStart => exact ⟨0, Nat.zero_le _, rfl, rfl, below_drewN (Below.refl _ _) _⟩
  case round =>
    obtain ⟨j, hj, rfl, rfl, HB⟩ := hrel
    by_cases hlt : j < K
    · have g1 : (j : Int) < (K : Int) := by omega
      have hjl : j < l.length := by have := HK.out; omega
      have hix := fun W => HIX.out j W hjl
      have hbd := big_small HBY.out j (by omega) (by have := H4.out; omega)
      have HN : Hid (big (l.take (j + 1)) = 256 * big (l.take j) + l[j]?.getD 0) := big_next hjl
      have hy : 0 ≤ l[j]?.getD 0 ∧ l[j]?.getD 0 < 256 := by
        rw [List.getElem?_eq_getElem hjl]
        exact HBY.out _ (List.getElem_mem _)
      clear hjl
      generalize l[j]?.getD 0 = y at hix hy HN
      generalize big (l.take j) = z at hbd HN
      obtain ⟨y0, y1⟩ := hy
      obtain ⟨z0, z1⟩ := hbd
      have ho := V.or_byte z y z0 (by omega) y0 y1
      go_wp2_with fail
      exact ⟨⟨j + 1, by omega, by go_num, by rw [HN.out, Int.mul_comm], HB⟩, by simp [intOf]; omega⟩
    · have g1 : ¬ (j : Int) < (K : Int) := by omega
      obtain rfl : j = K := by omega
      have HWz := HW.out
      generalize big (l.take j) = z at HWz
      go_wp2_with (first | (go_at_call 178; refine (HWz _).mono ?_; rintro e w1 ⟨rfl, rfl⟩))
      go_quiet (fail)
      go_wp2_with fail
      go_ret3
      exact ⟨rfl, below_drewN HB.out _⟩

theorem own_shape {w : World} {B e size n : Nat} {v : Value} {xs : List Value} (h : w.ownsRow B e size v n xs) : ∃ a c, v = .slice a n c := by
  rcases h.2 with ⟨rfl, rfl⟩ | ⟨g, cap, cur, rfl, _⟩
  · exact ⟨none, 0, rfl⟩
  · exact ⟨_, cap, rfl⟩
theorem ownsRow_mono {w : World} {B B' e size n : Nat} {v : Value} {xs : List Value} (h : w.ownsRow B e size v n xs) (hb : B' ≤ B) : w.ownsRow B' e size v n xs :=
  ⟨h.1, h.2.imp id (fun ⟨g, cap, cur, a, b, c⟩ => ⟨g, cap, cur, a, Nat.le_trans hb b, c⟩)⟩
set_option maxRecDepth 100000 in
set_option maxHeartbeats 4000000 in
theorem tfr_nil (w : World) : Calls Tryz.prog 156 #[.string { data := #[] }] w fun e w' => e = .returned (.tuple #[.slice none 0 0, .iface 133 (.int .i64 2)]) ∧ Below w.heap.size w w' := by
  go_enter Tryz.func156, Tryz.ntmps156
  go_wp2_with fail
  go_ret2
  exact ⟨rfl, Below.refl _ _⟩
abbrev FrPost (s : ByteArray) (w : World) (e : Ending) (w' : World) : Prop :=
  ((fin (rdL s) = none ∧ e = .returned (.tuple #[.slice none 0 0, .iface 133 (.int .i64 2)])) ∨ (∃ l v us, fin (rdL s) = some l ∧ e = .returned (.tuple #[v, .nilIface]) ∧ FOwn w' w.heap.size v us l)) ∧ Below w.heap.size w w'
set_option maxRecDepth 100000 in
set_option maxHeartbeats 4000000 in
theorem tfr_some (s : ByteArray) (w : World) (hF : V.Forms w) (hC : Cnts w) (hl : s.size ≤ 200) (h0 : s.size ≠ 0) : Calls Tryz.prog 156 #[.string s] w (FrPost s w) := by
  obtain ⟨i0, hi, hz0, hz1, hz2⟩ := info_parts infoF
  have hne := str_ne (d := s) h0
  have HV : Hid (V.Forms w ∧ Cnts w) := ⟨hF, hC⟩
  have H0 : Hid (s.size ≠ 0) := h0
  have HL2 : Hid (s.size ≤ 200) := hl
  clear hF hC h0 hl
  go_enter Tryz.func156, Tryz.ntmps156
  go_wp2_with fail
  go_loopg [0, 4] s.size (fun gg s0 s4 wr => ∃ (r : ByteArray) (L : List F) (us : List Value), s0 = .string r ∧ r.size ≤ gg ∧ Hid (r.size ≤ 200) ∧ Hid (FOwn wr w.heap.size s4 us L) ∧ L.length ≤ 12 ∧ Hid (rdLA L r = rdL s) ∧ Hid (L.length = 0 → r.size ≠ 0) ∧ Hid (Below w.heap.size w wr))
  case atStart => exact ⟨s, [], [], rfl, Nat.le_refl _, HL2, FOwn.nil _ _, by simp, rdLA_start s, fun _ => H0.out, Below.refl _ _⟩
  case round =>
    obtain ⟨r, L, us, rfl, hg, HR2, HO, h12, HRD, HN0, HB⟩ := hrel
    obtain ⟨a4, c4, hs4⟩ := own_shape HO.out.own
    subst hs4
    have hr200 := HR2.out
    by_cases hr0 : r.size = 0
    · obtain rfl := str_nil hr0
      have hlen : 1 ≤ L.length := by
        by_cases e : L.length = 0
        · exact absurd hr0 (HN0.out e)
        · omega
      have HFN : Hid (fin (rdL s) = some L) := by
        show _ = _
        rw [← HRD.out, rdLA_nil hr0, fin_some hlen h12]
      go_wp2_with fail
      go_ret2
      exact ⟨.inr ⟨L, _, us, HFN.out, rfl, HO.out⟩, HB.out⟩
    · have hner := str_ne (d := r) hr0
      by_cases hfull : L.length = 12
      · have HFN : Hid (fin (rdL s) = none) := by
          show _ = _
          rw [← HRD.out, fin_full hfull hr0]
        rw [hfull] at *
        go_wp2_with fail
        go_ret2
        exact ⟨.inl ⟨HFN.out, rfl⟩, HB.out⟩
      · have gf : ¬ (L.length : Int) = 12 := by omega
        have hlm : r.size ≤ maxLen := by unfold maxLen; omega
        cases hf : rdF r with
        | none =>
          have HP := frame_parse_no r wr (HV.out.2.below HB.out) (HV.out.1.below HB.out) hlm hf
          have HFN : Hid (fin (rdL s) = none) := by
            show _ = _
            rw [← HRD.out, rdLA_none hr0 hf]; rfl
          simp only [noFrame, errS] at HP
          clear hf hlm
          generalize L.length = m at *
          go_wp2_with (first | (go_at_call 179; refine HP.mono ?_; rintro e w1 ⟨rfl, hb1⟩; have hB1 := HB.out.trans (hb1.mono HB.out.size)))
          go_ret2
          exact ⟨.inl ⟨HFN.out, rfl⟩, hB1.alloc hB1.size _⟩
        | some y =>
          obtain ⟨⟨kk, ns, d⟩, nn⟩ := y
          have HP := frame_parse_yes r wr (HV.out.2.below HB.out) (HV.out.1.below HB.out) hlm kk ns d nn hf
          obtain ⟨hgood, hn1, hn2⟩ := rdLA_good (L := L) hf
          have HG : Hid (fF (kk, ns, d) = 0) := hgood
          have HRD2 : Hid (rdLA (L ++ [(kk, ns, d)]) (r.extract nn r.size) = rdL s) := by
            show _ = _
            rw [← rdLA_some hr0 hf]; exact HRD.out
          have hsl := fun W => run_from r nn hn2 (by omega) W
          have hrs : (r.extract nn r.size).size = r.size - nn := by rw [ByteArray.size_extract]; omega
          have HM : Hid ((r.extract nn r.size).size < r.size) := by show _ < _; omega
          clear hf hlm hgood HRD
          generalize r.extract nn r.size = r2 at *
          clear hrs
          go_wp2_with fail
          refine HP.mono ?_
          rintro e w1 ⟨v1, rfl, ho1, hb1⟩
          obtain ⟨a1, c1, hv1⟩ := own_shape ho1
          subst hv1
          have hB1 := HB.out.trans (hb1.mono HB.out.size)
          have bel2 : Below w1.heap.size w1 (w1.alloc (.cells #[.int .i64 kk, .slice a1 ns.length c1, .string d] 141)) := (Below.refl _ w1).alloc (Nat.le_refl _) _
          have bel3 : Below w1.heap.size w1 ((w1.alloc (.cells #[.int .i64 kk, .slice a1 ns.length c1, .string d] 141)).alloc (.cells #[.int .i64 kk, .slice a1 ns.length c1, .string d] 141)) := bel2.alloc bel2.size _
          have hB3 := hB1.trans (bel3.mono hB1.size)
          have hO3 := (HO.out.below hb1).below bel3
          have ho3 := own_le (ho1.below bel3) HB.out.size
          have hcn := cells_frame_new (w1.alloc (.cells #[.int .i64 kk, .slice a1 ns.length c1, .string d] 141)) kk (.slice a1 ns.length c1) d 141
          have h1c := frame_one kk a1 ns.length c1 d
          have hsz3 : w.heap.size ≤ ((w1.alloc (.cells #[.int .i64 kk, .slice a1 ns.length c1, .string d] 141)).alloc (.cells #[.int .i64 kk, .slice a1 ns.length c1, .string d] 141)).heap.size := hB3.size
          have hszA : (w1.alloc (.cells #[.int .i64 kk, .slice a1 ns.length c1, .string d] 141)).heap.size = w1.heap.size + 1 := by simp
          rw [hszA] at hcn
          clear HP bel2 bel3 hB1 hszA
          go_wp2_with (at_builtin; refine wpList_append_own_at _ rfl (.tmp 26) (.tmp 28) 139 rfl w.heap.size 141 i0 _ 3 48 Tryz.underlying139 hi hz0 hz1 hz2 rfl (by decide) _ _ (fcs us L) rfl hO3.own ⟨w1.heap.size + 1, 0, none⟩ 1 1 [Value.int .i64 kk, .slice a1 ns.length c1, .string d] rfl rfl hcn h1c (by unfold maxLen; omega) (by omega) hsz3 ?_; intro v5 w5 ho5 hg5 _ hl5)
          have hO5 := hO3.app (f := (kk, ns, d)) ho3 HG.out ho5 hg5
          have hB5 := hB3.grown hg5 hsz3 (fun k e => (hO3.own.lt k e).1)
          go_roundg r2.size
          case measure => have := HM.out; omega
          case rel => exact ⟨r2, L ++ [(kk, ns, d)], us ++ [Value.slice a1 ns.length c1], rfl, Nat.le_refl _, (show _ ≤ _ by have := HM.out; omega), hO5, by rw [List.length_append]; simp; omega, HRD2.out, (fun e => by rw [List.length_append] at e; simp at e), hB5⟩
theorem tfr_calls (s : ByteArray) (w : World) (hF : V.Forms w) (hC : Cnts w) (hl : s.size ≤ 200) : Calls Tryz.prog 156 #[.string s] w (FrPost s w) := by
  by_cases h0 : s.size = 0
  · obtain rfl := str_nil h0
    exact (tfr_nil w).mono fun e w' hh => ⟨.inl ⟨by rw [rdL_nil h0]; rfl, hh.1⟩, hh.2⟩
  · exact tfr_some s w hF hC hl h0
theorem tfr_no (s : ByteArray) (w : World) (hF : V.Forms w) (hC : Cnts w) (hl : s.size ≤ 200) (h : fin (rdL s) = none) : Calls Tryz.prog 156 #[.string s] w fun e w' => e = .returned (.tuple #[.slice none 0 0, .iface 133 (.int .i64 2)]) ∧ Below w.heap.size w w' := by
  refine (tfr_calls s w hF hC hl).mono ?_
  rintro e w' ⟨⟨_, rfl⟩ | ⟨l, v, us, h1, _⟩, hb⟩
  · exact ⟨rfl, hb⟩
  · rw [h] at h1; cases h1
theorem tfr_yes (s : ByteArray) (w : World) (hF : V.Forms w) (hC : Cnts w) (hl : s.size ≤ 200) (l : List F) (h : fin (rdL s) = some l) : Calls Tryz.prog 156 #[.string s] w fun e w' => ∃ v us, e = .returned (.tuple #[v, .nilIface]) ∧ FOwn w' w.heap.size v us l ∧ Below w.heap.size w w' := by
  refine (tfr_calls s w hF hC hl).mono ?_
  rintro e w' ⟨⟨h1, _⟩ | ⟨l', v, us, h1, rfl, ho⟩, hb⟩
  · rw [h] at h1; cases h1
  · rw [h] at h1; cases h1
    exact ⟨v, us, rfl, ho, hb⟩
theorem tnum_calls (s : ByteArray) (next : Int) (w : World) (hl : s.size ≤ 200) : Calls Tryz.prog 155 #[.string s, .int .i64 next] w fun e w' => ((rdN s next = none ∧ e = .returned (.tuple #[.int .i64 0, .string { data := #[] }, .iface 133 (.int .i64 2)])) ∨ (∃ n c, rdN s next = some (n, c) ∧ e = .returned (.tuple #[.int .i64 n, .string (s.extract c s.size), .nilIface]))) ∧ Below w.heap.size w w' := by
  unfold rdN
  cases hs : V.ints s with
  | nil =>
    obtain rfl : s = { data := #[] } := str_nil (by rw [← ints_length, hs]; rfl)
    exact (tnum_nil next w).mono fun e w' hh => ⟨.inl ⟨rfl, hh.1⟩, hh.2⟩
  | cons k l =>
    simp only
    by_cases h : (l.length : Int) < k
    · rw [if_pos (Or.inr h)]
      exact (tnum_short s next k l w hs hl h).mono fun e w' hh => ⟨.inl ⟨rfl, hh.1⟩, hh.2⟩
    · cases hb : U.lenB k with
      | false =>
        rw [if_pos (Or.inl rfl)]
        exact (tnum_bad s next k l w hs hl h hb).mono fun e w' hh => ⟨.inl ⟨rfl, hh.1⟩, hh.2⟩
      | true =>
        rw [if_neg (fun hh => by rcases hh with e | e; cases e; exact h e)]
        cases hw : U.wholeB (big (l.take k.toNat)) k next with
        | false =>
          rw [if_pos rfl]
          exact (tnum_no s next k l w hs hl h hb hw).mono fun e w' hh => ⟨.inl ⟨rfl, hh.1⟩, hh.2⟩
        | true =>
          rw [if_neg (by decide)]
          exact (tnum_yes s next k l w hs hl h hb hw).mono fun e w' hh => ⟨.inr ⟨_, _, rfl, hh.1⟩, hh.2⟩
theorem tnum_none (s : ByteArray) (next : Int) (w : World) (hl : s.size ≤ 200) (h : rdN s next = none) : Calls Tryz.prog 155 #[.string s, .int .i64 next] w fun e w' => e = .returned (.tuple #[.int .i64 0, .string { data := #[] }, .iface 133 (.int .i64 2)]) ∧ Below w.heap.size w w' := by
  refine (tnum_calls s next w hl).mono ?_
  rintro e w' ⟨⟨_, rfl⟩ | ⟨n, c, h1, _⟩, hb⟩
  · exact ⟨rfl, hb⟩
  · rw [h] at h1; cases h1
theorem tnum_some (s : ByteArray) (next : Int) (w : World) (hl : s.size ≤ 200) (n : Int) (c : Nat) (h : rdN s next = some (n, c)) : Calls Tryz.prog 155 #[.string s, .int .i64 next] w fun e w' => e = .returned (.tuple #[.int .i64 n, .string (s.extract c s.size), .nilIface]) ∧ Below w.heap.size w w' := by
  refine (tnum_calls s next w hl).mono ?_
  rintro e w' ⟨⟨h1, _⟩ | ⟨n', c', h1, rfl⟩, hb⟩
  · rw [h] at h1; cases h1
  · rw [h] at h1; cases h1
    exact ⟨rfl, hb⟩
set_option maxRecDepth 100000 in
set_option maxHeartbeats 4000000 in
theorem pparse_a (s : ByteArray) (next : Int) (w : World) (h : next < 0) : Calls Tryz.prog 131 #[.string s, .int .i64 next] w fun e w' => e = .returned (.tuple #[.int .i64 0, .slice none 0 0, .iface 133 (.int .i64 1)]) ∧ Below w.heap.size w w' := by
  go_enter Tryz.func131, Tryz.ntmps131
  go_wp2_with fail
  go_ret3
  exact ⟨rfl, Below.refl _ _⟩
set_option maxRecDepth 100000 in
set_option maxHeartbeats 4000000 in
theorem pparse_b (s : ByteArray) (next : Int) (w : World) (h0 : ¬ next < 0) (h : 1073741823 < next) : Calls Tryz.prog 131 #[.string s, .int .i64 next] w fun e w' => e = .returned (.tuple #[.int .i64 0, .slice none 0 0, .iface 133 (.int .i64 1)]) ∧ Below w.heap.size w w' := by
  go_enter Tryz.func131, Tryz.ntmps131
  go_wp2_with fail
  go_ret3
  exact ⟨rfl, Below.refl _ _⟩
set_option maxRecDepth 100000 in
set_option maxHeartbeats 4000000 in
theorem pparse_c (s : ByteArray) (next : Int) (w : World) (hm : U.mayB next = true) (h : 200 < s.size) (hl : s.size ≤ 9223372036854775807) : Calls Tryz.prog 131 #[.string s, .int .i64 next] w fun e w' => e = .returned (.tuple #[.int .i64 0, .slice none 0 0, .iface 133 (.int .i64 4)]) ∧ Below w.heap.size w w' := by
  obtain ⟨n0, n1⟩ := U.mayB_yes hm
  have g0 : ¬ next < 0 := by omega
  have g1 : ¬ (1073741823 : Int) < next := by omega
  have g2 : (200 : Int) < (s.size : Int) := by omega
  clear hm
  go_enter Tryz.func131, Tryz.ntmps131
  go_wp2_with fail
  go_ret3
  exact ⟨rfl, Below.refl _ _⟩
set_option maxRecDepth 100000 in
set_option maxHeartbeats 4000000 in
theorem pparse_d (s : ByteArray) (next : Int) (w : World) (hm : U.mayB next = true) (hl : s.size ≤ 200) (h : rdN s next = none) : Calls Tryz.prog 131 #[.string s, .int .i64 next] w fun e w' => e = .returned (.tuple #[.int .i64 0, .slice none 0 0, .iface 133 (.int .i64 2)]) ∧ Below w.heap.size w w' := by
  obtain ⟨n0, n1⟩ := U.mayB_yes hm
  have g0 : ¬ next < 0 := by omega
  have g1 : ¬ (1073741823 : Int) < next := by omega
  have g2 : ¬ (200 : Int) < (s.size : Int) := by omega
  have tl : s.size ≤ 9223372036854775807 := by omega
  have HN := tnum_none s next w hl h
  clear hm hl h
  go_enter Tryz.func131, Tryz.ntmps131
  go_wp2_with (first | (go_at_call 155; refine HN.mono ?_; rintro e w1 ⟨rfl, hb1⟩))
  go_ret3
  exact ⟨rfl, hb1⟩
set_option maxRecDepth 100000 in
set_option maxHeartbeats 4000000 in
theorem pparse_e (s : ByteArray) (next : Int) (w : World) (hF : V.Forms w) (hC : Cnts w) (hm : U.mayB next = true) (hl : s.size ≤ 200) (n : Int) (c : Nat) (h : rdN s next = some (n, c)) (h2 : fin (rdL (s.extract c s.size)) = none) : Calls Tryz.prog 131 #[.string s, .int .i64 next] w fun e w' => e = .returned (.tuple #[.int .i64 0, .slice none 0 0, .iface 133 (.int .i64 2)]) ∧ Below w.heap.size w w' := by
  obtain ⟨n0, n1⟩ := U.mayB_yes hm
  have g0 : ¬ next < 0 := by omega
  have g1 : ¬ (1073741823 : Int) < next := by omega
  have g2 : ¬ (200 : Int) < (s.size : Int) := by omega
  have tl : s.size ≤ 9223372036854775807 := by omega
  have HN := tnum_some s next w hl n c h
  have hr : (s.extract c s.size).size ≤ 200 := by rw [ByteArray.size_extract]; omega
  have HT := fun W (hb : Below w.heap.size w W) => tfr_no (s.extract c s.size) W (hF.below hb) (hC.below hb) hr h2
  clear hm hl h h2 hF hC hr
  generalize s.extract c s.size = r at *
  go_enter Tryz.func131, Tryz.ntmps131
  go_wp2_with (first | (go_at_call 155; refine HN.mono ?_; rintro e w1 ⟨rfl, hb1⟩) | (go_at_call 156; refine (HT _ hb1).mono ?_; rintro e w2 ⟨rfl, hb2⟩; have hB2 := hb1.trans (hb2.mono hb1.size)))
  go_ret3
  exact ⟨rfl, hB2⟩
set_option maxRecDepth 100000 in
set_option maxHeartbeats 4000000 in
theorem pparse_f (s : ByteArray) (next : Int) (w : World) (hF : V.Forms w) (hC : Cnts w) (hm : U.mayB next = true) (hl : s.size ≤ 200) (n : Int) (c : Nat) (h : rdN s next = some (n, c)) (l : List F) (h2 : fin (rdL (s.extract c s.size)) = some l) : Calls Tryz.prog 131 #[.string s, .int .i64 next] w fun e w' => ∃ v us, e = .returned (.tuple #[.int .i64 n, v, .nilIface]) ∧ FOwn w' w.heap.size v us l ∧ Below w.heap.size w w' := by
  obtain ⟨n0, n1⟩ := U.mayB_yes hm
  have g0 : ¬ next < 0 := by omega
  have g1 : ¬ (1073741823 : Int) < next := by omega
  have g2 : ¬ (200 : Int) < (s.size : Int) := by omega
  have tl : s.size ≤ 9223372036854775807 := by omega
  have HN := tnum_some s next w hl n c h
  have hr : (s.extract c s.size).size ≤ 200 := by rw [ByteArray.size_extract]; omega
  have HT := fun W (hb : Below w.heap.size w W) => tfr_yes (s.extract c s.size) W (hF.below hb) (hC.below hb) hr l h2
  clear hm hl h h2 hF hC hr
  generalize s.extract c s.size = r at *
  go_enter Tryz.func131, Tryz.ntmps131
  go_wp2_with (first | (go_at_call 155; refine HN.mono ?_; rintro e w1 ⟨rfl, hb1⟩) | (go_at_call 156; refine (HT _ hb1).mono ?_; rintro e w2 ⟨v, us, rfl, ho, hb2⟩; obtain ⟨av, cv, hv⟩ := own_shape ho.own; subst hv; have hB2 := hb1.trans (hb2.mono hb1.size)))
  go_ret3
  exact ⟨_, us, rfl, ⟨ho.len, ownsRow_mono ho.own hb1.size, fun j hj => own_le (ho.rows j hj) hb1.size, ho.good⟩, hB2⟩
theorem opF_no {s : ByteArray} {next : Int} (h : opF s next ≠ 0) : (U.mayB next = false ∧ opF s next = 1) ∨ (U.mayB next = true ∧ 200 < s.size ∧ opF s next = 4) ∨ (U.mayB next = true ∧ s.size ≤ 200 ∧ rdP s next = none ∧ opF s next = 2) := by
  unfold opF at h ⊢
  cases hm : U.mayB next with
  | false => exact .inl ⟨rfl, by simp⟩
  | true =>
    rw [hm] at h
    simp only [Bool.true_eq_false, if_false] at h ⊢
    by_cases h1 : 200 < s.size
    · exact .inr (.inl ⟨trivial, h1, by rw [if_pos h1]⟩)
    · rw [if_neg h1] at h ⊢
      by_cases h2 : rdP s next = none
      · exact .inr (.inr ⟨trivial, by omega, h2, by rw [if_pos h2]⟩)
      · rw [if_neg h2] at h; exact absurd rfl h
theorem opF_yes {s : ByteArray} {next : Int} (h : opF s next = 0) : U.mayB next = true ∧ s.size ≤ 200 ∧ ∃ n l, rdP s next = some (n, l) := by
  unfold opF at h
  cases hm : U.mayB next with
  | false => rw [hm] at h; simp at h
  | true =>
    rw [hm] at h
    simp only [Bool.true_eq_false, if_false] at h
    by_cases h1 : 200 < s.size
    · rw [if_pos h1] at h; cases h
    · rw [if_neg h1] at h
      cases h2 : rdP s next with
      | none => rw [if_pos h2] at h; cases h
      | some x => exact ⟨rfl, by omega, x.1, x.2, rfl⟩
theorem rdP_no {s : ByteArray} {next : Int} (h : rdP s next = none) : rdN s next = none ∨ ∃ n c, rdN s next = some (n, c) ∧ fin (rdL (s.extract c s.size)) = none := by
  unfold rdP at h
  cases h1 : rdN s next with
  | none => exact .inl rfl
  | some x =>
    obtain ⟨n, c⟩ := x
    rw [h1, Option.bind_some] at h
    cases h2 : fin (rdL (s.extract c s.size)) with
    | none => exact .inr ⟨n, c, rfl, h2⟩
    | some l => rw [h2] at h; cases h
theorem rdP_yes {s : ByteArray} {next n : Int} {l : List F} (h : rdP s next = some (n, l)) : ∃ c, rdN s next = some (n, c) ∧ fin (rdL (s.extract c s.size)) = some l := by
  unfold rdP at h
  cases h1 : rdN s next with
  | none => rw [h1] at h; cases h
  | some x =>
    obtain ⟨n', c⟩ := x
    rw [h1, Option.bind_some] at h
    cases h2 : fin (rdL (s.extract c s.size)) with
    | none => rw [h2] at h; cases h
    | some l' =>
      rw [h2] at h
      simp only [Option.map_some, Option.some.injEq, Prod.mk.injEq] at h
      obtain ⟨rfl, rfl⟩ := h
      exact ⟨c, rfl, h2⟩
theorem pkt_parse_no (s : ByteArray) (next : Int) (w : World) (hF : V.Forms w) (hC : Cnts w) (hl : s.size ≤ 9223372036854775807) (h : opF s next ≠ 0) : Calls Tryz.prog 131 #[.string s, .int .i64 next] w fun e w' => e = .returned (.tuple #[.int .i64 0, .slice none 0 0, errV (opF s next)]) ∧ Below w.heap.size w w' := by
  rcases opF_no h with ⟨hm, e⟩ | ⟨hm, h1, e⟩ | ⟨hm, h1, h2, e⟩
  · rw [e]
    rcases U.mayB_no hm with h | h
    · exact pparse_a s next w h
    · exact pparse_b s next w (by omega) h
  · rw [e]; exact pparse_c s next w hm h1 hl
  · rw [e]
    rcases rdP_no h2 with h3 | ⟨n, c, h3, h4⟩
    · exact pparse_d s next w hm h1 h3
    · exact pparse_e s next w hF hC hm h1 n c h3 h4
theorem pkt_parse_yes (s : ByteArray) (next : Int) (w : World) (hF : V.Forms w) (hC : Cnts w) (hm : U.mayB next = true) (hl : s.size ≤ 200) (n : Int) (l : List F) (h : rdP s next = some (n, l)) : Calls Tryz.prog 131 #[.string s, .int .i64 next] w fun e w' => ∃ v us, e = .returned (.tuple #[.int .i64 n, v, .nilIface]) ∧ FOwn w' w.heap.size v us l ∧ Below w.heap.size w w' := by
  obtain ⟨c, h1, h2⟩ := rdP_yes h
  exact pparse_f s next w hF hC hm hl n c h1 l h2
end Go.Proofs.YtdokgalidhmbbaaGreatDoor
