/- What the document's May, Need and Whole answer. -/
import Derived.Test.YtbhjncdckkenjaaDoorR
namespace Go.Proofs.YtbhjncdckkenjaaDoor
open Go.RowKit
set_option linter.unusedVariables false

set_option maxRecDepth 100000 in
set_option maxHeartbeats 2000000 in
theorem rmay_yes (n : Int) (w : World) (h0 : 0 ≤ n) (h1 : n ≤ 1073741823) :
    Calls Tryd.prog 4 #[.int .i64 n] w fun e w' => e = .returned (.bool true) ∧ w' = w := by
  go_enter Tryd.func4, Tryd.ntmps4
  go_wp2
  go_ret
  exact ⟨rfl, rfl⟩
set_option maxRecDepth 100000 in
set_option maxHeartbeats 2000000 in
theorem rmay_lo (n : Int) (w : World) (h0 : n < 0) :
    Calls Tryd.prog 4 #[.int .i64 n] w fun e w' => e = .returned (.bool false) ∧ w' = w := by
  go_enter Tryd.func4, Tryd.ntmps4
  go_wp2
  go_ret
  exact ⟨rfl, rfl⟩
set_option maxRecDepth 100000 in
set_option maxHeartbeats 2000000 in
theorem rmay_hi (n : Int) (w : World) (h0 : 1073741823 < n) :
    Calls Tryd.prog 4 #[.int .i64 n] w fun e w' => e = .returned (.bool false) ∧ w' = w := by
  go_enter Tryd.func4, Tryd.ntmps4
  go_wp2
  go_ret
  exact ⟨by simp <;> omega, rfl⟩
theorem rmay (n : Int) (w : World) :
    Calls Tryd.prog 4 #[.int .i64 n] w fun e w' => e = .returned (.bool (mayB n)) ∧ w' = w := by
  cases h : mayB n with
  | true => exact rmay_yes n w (mayB_yes h).1 (mayB_yes h).2
  | false => rcases mayB_no h with h | h
             · exact rmay_lo n w h
             · exact rmay_hi n w h

set_option maxRecDepth 100000 in
set_option maxHeartbeats 2000000 in
theorem rneed_1 (n k : Int) (w : World) (h : pairB n k = true) (hhi : 2 * (n - k) ≤ 256) :
    Calls Tryd.prog 5 #[.int .i64 n, .int .i64 k] w fun e w' => e = .returned (.int .i64 1) ∧ w' = w := by
  obtain ⟨h0, h1, h2, h3⟩ := pairB_yes h
  go_enter Tryd.func5, Tryd.ntmps5
  go_wp2_with fail
  refine wp_loop_rounds 2 ?_
  rw [rounds_succ]
  go_wp2_with fail
  refine (round_1 _).mono ?_
  rintro e w1 ⟨rfl, rfl⟩
  go_wp2_with fail
  go_ret
  exact ⟨rfl, rfl⟩

set_option maxRecDepth 100000 in
set_option maxHeartbeats 2000000 in
theorem rneed_2 (n k : Int) (w : World) (h : pairB n k = true) (hlo : 256 < 2 * (n - k)) (hhi : 2 * (n - k) ≤ 65536) :
    Calls Tryd.prog 5 #[.int .i64 n, .int .i64 k] w fun e w' => e = .returned (.int .i64 2) ∧ w' = w := by
  obtain ⟨h0, h1, h2, h3⟩ := pairB_yes h
  go_enter Tryd.func5, Tryd.ntmps5
  go_wp2_with fail
  refine wp_loop_rounds 3 ?_
  rw [rounds_succ]
  go_wp2_with fail
  refine (round_1 _).mono ?_
  rintro e w1 ⟨rfl, rfl⟩
  go_wp2_with fail
  rw [rounds_succ]
  go_wp2_with fail
  refine (round_2 _).mono ?_
  rintro e w1 ⟨rfl, rfl⟩
  go_wp2_with fail
  go_ret
  exact ⟨rfl, rfl⟩

set_option maxRecDepth 100000 in
set_option maxHeartbeats 2000000 in
theorem rneed_3 (n k : Int) (w : World) (h : pairB n k = true) (hlo : 65536 < 2 * (n - k)) (hhi : 2 * (n - k) ≤ 16777216) :
    Calls Tryd.prog 5 #[.int .i64 n, .int .i64 k] w fun e w' => e = .returned (.int .i64 3) ∧ w' = w := by
  obtain ⟨h0, h1, h2, h3⟩ := pairB_yes h
  go_enter Tryd.func5, Tryd.ntmps5
  go_wp2_with fail
  refine wp_loop_rounds 4 ?_
  rw [rounds_succ]
  go_wp2_with fail
  refine (round_1 _).mono ?_
  rintro e w1 ⟨rfl, rfl⟩
  go_wp2_with fail
  rw [rounds_succ]
  go_wp2_with fail
  refine (round_2 _).mono ?_
  rintro e w1 ⟨rfl, rfl⟩
  go_wp2_with fail
  rw [rounds_succ]
  go_wp2_with fail
  refine (round_3 _).mono ?_
  rintro e w1 ⟨rfl, rfl⟩
  go_wp2_with fail
  go_ret
  exact ⟨rfl, rfl⟩

set_option maxRecDepth 100000 in
set_option maxHeartbeats 2000000 in
theorem rneed_4 (n k : Int) (w : World) (h : pairB n k = true) (hlo : 16777216 < 2 * (n - k)) :
    Calls Tryd.prog 5 #[.int .i64 n, .int .i64 k] w fun e w' => e = .returned (.int .i64 4) ∧ w' = w := by
  obtain ⟨h0, h1, h2, h3⟩ := pairB_yes h
  go_enter Tryd.func5, Tryd.ntmps5
  go_wp2_with fail
  refine wp_loop_rounds 5 ?_
  rw [rounds_succ]
  go_wp2_with fail
  refine (round_1 _).mono ?_
  rintro e w1 ⟨rfl, rfl⟩
  go_wp2_with fail
  rw [rounds_succ]
  go_wp2_with fail
  refine (round_2 _).mono ?_
  rintro e w1 ⟨rfl, rfl⟩
  go_wp2_with fail
  rw [rounds_succ]
  go_wp2_with fail
  refine (round_3 _).mono ?_
  rintro e w1 ⟨rfl, rfl⟩
  go_wp2_with fail
  rw [rounds_succ]
  go_wp2_with fail
  refine (round_4 _).mono ?_
  rintro e w1 ⟨rfl, rfl⟩
  go_wp2_with fail
  go_ret
  exact ⟨rfl, rfl⟩

theorem rneed (n k : Int) (w : World) (h : pairB n k = true) :
    Calls Tryd.prog 5 #[.int .i64 n, .int .i64 k] w fun e w' => e = .returned (.int .i64 (need n k)) ∧ w' = w := by
  by_cases a : 2 * (n - k) ≤ 256
  · have e : need n k = 1 := by simp [need, a]
    rw [e]; exact rneed_1 n k w h a
  by_cases b : 2 * (n - k) ≤ 65536
  · have e : need n k = 2 := by simp [need, a, b]
    rw [e]; exact rneed_2 n k w h (by omega) b
  by_cases c : 2 * (n - k) ≤ 16777216
  · have e : need n k = 3 := by simp [need, a, b, c]
    rw [e]; exact rneed_3 n k w h (by omega) c
  · have e : need n k = 4 := by simp [need, a, b, c]
    rw [e]; exact rneed_4 n k w h (by omega)

/-- The greatest that is cut so and no greater than next, where there is one: else the cut. -/
def low (cut r next : Int) : Int := if cut < next then cut + (next - cut) / r * r else cut
/-- The nearest, as the document has it. -/
def near2 (cut r next : Int) : Int :=
  if 1073741823 < low cut r next + r ∨ next < low cut r next then low cut r next
  else if low cut r next + r - next ≤ next - low cut r next then low cut r next + r else low cut r next
theorem near2_eq (cut b next : Int) (h : wholeB cut b next = true) : near2 cut (rnd b) next = near cut (rnd b) next := by
  obtain ⟨⟨⟨hn, hb⟩, hc⟩, hl⟩ := (wholeB_iff _ _ _).1 h
  obtain ⟨n0, n1⟩ := mayB_yes hn
  obtain ⟨c0, c1⟩ := mayB_yes hc
  rcases lenB_rnd hb with e | e | e | e
  all_goals
    rw [e] at hl ⊢
    obtain ⟨lw, hlw⟩ : ∃ x, x = low cut (rnd b) next := ⟨_, rfl⟩
    rw [e] at hlw
    obtain ⟨x, hx⟩ : ∃ x, x = near cut (rnd b) next := ⟨_, rfl⟩
    rw [e] at hx
    rw [← hx]
    unfold near2
    rw [← hlw]
    unfold near at hx
    unfold low at hlw
    simp only [mayB_iff] at hx
    split at hlw <;> split at hx
    · split
      · omega
      · split <;> omega
    · split at hx
      · split
        · omega
        · split <;> omega
      · split
        · omega
        · split <;> omega
    · split
      · omega
      · split <;> omega
    · split at hx
      · split
        · omega
        · split <;> omega
      · split
        · omega
        · split <;> omega

set_option maxRecDepth 100000 in
set_option maxHeartbeats 2000000 in
theorem rwhole_no1 (cut b next : Int) (w : World) (hn : mayB next = false) :
    Calls Tryd.prog 10 #[.int .i64 cut, .int .i64 b, .int .i64 next] w fun e w' => e = .returned (.tuple #[.int .i64 0, .bool false]) ∧ w' = w := by
  go_enter Tryd.func10, Tryd.ntmps10
  go_wp2_with fail
  refine (rmay next _).mono ?_
  rintro e w1 ⟨rfl, rfl⟩
  rw [hn]
  go_wp2
  go_ret2
  exact ⟨rfl, rfl⟩

set_option maxRecDepth 100000 in
set_option maxHeartbeats 2000000 in
theorem rwhole_no2 (cut b next : Int) (w : World) (hn : mayB next = true) (hb : b < 1) :
    Calls Tryd.prog 10 #[.int .i64 cut, .int .i64 b, .int .i64 next] w fun e w' => e = .returned (.tuple #[.int .i64 0, .bool false]) ∧ w' = w := by
  go_enter Tryd.func10, Tryd.ntmps10
  go_wp2_with fail
  refine (rmay next _).mono ?_
  rintro e w1 ⟨rfl, rfl⟩
  rw [hn]
  go_wp2
  go_ret2
  exact ⟨rfl, rfl⟩

set_option maxRecDepth 100000 in
set_option maxHeartbeats 2000000 in
theorem rwhole_no3 (cut b next : Int) (w : World) (hn : mayB next = true) (hb : 4 < b) :
    Calls Tryd.prog 10 #[.int .i64 cut, .int .i64 b, .int .i64 next] w fun e w' => e = .returned (.tuple #[.int .i64 0, .bool false]) ∧ w' = w := by
  go_enter Tryd.func10, Tryd.ntmps10
  go_wp2_with fail
  refine (rmay next _).mono ?_
  rintro e w1 ⟨rfl, rfl⟩
  rw [hn]
  go_wp2
  go_ret2
  exact ⟨rfl, rfl⟩

set_option maxRecDepth 100000 in
set_option maxHeartbeats 2000000 in
theorem rwhole_no4 (cut b next : Int) (w : World) (hn : mayB next = true) (b0 : 1 ≤ b) (b1 : b ≤ 4) (hc : cut < 0) :
    Calls Tryd.prog 10 #[.int .i64 cut, .int .i64 b, .int .i64 next] w fun e w' => e = .returned (.tuple #[.int .i64 0, .bool false]) ∧ w' = w := by
  go_enter Tryd.func10, Tryd.ntmps10
  go_wp2_with fail
  refine (rmay next _).mono ?_
  rintro e w1 ⟨rfl, rfl⟩
  rw [hn]
  go_wp2
  go_ret2
  exact ⟨rfl, rfl⟩

set_option maxRecDepth 100000 in
set_option maxHeartbeats 2000000 in
theorem rwhole_no5 (cut b next : Int) (w : World) (hn : mayB next = true) (hb : lenB b = true) (b0 : 1 ≤ b) (b1 : b ≤ 4) (hc : 0 ≤ cut) (hl : rnd b ≤ cut) :
    Calls Tryd.prog 10 #[.int .i64 cut, .int .i64 b, .int .i64 next] w fun e w' => e = .returned (.tuple #[.int .i64 0, .bool false]) ∧ w' = w := by
  go_enter Tryd.func10, Tryd.ntmps10
  go_wp2_with fail
  refine (rmay next _).mono ?_
  rintro e w1 ⟨rfl, rfl⟩
  rw [hn]
  go_wp2_with fail
  refine (round b _ hb).mono ?_
  rintro e w1 ⟨rfl, rfl⟩
  go_wp2
  go_ret2
  exact ⟨rfl, rfl⟩

set_option maxRecDepth 100000 in
set_option maxHeartbeats 2000000 in
theorem rwhole_no6 (cut b next : Int) (w : World) (hn : mayB next = true) (hb : lenB b = true) (b0 : 1 ≤ b) (b1 : b ≤ 4) (hc : 0 ≤ cut) (hl : cut < rnd b) (hh : 1073741823 < cut) :
    Calls Tryd.prog 10 #[.int .i64 cut, .int .i64 b, .int .i64 next] w fun e w' => e = .returned (.tuple #[.int .i64 0, .bool false]) ∧ w' = w := by
  go_enter Tryd.func10, Tryd.ntmps10
  go_wp2_with fail
  refine (rmay next _).mono ?_
  rintro e w1 ⟨rfl, rfl⟩
  rw [hn]
  go_wp2_with fail
  refine (round b _ hb).mono ?_
  rintro e w1 ⟨rfl, rfl⟩
  go_wp2
  go_ret2
  exact ⟨rfl, rfl⟩

theorem rwhole_no (cut b next : Int) (w : World) (h : wholeB cut b next = false) :
    Calls Tryd.prog 10 #[.int .i64 cut, .int .i64 b, .int .i64 next] w fun e w' => e = .returned (.tuple #[.int .i64 0, .bool false]) ∧ w' = w := by
  cases hn : mayB next with
  | false => exact rwhole_no1 cut b next w hn
  | true =>
    cases hb : lenB b with
    | false =>
      rcases lenB_no hb with hb | hb
      · exact rwhole_no2 cut b next w hn hb
      · exact rwhole_no3 cut b next w hn hb
    | true =>
      have hb' : 1 ≤ b ∧ b ≤ 4 := of_decide_eq_true hb
      by_cases hc : cut < 0
      · exact rwhole_no4 cut b next w hn hb'.1 hb'.2 hc
      · by_cases hl : cut < rnd b
        · refine rwhole_no6 cut b next w hn hb hb'.1 hb'.2 (by omega) hl ?_
          by_cases hh : cut ≤ 1073741823
          · have hm : mayB cut = true := (mayB_iff _).2 ⟨by omega, hh⟩
            simp [wholeB, hn, hb, hm, hl] at h
          · omega
        · exact rwhole_no5 cut b next w hn hb hb'.1 hb'.2 (by omega) (by omega)

set_option maxRecDepth 100000 in
set_option maxHeartbeats 2000000 in
theorem rwhole_u1 (cut b next : Int) (w : World) (hn : mayB next = true) (hb : lenB b = true) (b0 : 1 ≤ b) (b1 : b ≤ 4) (hc : mayB cut = true) (hl : cut < rnd b)
    (t0 : cut < next) (t1 : 1073741823 < cut + (next - cut) / rnd b * rnd b + rnd b) :
    Calls Tryd.prog 10 #[.int .i64 cut, .int .i64 b, .int .i64 next] w fun e w' => e = .returned (.tuple #[.int .i64 (cut + (next - cut) / rnd b * rnd b), .bool true]) ∧ w' = w := by
  obtain ⟨n0, n1⟩ := mayB_yes hn
  obtain ⟨c0, c1⟩ := mayB_yes hc
  have hq0 : 0 ≤ (next - cut) / rnd b := Int.ediv_nonneg (by omega) (by have := rnd_bd b; omega)
  have hq1 : (next - cut) / rnd b * rnd b ≤ next - cut := Int.ediv_mul_le _ (by have := rnd_bd b; omega)
  have hq2 : 0 ≤ (next - cut) / rnd b * rnd b := Int.mul_nonneg hq0 (by have := rnd_bd b; omega)
  have hq3 : (next - cut) / rnd b ≤ next - cut := Int.ediv_le_self _ (by omega)
  go_enter Tryd.func10, Tryd.ntmps10
  go_wp2_with fail
  refine (rmay next _).mono ?_
  rintro e w1 ⟨rfl, rfl⟩
  rw [hn]
  go_wp2_with fail
  refine (round b _ hb).mono ?_
  rintro e w1 ⟨rfl, rfl⟩
  obtain ⟨hr0, hr1⟩ := rnd_bd b
  generalize hrr : rnd b = r at hr0 hr1 hl t1 hq0 hq1 hq2 hq3 ⊢
  go_wp2
  go_ret2
  rw [← hrr]; exact ⟨rfl, rfl⟩

set_option maxRecDepth 100000 in
set_option maxHeartbeats 2000000 in
theorem rwhole_u2 (cut b next : Int) (w : World) (hn : mayB next = true) (hb : lenB b = true) (b0 : 1 ≤ b) (b1 : b ≤ 4) (hc : mayB cut = true) (hl : cut < rnd b)
    (t0 : cut < next) (t1 : cut + (next - cut) / rnd b * rnd b + rnd b ≤ 1073741823) (t2 : next < cut + (next - cut) / rnd b * rnd b) :
    Calls Tryd.prog 10 #[.int .i64 cut, .int .i64 b, .int .i64 next] w fun e w' => e = .returned (.tuple #[.int .i64 (cut + (next - cut) / rnd b * rnd b), .bool true]) ∧ w' = w := by
  obtain ⟨n0, n1⟩ := mayB_yes hn
  obtain ⟨c0, c1⟩ := mayB_yes hc
  have hq0 : 0 ≤ (next - cut) / rnd b := Int.ediv_nonneg (by omega) (by have := rnd_bd b; omega)
  have hq1 : (next - cut) / rnd b * rnd b ≤ next - cut := Int.ediv_mul_le _ (by have := rnd_bd b; omega)
  have hq2 : 0 ≤ (next - cut) / rnd b * rnd b := Int.mul_nonneg hq0 (by have := rnd_bd b; omega)
  have hq3 : (next - cut) / rnd b ≤ next - cut := Int.ediv_le_self _ (by omega)
  exfalso
  have hr := rnd_bd b
  omega

set_option maxRecDepth 100000 in
set_option maxHeartbeats 2000000 in
theorem rwhole_u3 (cut b next : Int) (w : World) (hn : mayB next = true) (hb : lenB b = true) (b0 : 1 ≤ b) (b1 : b ≤ 4) (hc : mayB cut = true) (hl : cut < rnd b)
    (t0 : cut < next) (t1 : cut + (next - cut) / rnd b * rnd b + rnd b ≤ 1073741823) (t2 : cut + (next - cut) / rnd b * rnd b ≤ next) (t3 : cut + (next - cut) / rnd b * rnd b + rnd b - next ≤ next - (cut + (next - cut) / rnd b * rnd b)) :
    Calls Tryd.prog 10 #[.int .i64 cut, .int .i64 b, .int .i64 next] w fun e w' => e = .returned (.tuple #[.int .i64 (cut + (next - cut) / rnd b * rnd b + rnd b), .bool true]) ∧ w' = w := by
  obtain ⟨n0, n1⟩ := mayB_yes hn
  obtain ⟨c0, c1⟩ := mayB_yes hc
  have hq0 : 0 ≤ (next - cut) / rnd b := Int.ediv_nonneg (by omega) (by have := rnd_bd b; omega)
  have hq1 : (next - cut) / rnd b * rnd b ≤ next - cut := Int.ediv_mul_le _ (by have := rnd_bd b; omega)
  have hq2 : 0 ≤ (next - cut) / rnd b * rnd b := Int.mul_nonneg hq0 (by have := rnd_bd b; omega)
  have hq3 : (next - cut) / rnd b ≤ next - cut := Int.ediv_le_self _ (by omega)
  go_enter Tryd.func10, Tryd.ntmps10
  go_wp2_with fail
  refine (rmay next _).mono ?_
  rintro e w1 ⟨rfl, rfl⟩
  rw [hn]
  go_wp2_with fail
  refine (round b _ hb).mono ?_
  rintro e w1 ⟨rfl, rfl⟩
  obtain ⟨hr0, hr1⟩ := rnd_bd b
  generalize hrr : rnd b = r at hr0 hr1 hl t1 t2 t3 hq0 hq1 hq2 hq3 ⊢
  go_wp2
  go_ret2
  rw [← hrr]; exact ⟨rfl, rfl⟩

set_option maxRecDepth 100000 in
set_option maxHeartbeats 2000000 in
theorem rwhole_u4 (cut b next : Int) (w : World) (hn : mayB next = true) (hb : lenB b = true) (b0 : 1 ≤ b) (b1 : b ≤ 4) (hc : mayB cut = true) (hl : cut < rnd b)
    (t0 : cut < next) (t1 : cut + (next - cut) / rnd b * rnd b + rnd b ≤ 1073741823) (t2 : cut + (next - cut) / rnd b * rnd b ≤ next) (t3 : next - (cut + (next - cut) / rnd b * rnd b) < cut + (next - cut) / rnd b * rnd b + rnd b - next) :
    Calls Tryd.prog 10 #[.int .i64 cut, .int .i64 b, .int .i64 next] w fun e w' => e = .returned (.tuple #[.int .i64 (cut + (next - cut) / rnd b * rnd b), .bool true]) ∧ w' = w := by
  obtain ⟨n0, n1⟩ := mayB_yes hn
  obtain ⟨c0, c1⟩ := mayB_yes hc
  have hq0 : 0 ≤ (next - cut) / rnd b := Int.ediv_nonneg (by omega) (by have := rnd_bd b; omega)
  have hq1 : (next - cut) / rnd b * rnd b ≤ next - cut := Int.ediv_mul_le _ (by have := rnd_bd b; omega)
  have hq2 : 0 ≤ (next - cut) / rnd b * rnd b := Int.mul_nonneg hq0 (by have := rnd_bd b; omega)
  have hq3 : (next - cut) / rnd b ≤ next - cut := Int.ediv_le_self _ (by omega)
  go_enter Tryd.func10, Tryd.ntmps10
  go_wp2_with fail
  refine (rmay next _).mono ?_
  rintro e w1 ⟨rfl, rfl⟩
  rw [hn]
  go_wp2_with fail
  refine (round b _ hb).mono ?_
  rintro e w1 ⟨rfl, rfl⟩
  obtain ⟨hr0, hr1⟩ := rnd_bd b
  generalize hrr : rnd b = r at hr0 hr1 hl t1 t2 t3 hq0 hq1 hq2 hq3 ⊢
  go_wp2
  go_ret2
  rw [← hrr]; exact ⟨rfl, rfl⟩

set_option maxRecDepth 100000 in
set_option maxHeartbeats 2000000 in
theorem rwhole_d1 (cut b next : Int) (w : World) (hn : mayB next = true) (hb : lenB b = true) (b0 : 1 ≤ b) (b1 : b ≤ 4) (hc : mayB cut = true) (hl : cut < rnd b)
    (t0 : next ≤ cut) (t1 : 1073741823 < cut + rnd b) :
    Calls Tryd.prog 10 #[.int .i64 cut, .int .i64 b, .int .i64 next] w fun e w' => e = .returned (.tuple #[.int .i64 (cut), .bool true]) ∧ w' = w := by
  obtain ⟨n0, n1⟩ := mayB_yes hn
  obtain ⟨c0, c1⟩ := mayB_yes hc
  go_enter Tryd.func10, Tryd.ntmps10
  go_wp2_with fail
  refine (rmay next _).mono ?_
  rintro e w1 ⟨rfl, rfl⟩
  rw [hn]
  go_wp2_with fail
  refine (round b _ hb).mono ?_
  rintro e w1 ⟨rfl, rfl⟩
  obtain ⟨hr0, hr1⟩ := rnd_bd b
  generalize hrr : rnd b = r at hr0 hr1 hl t1 ⊢
  go_wp2
  go_ret2
  rw [← hrr]; exact ⟨rfl, rfl⟩

set_option maxRecDepth 100000 in
set_option maxHeartbeats 2000000 in
theorem rwhole_d2 (cut b next : Int) (w : World) (hn : mayB next = true) (hb : lenB b = true) (b0 : 1 ≤ b) (b1 : b ≤ 4) (hc : mayB cut = true) (hl : cut < rnd b)
    (t0 : next ≤ cut) (t1 : cut + rnd b ≤ 1073741823) (t2 : next < cut) :
    Calls Tryd.prog 10 #[.int .i64 cut, .int .i64 b, .int .i64 next] w fun e w' => e = .returned (.tuple #[.int .i64 (cut), .bool true]) ∧ w' = w := by
  obtain ⟨n0, n1⟩ := mayB_yes hn
  obtain ⟨c0, c1⟩ := mayB_yes hc
  go_enter Tryd.func10, Tryd.ntmps10
  go_wp2_with fail
  refine (rmay next _).mono ?_
  rintro e w1 ⟨rfl, rfl⟩
  rw [hn]
  go_wp2_with fail
  refine (round b _ hb).mono ?_
  rintro e w1 ⟨rfl, rfl⟩
  obtain ⟨hr0, hr1⟩ := rnd_bd b
  generalize hrr : rnd b = r at hr0 hr1 hl t1 t2 ⊢
  go_wp2
  go_ret2
  rw [← hrr]; exact ⟨rfl, rfl⟩

set_option maxRecDepth 100000 in
set_option maxHeartbeats 2000000 in
theorem rwhole_d3 (cut b next : Int) (w : World) (hn : mayB next = true) (hb : lenB b = true) (b0 : 1 ≤ b) (b1 : b ≤ 4) (hc : mayB cut = true) (hl : cut < rnd b)
    (t0 : next ≤ cut) (t1 : cut + rnd b ≤ 1073741823) (t2 : cut ≤ next) (t3 : cut + rnd b - next ≤ next - (cut)) :
    Calls Tryd.prog 10 #[.int .i64 cut, .int .i64 b, .int .i64 next] w fun e w' => e = .returned (.tuple #[.int .i64 (cut + rnd b), .bool true]) ∧ w' = w := by
  obtain ⟨n0, n1⟩ := mayB_yes hn
  obtain ⟨c0, c1⟩ := mayB_yes hc
  exfalso
  have hr := rnd_bd b
  omega

set_option maxRecDepth 100000 in
set_option maxHeartbeats 2000000 in
theorem rwhole_d4 (cut b next : Int) (w : World) (hn : mayB next = true) (hb : lenB b = true) (b0 : 1 ≤ b) (b1 : b ≤ 4) (hc : mayB cut = true) (hl : cut < rnd b)
    (t0 : next ≤ cut) (t1 : cut + rnd b ≤ 1073741823) (t2 : cut ≤ next) (t3 : next - (cut) < cut + rnd b - next) :
    Calls Tryd.prog 10 #[.int .i64 cut, .int .i64 b, .int .i64 next] w fun e w' => e = .returned (.tuple #[.int .i64 (cut), .bool true]) ∧ w' = w := by
  obtain ⟨n0, n1⟩ := mayB_yes hn
  obtain ⟨c0, c1⟩ := mayB_yes hc
  go_enter Tryd.func10, Tryd.ntmps10
  go_wp2_with fail
  refine (rmay next _).mono ?_
  rintro e w1 ⟨rfl, rfl⟩
  rw [hn]
  go_wp2_with fail
  refine (round b _ hb).mono ?_
  rintro e w1 ⟨rfl, rfl⟩
  obtain ⟨hr0, hr1⟩ := rnd_bd b
  generalize hrr : rnd b = r at hr0 hr1 hl t1 t2 t3 ⊢
  go_wp2
  go_ret2
  rw [← hrr]; exact ⟨rfl, rfl⟩

theorem rwhole_yes (cut b next : Int) (w : World) (h : wholeB cut b next = true) :
    Calls Tryd.prog 10 #[.int .i64 cut, .int .i64 b, .int .i64 next] w fun e w' => e = .returned (.tuple #[.int .i64 (near cut (rnd b) next), .bool true]) ∧ w' = w := by
  rw [← near2_eq cut b next h]
  obtain ⟨⟨⟨hn, hb⟩, hc⟩, hl⟩ := (wholeB_iff _ _ _).1 h
  have hb' : 1 ≤ b ∧ b ≤ 4 := of_decide_eq_true hb
  unfold near2
  by_cases t0 : cut < next
  · have hlw : low cut (rnd b) next = cut + (next - cut) / rnd b * rnd b := by simp [low, t0]
    rw [hlw]
    by_cases t1 : 1073741823 < cut + (next - cut) / rnd b * rnd b + rnd b
    · rw [if_pos (Or.inl t1)]; exact rwhole_u1 cut b next w hn hb hb'.1 hb'.2 hc hl t0 t1
    · by_cases t2 : next < cut + (next - cut) / rnd b * rnd b
      · rw [if_pos (Or.inr t2)]; exact rwhole_u2 cut b next w hn hb hb'.1 hb'.2 hc hl t0 (by omega) t2
      · rw [if_neg (by omega)]
        by_cases t3 : cut + (next - cut) / rnd b * rnd b + rnd b - next ≤ next - (cut + (next - cut) / rnd b * rnd b)
        · rw [if_pos t3]; exact rwhole_u3 cut b next w hn hb hb'.1 hb'.2 hc hl t0 (by omega) (by omega) t3
        · rw [if_neg t3]; exact rwhole_u4 cut b next w hn hb hb'.1 hb'.2 hc hl t0 (by omega) (by omega) (by omega)
  · have hlw : low cut (rnd b) next = cut := by simp [low, t0]
    rw [hlw]
    by_cases t1 : 1073741823 < cut + rnd b
    · rw [if_pos (Or.inl t1)]; exact rwhole_d1 cut b next w hn hb hb'.1 hb'.2 hc hl (by omega) t1
    · by_cases t2 : next < cut
      · rw [if_pos (Or.inr t2)]; exact rwhole_d2 cut b next w hn hb hb'.1 hb'.2 hc hl (by omega) (by omega) t2
      · rw [if_neg (by omega)]
        by_cases t3 : cut + rnd b - next ≤ next - cut
        · rw [if_pos t3]; exact rwhole_d3 cut b next w hn hb hb'.1 hb'.2 hc hl (by omega) (by omega) (by omega) t3
        · rw [if_neg t3]; exact rwhole_d4 cut b next w hn hb hb'.1 hb'.2 hc hl (by omega) (by omega) (by omega) (by omega)
end Go.Proofs.YtbhjncdckkenjaaDoor
