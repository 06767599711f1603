/- The nearest number that is cut so: what it is, and that none is nearer; a number cut to what it needs is told by who expects any one behind the one that is known. -/
import Derived.Test.YtbhjncdckkenjaaDoorN
namespace Go.Proofs.YtbhjncdckkenjaaDoor
set_option linter.unusedVariables false
/-- How far from 0. -/
def far (x : Int) : Int := if x < 0 then -x else x
theorem mayB_iff (n : Int) : mayB n = true ↔ 0 ≤ n ∧ n ≤ 1073741823 := by simp [mayB]
theorem wholeB_iff (cut b next : Int) : wholeB cut b next = true ↔ ((mayB next = true ∧ lenB b = true) ∧ mayB cut = true) ∧ cut < rnd b := by simp [wholeB]
theorem lenB_rnd {b : Int} (h : lenB b = true) : rnd b = 256 ∨ rnd b = 65536 ∨ rnd b = 16777216 ∨ rnd b = 4294967296 := by
  rcases lenB_yes h with rfl | rfl | rfl | rfl <;> simp [rnd]

theorem rnd_1 : rnd 1 = 256 := by simp [rnd]
theorem rnd_2 : rnd 2 = 65536 := by simp [rnd]
theorem rnd_3 : rnd 3 = 16777216 := by simp [rnd]
theorem rnd_4 : rnd 4 = 4294967296 := by simp [rnd]
theorem near_spec (cut b next : Int) (h : wholeB cut b next = true) :
    (0 ≤ near cut (rnd b) next ∧ near cut (rnd b) next ≤ 1073741823) ∧ near cut (rnd b) next % rnd b = cut ∧
    (rnd b ≤ near cut (rnd b) next → far (near cut (rnd b) next - next) ≤ far (near cut (rnd b) next - rnd b - next)) ∧
    (near cut (rnd b) next + rnd b ≤ 1073741823 → far (near cut (rnd b) next - next) < far (near cut (rnd b) next + rnd b - next)) := by
  obtain ⟨⟨⟨hn, hb⟩, hc⟩, hl⟩ := (wholeB_iff _ _ _).1 h
  obtain ⟨n0, n1⟩ := mayB_yes hn
  obtain ⟨c0, c1⟩ := mayB_yes hc
  rcases lenB_rnd hb with e | e | e | e
  all_goals
    rw [e] at hl ⊢
    have hx : ∃ x, x = near cut (rnd b) next := ⟨_, rfl⟩
    rw [e] at hx
    obtain ⟨x, hx⟩ := hx
    rw [← hx]
    unfold near at hx
    simp only [mayB_iff] at hx
    unfold far
    split at hx
    · refine ⟨?_, ?_, ?_, ?_⟩ <;> (try intro hh) <;> (repeat' split) <;> omega
    · split at hx
      · refine ⟨?_, ?_, ?_, ?_⟩ <;> (try intro hh) <;> (repeat' split) <;> omega
      · refine ⟨?_, ?_, ?_, ?_⟩ <;> (try intro hh) <;> (repeat' split) <;> omega

theorem told_right (n k more : Int) (h : pairB n k = true) (h0 : k ≤ more) (h1 : more < n) :
    wholeB (n % rnd (need n k)) (need n k) (more + 1) = true ∧ near (n % rnd (need n k)) (rnd (need n k)) (more + 1) = n := by
  obtain ⟨a0, a1, a2, a3⟩ := pairB_yes h
  have hl := need_len n k
  have hb : (need n k = 1 ∧ 2 * (n - k) ≤ 256) ∨ (need n k = 2 ∧ 2 * (n - k) ≤ 65536) ∨ (need n k = 3 ∧ 2 * (n - k) ≤ 16777216) ∨ (need n k = 4 ∧ 2 * (n - k) ≤ 4294967296) := by
    unfold need
    by_cases a : 2 * (n - k) ≤ 256
    · left; simp [a]
    · by_cases b : 2 * (n - k) ≤ 65536
      · right; left; simp [a, b]
      · by_cases c : 2 * (n - k) ≤ 16777216
        · right; right; left; simp [a, b, c]
        · right; right; right; simp [a, b, c]; omega
  rcases hb with ⟨e, hr⟩ | ⟨e, hr⟩ | ⟨e, hr⟩ | ⟨e, hr⟩
  all_goals
    rw [e] at hl ⊢
    constructor
    · rw [wholeB_iff]
      refine ⟨⟨⟨?_, hl⟩, ?_⟩, ?_⟩
      · rw [mayB_iff]; omega
      · rw [mayB_iff]; simp [rnd]; omega
      · simp [rnd]; omega
    · have hx : ∃ x, x = near (n % rnd (need n k)) (rnd (need n k)) (more + 1) := ⟨_, rfl⟩
      rw [e] at hx
      obtain ⟨x, hx⟩ := hx
      rw [← hx]
      simp only [rnd_1, rnd_2, rnd_3, rnd_4] at hx
      unfold near at hx
      simp only [mayB_iff] at hx
      split at hx
      · omega
      · split at hx
        · omega
        · omega
end Go.Proofs.YtbhjncdckkenjaaDoor
