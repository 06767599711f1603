/- What the law RangesSet asks first: 6 into 7 to 9 and 3 to 5; and what the contracts say of sets and of how many. -/
import Derived.Test.YtbglleldbogaaaaDoorP
namespace Go.Proofs.YtbglleldbogaaaaDoor
open Go.RowKit Go.Lib Go.Sort Go.Shelf
set_option linter.unusedVariables false
set_option linter.unusedSimpArgs false

theorem fact_chk : chk [(7, 9), (3, 5)] = 0 := by
  refine (chk_ok _).2 ⟨by simp, fun r hr => ?_, ⟨by decide, fun s hs => ?_, ⟨by decide, fun s hs => by simp at hs, trivial⟩⟩⟩
  · simp at hr; rcases hr with rfl | rfl <;> exact ⟨by decide, by decide⟩
  · simp at hs; subst hs; decide
theorem fact_norm : Norm [(3, 9)] := ⟨by decide, fun s hs => by simp at hs, trivial⟩
theorem fact_add (S : Nat) (w : World) (hS : S < w.heap.size) (h0 : w.cell? ⟨S, 0, none⟩ = some (.int .i64 7)) (h1 : w.cell? ⟨S, 1, none⟩ = some (.int .i64 9)) (h2 : w.cell? ⟨S, 2, none⟩ = some (.int .i64 3)) (h3 : w.cell? ⟨S, 3, none⟩ = some (.int .i64 5)) :
    Calls Tryd.prog 11 #[.slice (some ⟨S, 0, none⟩) 2 2, .int .i64 6] w fun e w' => ∃ b off c, e = .returned (.tuple #[.slice (some ⟨b, off, none⟩) 1 c, .bool true, .nilIface]) ∧ w'.cell? ⟨b, off, none⟩ = some (.int .i64 3) ∧ w'.cell? ⟨b, off + 1, none⟩ = some (.int .i64 9) ∧ Below w.heap.size w w' := by
  have hR : Row w (.slice (some ⟨S, 0, none⟩) 2 2) [(7, 9), (3, 5)] := by
    refine ⟨_, 2, rfl, by simp, (fun x => by cases x), .inr ⟨S, 0, rfl, hS, fun j hj => ?_⟩⟩
    match j, hj with
    | 0, _ => exact ⟨h0, h1⟩
    | 1, _ => exact ⟨h2, h3⟩
    | j + 2, hj => exact absurd hj (by simp)
  refine (add_ok _ [(7, 9), (3, 5)] 6 w hR fact_chk (by decide)).mono ?_
  rintro e w' ⟨zs, hn, hm, hl, hb, hor⟩
  have e1 : zs = [(3, 9)] := norm_unique hn fact_norm fun k => by
    rw [hm k, mem_cons, mem_one, mem_one]
    show (7 ≤ k ∧ k ≤ 9 ∨ 3 ≤ k ∧ k ≤ 5) ∨ k = 6 ↔ 3 ≤ k ∧ k ≤ 9
    omega
  subst e1
  rcases hor with ⟨h, _⟩ | ⟨_, v, hr, rfl⟩
  · simp at h
  · obtain ⟨a, c, rfl, _, _, hz⟩ := hr
    rcases hz with hz | ⟨b, off, rfl, hlt, hc⟩
    · cases hz
    · have := hc 0 (by simp)
      exact ⟨b, off, c, rfl, by simpa [at'] using this.1, by simpa [at'] using this.2, hb⟩

theorem good_of {c : List R} (hn : Norm c) (hl : c.length ≤ 12) (hm : ∀ n, Mem c n → 0 ≤ n ∧ n ≤ 1073741823) : chk c = 0 := (chk_ok c).2 ⟨hl, ends_of hn hm, hn⟩
theorem add_good {zs c : List R} {n : Int} (hz : chk zs = 0) (hn : isN n = true) (hc : Norm c) (hl : c.length ≤ 12) (hm : ∀ k, Mem c k ↔ Mem zs k ∨ k = n) : chk c = 0 :=
  good_of hc hl fun k hk => by
    rcases (hm k).1 hk with h | rfl
    · exact mem_ends ((chk_ok zs).1 hz).2.1 k h
    · exact (isN_iff k).1 hn
theorem both_good {zs ms c : List R} (hz : chk zs = 0) (hy : chk ms = 0) (hc : Norm c) (hl : c.length ≤ 12) (hm : ∀ k, Mem c k ↔ Mem zs k ∨ Mem ms k) : chk c = 0 :=
  good_of hc hl fun k hk => by
    rcases (hm k).1 hk with h | h
    · exact mem_ends ((chk_ok zs).1 hz).2.1 k h
    · exact mem_ends ((chk_ok ms).1 hy).2.1 k h
theorem memB_add {zs c : List R} {n k : Int} (hm : ∀ k, Mem c k ↔ Mem zs k ∨ k = n) : memB c k = (memB zs k || decide (k = n)) := by
  rw [Bool.eq_iff_iff, memB_iff, hm k, Bool.or_eq_true, memB_iff, decide_eq_true_eq]
theorem memB_both {zs ms c : List R} {k : Int} (hm : ∀ k, Mem c k ↔ Mem zs k ∨ Mem ms k) : memB c k = (memB zs k || memB ms k) := by
  rw [Bool.eq_iff_iff, memB_iff, hm k, Bool.or_eq_true, memB_iff, memB_iff]
theorem cnt_add {zs c : List R} {n : Int} (hz : chk zs = 0) (hn : isN n = true) (hc : Norm c) (hl : c.length ≤ 12) (hm : ∀ k, Mem c k ↔ Mem zs k ∨ k = n) : cnt c = cnt zs + (if memB zs n then 0 else 1) := by
  have g := (chk_ok zs).1 hz
  have g2 := (chk_ok c).1 (add_good hz hn hc hl hm)
  cases h : memB zs n with
  | true => rw [cnt_old g.2.2 hc n hm ((memB_iff _ _).1 h)]; simp
  | false => rw [cnt_new g.2.2 hc g.2.1 g2.2.1 n ((isN_iff n).1 hn).1 ((isN_iff n).1 hn).2 hm ((memB_no _ _).1 h)]; rfl
theorem cnt_big {zs : List R} (hz : chk zs = 0) : 0 ≤ cnt zs ∧ cnt zs ≤ 12884901888 := by
  have h := cnt_take_bound ((chk_ok zs).1 hz) zs.length
  rwa [List.take_length] at h
end Go.Proofs.YtbglleldbogaaaaDoor
