/- A number more, to right ranges, as lists. -/
import Derived.Test.YtegelodkopommaaDoorJ
namespace Go.Proofs.YtegelodkopommaaDoor
open Go.RowKit Go.Lib Go.Sort
set_option linter.unusedVariables false
set_option linter.unusedSimpArgs false
def withF : R → Bool → List R → List R
  | x, p, [] => if p then [] else [x]
  | x, p, r :: rs => if x.2 + 1 < r.1 then r :: withF x p rs
    else if r.2 < x.1 - 1 then (if p then r :: withF x true rs else x :: r :: withF x true rs)
    else withF (if r.1 < x.1 then r.1 else x.1, if x.2 < r.2 then r.2 else x.2) p rs

theorem with_true : ∀ (rs : List R) (x : R), x.1 ≤ x.2 → (∀ s, s ∈ rs → s.1 ≤ s.2 ∧ s.2 + 1 < x.1) → withF x true rs = rs
  | [], x, _, _ => rfl
  | r :: rs, x, hx, h => by
    have hr := h r List.mem_cons_self
    rw [withF, if_neg (by omega), if_pos (by omega), if_pos rfl, with_true rs x hx (fun s hs => h s (List.mem_cons_of_mem _ hs))]
theorem with_false : ∀ (rs : List R) (x : R), x.1 ≤ x.2 → Norm rs → Norm (withF x false rs) ∧ ∀ n, Mem (withF x false rs) n ↔ (x.1 ≤ n ∧ n ≤ x.2) ∨ Mem rs n
  | [], x, hx, _ => by
    refine ⟨⟨hx, fun s hs => by simp at hs, trivial⟩, fun n => ?_⟩
    show Mem [x] n ↔ _
    rw [mem_one]
    exact ⟨.inl, fun h => h.resolve_right (mem_nil n)⟩
  | r :: rs, x, hx, hn => by
    rw [withF]
    by_cases h1 : x.2 + 1 < r.1
    · rw [if_pos h1]
      obtain ⟨i1, i2⟩ := with_false rs x hx hn.2.2
      refine ⟨⟨hn.1, fun s hs => ?_, i1⟩, fun n => ?_⟩
      · have hs1 := norm_le i1 s hs
        rcases (i2 s.2).1 ⟨s, hs, hs1, Int.le_refl _⟩ with a | ⟨q, hq, a, b⟩
        · omega
        · have := hn.2.1 q hq; omega
      · rw [mem_cons, mem_cons, i2 n]
        constructor
        · rintro (a | a | a)
          · exact .inr (.inl a)
          · exact .inl a
          · exact .inr (.inr a)
        · rintro (a | a | a)
          · exact .inr (.inl a)
          · exact .inl a
          · exact .inr (.inr a)
    · rw [if_neg h1]
      by_cases h2 : r.2 < x.1 - 1
      · rw [if_pos h2, if_neg (by decide)]
        have e : withF x true rs = rs := with_true rs x hx (fun s hs => ⟨norm_le hn.2.2 s hs, by have := hn.2.1 s hs; have := hn.1; omega⟩)
        rw [e]
        refine ⟨⟨hx, fun s hs => ?_, hn⟩, fun n => by rw [mem_cons]⟩
        rcases List.mem_cons.1 hs with rfl | hs
        · omega
        · have := hn.2.1 s hs; have := hn.1; omega
      · rw [if_neg h2]
        have hr := hn.1
        have hx' : (if r.1 < x.1 then r.1 else x.1) ≤ (if x.2 < r.2 then r.2 else x.2) := by (repeat' split) <;> omega
        obtain ⟨i1, i2⟩ := with_false rs ((if r.1 < x.1 then r.1 else x.1), (if x.2 < r.2 then r.2 else x.2)) hx' hn.2.2
        refine ⟨i1, fun n => ?_⟩
        rw [i2 n, mem_cons]
        show ((if r.1 < x.1 then r.1 else x.1) ≤ n ∧ n ≤ (if x.2 < r.2 then r.2 else x.2)) ∨ Mem rs n ↔ _
        constructor
        · rintro (a | a)
          · by_cases q1 : x.1 ≤ n ∧ n ≤ x.2
            · exact .inl q1
            · refine .inr (.inl ?_)
              obtain ⟨a1, a2⟩ := a
              split at a1 <;> split at a2 <;> omega
          · exact .inr (.inr a)
        · rintro (a | a | a)
          · exact .inl ⟨by split <;> omega, by split <;> omega⟩
          · exact .inl ⟨by split <;> omega, by split <;> omega⟩
          · exact .inr a
theorem with_length : ∀ (rs : List R) (x : R) (p : Bool), (withF x p rs).length ≤ rs.length + (if p then 0 else 1)
  | [], x, p => by cases p <;> simp [withF]
  | r :: rs, x, p => by
    have a := with_length rs x p
    have b := with_length rs x true
    have c := with_length rs ((if r.1 < x.1 then r.1 else x.1), (if x.2 < r.2 then r.2 else x.2)) p
    rw [withF]
    by_cases h1 : x.2 + 1 < r.1
    · rw [if_pos h1]; simp only [List.length_cons]; omega
    · rw [if_neg h1]
      by_cases h2 : r.2 < x.1 - 1
      · rw [if_pos h2]
        cases p
        · simp at b ⊢; omega
        · simp at b ⊢; omega
      · rw [if_neg h2]; simp only [List.length_cons]; omega

def addL (cm : List R) (n : Int) : List R := withF (n, n) false cm
theorem addL_ok {cm : List R} {n : Int} (h : chk cm = 0) : Norm (addL cm n) ∧ (∀ k, Mem (addL cm n) k ↔ Mem cm k ∨ k = n) := by
  obtain ⟨_, _, hn⟩ := (chk_ok cm).1 h
  obtain ⟨i1, i2⟩ := with_false cm (n, n) (Int.le_refl _) hn
  refine ⟨i1, fun k => ?_⟩
  show Mem (withF _ _ _) k ↔ _
  rw [i2 k]
  constructor
  · rintro (a | a)
    · exact .inr (by simp only at a; omega)
    · exact .inl a
  · rintro (a | rfl)
    · exact .inr a
    · exact .inl ⟨Int.le_refl _, Int.le_refl _⟩
theorem addL_is {cm zs : List R} {n : Int} (h : chk cm = 0) (hn : Norm zs) (hm : ∀ k, Mem zs k ↔ Mem cm k ∨ k = n) : zs = addL cm n :=
  norm_unique hn (addL_ok h).1 fun k => (hm k).trans ((addL_ok h).2 k).symm
theorem addL_chk {cm : List R} {n : Int} (h : chk cm = 0) (hn : isN n = true) (hl : (addL cm n).length ≤ 12) : chk (addL cm n) = 0 := by
  obtain ⟨_, h2, _⟩ := (chk_ok cm).1 h
  obtain ⟨i1, i2⟩ := addL_ok (n := n) h
  have hb : ∀ k, Mem (addL cm n) k → 0 ≤ k ∧ k ≤ 1073741823 := fun k hk => by
    rcases (i2 k).1 hk with ⟨r, hr, a, b⟩ | rfl
    · have := h2 r hr
      omega
    · exact (isN_iff k).1 hn
  refine (chk_ok _).2 ⟨hl, fun r hr => ?_, i1⟩
  have hle := norm_le i1 r hr
  have a := hb r.1 ⟨r, hr, Int.le_refl _, hle⟩
  have b := hb r.2 ⟨r, hr, hle, Int.le_refl _⟩
  exact ⟨a.1, b.2⟩
end Go.Proofs.YtegelodkopommaaDoor
