/- Two Ends that talk: one writes, the other reads. What each knows of the other behind every packet. No program stands here. -/
import Derived.Test.YtoabfilliiopmaaGreatDoorTA
namespace Go.Proofs.YtoabfilliiopmaaGreatDoor
open Go.RowKit Go.Lib Go.Sort
set_option linter.unusedVariables false
set_option linter.unusedSimpArgs false


open Sx (bat)
theorem runF_append : ∀ (a b : List F) (e : En), (runF a e).1 = 0 → runF (a ++ b) e = runF b (runF a e).2
  | [], b, e, _ => rfl
  | f :: a, b, e, h => by
    simp only [List.cons_append, runF] at h ⊢
    by_cases h0 : (stpE e f).1 ≠ 0
    · rw [if_pos h0] at h
      exact absurd h h0
    · rw [if_neg h0] at h ⊢
      rw [if_neg h0]
      exact runF_append a b _ h
theorem runF_one {f : F} {l : List F} {e e' : En} (h : stpE e f = (0, e')) : runF (f :: l) e = runF l e' := by
  simp only [runF, h]
  rw [if_neg (by simp)]
theorem mem_next {e : En} (h : EInv e) {p : Int} (hp : Mem e.cm p) : p < nextN e := by
  obtain ⟨_, _, hn⟩ := (chk_ok e.cm).1 h.cm
  unfold nextN
  cases hc : e.cm with
  | nil => rw [hc] at hp; exact absurd hp (mem_nil p)
  | cons r rs =>
    rw [hc] at hp hn
    obtain ⟨s, hs, h1, h2⟩ := hp
    rcases List.mem_cons.1 hs with rfl | hs
    · simp only; omega
    · have := hn.2.1 s hs
      have := hn.1
      simp only; omega
theorem next_pos {e : En} (h : EInv e) : 0 ≤ nextN e := by
  obtain ⟨_, h2, hn⟩ := (chk_ok e.cm).1 h.cm
  unfold nextN
  cases hc : e.cm with
  | nil => simp
  | cons r rs =>
    rw [hc] at hn h2
    have := h2 r List.mem_cons_self
    have := hn.1
    simp only; omega
def abv (m : Int) : List R → List R
  | [] => [(m, m)]
  | r :: rs => if r.2 + 1 = m then (r.1, m) :: rs else (m, m) :: r :: rs
/-- What a number above all others makes of those that came. -/
theorem addL_new {cm : List R} {m : Int} (h : chk cm = 0) : (∀ r rs, cm = r :: rs → r.2 < m) → addL cm m = abv m cm := by
  intro hm
  obtain ⟨_, _, hn⟩ := (chk_ok cm).1 h
  cases cm with
  | nil => rfl
  | cons r rs =>
    have h1 := hm r rs rfl
    have h2 := hn.1
    have h3 := hn.2.1
    simp only [addL, withF, abv]
    rw [if_neg (by omega)]
    by_cases h4 : r.2 + 1 = m
    · rw [if_neg (by omega), if_pos h4, if_pos (by omega), if_neg (by omega)]
      cases rs with
      | nil => rfl
      | cons s ss =>
        have h5 := h3 s List.mem_cons_self
        rw [withF, if_neg (by have := hn.2.2.1; simp only; omega), if_pos (by simp only; omega), if_neg (by decide), with_true ss (r.1, m) (by simp only; omega) (fun u hu => by
          have := hn.2.2.2.1 u hu
          have := hn.2.2.1
          refine ⟨norm_le hn.2.2.2.2 u hu, ?_⟩
          simp only; omega)]
    · rw [if_pos (by omega), if_neg h4, if_neg (by decide), with_true rs (m, m) (by simp) (fun u hu => by
        have := h3 u hu
        exact ⟨norm_le hn.2.2 u hu, by simp only; omega⟩)]
theorem add_next {e : En} {m : Nat} (h : EInv e) (hm : nextN e ≤ m) : nextN { e with cm := addL e.cm m } = m + 1 ∧ (addL e.cm m).length ≤ e.cm.length + 1 ∧ (nextN e = m → 1 ≤ e.cm.length → (addL e.cm m).length = e.cm.length) := by
  have ha := addL_new (m := (m : Int)) h.cm (fun r rs hc => by
    unfold nextN at hm
    rw [hc] at hm
    simp only at hm
    omega)
  unfold nextN at hm ⊢
  simp only
  rw [ha]
  cases hc : e.cm with
  | nil => simp [abv]
  | cons r rs =>
    simp only [abv]
    by_cases h4 : r.2 + 1 = (m : Int)
    · rw [if_pos h4]
      simp
    · rw [if_neg h4]
      simp [h4]
/-- What was kept ahead is kept still. -/
theorem keepL_old {ls : List Ld} {m a b : Nat} (hl : ∀ l, ls.getLast? = some l → l.hi + 1 = m) {l : Ld} (h : l ∈ ls) : ∃ l' ∈ keepL ls m a b, l'.lo = l.lo ∧ l.hi ≤ l'.hi ∧ l'.b = l.b := by
  unfold keepL
  split
  · rename_i h0
    rw [List.getLast?_eq_none_iff] at h0
    subst h0
    simp at h
  · rename_i x h0
    have hx := hl x h0
    split
    · rename_i h1
      obtain ⟨front, rfl⟩ : ∃ front, ls = front ++ [x] := by
        have := List.getLast?_eq_some_iff.1 h0
        exact this
      rw [List.dropLast_concat]
      rcases List.mem_append.1 h with h | h
      · exact ⟨l, List.mem_append_left _ h, rfl, Nat.le_refl _, rfl⟩
      · simp at h
        subst h
        exact ⟨⟨l.lo, m, a, b⟩, by simp, rfl, by simp only; omega, h1.2.symm⟩
    · exact ⟨l, List.mem_append_left _ h, rfl, Nat.le_refl _, rfl⟩
theorem keepL_last {ls : List Ld} {m a b : Nat} : ∃ l, (keepL ls m a b).getLast? = some l ∧ l.hi = m ∧ l.b = b := by
  unfold keepL
  split
  · exact ⟨_, rfl, rfl, rfl⟩
  · split
    · exact ⟨_, List.getLast?_concat .., rfl, rfl⟩
    · exact ⟨_, List.getLast?_concat .., rfl, rfl⟩
theorem keepL_lo {ls : List Ld} {m a b : Nat} (hh : ∀ l ∈ ls, l.lo ≤ l.hi) (hl : ∀ l, ls.getLast? = some l → l.hi + 1 = m) : ∀ l ∈ keepL ls m a b, l.lo ≤ l.hi := by
  intro l h
  unfold keepL at h
  split at h
  · simp at h; subst h; exact Nat.le_refl _
  · rename_i x h0
    have hx := hl x h0
    have hm : x ∈ ls := by obtain ⟨front, rfl⟩ := List.getLast?_eq_some_iff.1 h0; simp
    split at h
    · rcases List.mem_append.1 h with h | h
      · exact hh l (List.dropLast_subset _ h)
      · simp at h; subst h; have := hh x hm; simp only; omega
    · rcases List.mem_append.1 h with h | h
      · exact hh l h
      · simp at h; subst h; exact Nat.le_refl _
/-- A load is an old one, or the last one with one packet more, or this packet's alone. -/
theorem keepL_cases {ls : List Ld} {m a b : Nat} {l : Ld} (h : l ∈ keepL ls m a b) : l ∈ ls ∨ (l.hi = m ∧ l.b = b ∧ (l.lo = m ∨ ∃ l0, ls.getLast? = some l0 ∧ l0.lo = l.lo ∧ l0.b = b)) := by
  unfold keepL at h
  split at h
  · simp at h; subst h; exact .inr ⟨rfl, rfl, .inl rfl⟩
  · rename_i x h0
    split at h
    · rename_i h1
      rcases List.mem_append.1 h with h | h
      · exact .inl (List.dropLast_subset _ h)
      · simp at h; subst h; exact .inr ⟨rfl, rfl, .inr ⟨x, h0, rfl, h1.2⟩⟩
    · rcases List.mem_append.1 h with h | h
      · exact .inl h
      · simp at h; subst h; exact .inr ⟨rfl, rfl, .inl rfl⟩
theorem last_mem {ls : List Ld} {l : Ld} (h : ls.getLast? = some l) : l ∈ ls := by obtain ⟨front, rfl⟩ := List.getLast?_eq_some_iff.1 h; simp
theorem foldl_ge : ∀ (ls : List Ld) (t : Nat), t ≤ ls.foldl (fun b x => max b x.b) t
  | [], t => Nat.le_refl _
  | y :: ls, t => by
    simp only [List.foldl_cons]
    have := foldl_ge ls (max t y.b)
    omega
theorem foldl_all : ∀ (ls : List Ld) (t : Nat), ∀ x ∈ ls, x.b ≤ ls.foldl (fun b x => max b x.b) t
  | [], t, x, h => by simp at h
  | y :: ls, t, x, h => by
    simp only [List.foldl_cons]
    rcases List.mem_cons.1 h with rfl | h
    · have := foldl_ge ls (max t x.b)
      omega
    · exact foldl_all ls _ x h
theorem tell1_ge {ls : List Ld} {r : R} {l : Ld} (h : l ∈ ls) (ho : ¬ ((l.hi : Int) < r.1 ∨ r.2 < (l.lo : Int))) : ∀ t, l.b ≤ tell1 ls t r := by
  unfold tell1
  induction ls with
  | nil => simp at h
  | cons y ls ih =>
    intro t
    simp only [List.foldl_cons]
    rcases List.mem_cons.1 h with rfl | h
    · rw [if_neg ho]
      have := (tell1_le (ls := ls) (b := ls.foldl (fun b x => max b x.b) (max t l.b)) r (max t l.b) (foldl_ge ls _) (foldl_all ls _)).1
      unfold tell1 at this
      omega
    · exact ih h _
theorem tell1_up {ls : List Ld} {r : R} {b : Nat} (hb : ∀ l ∈ ls, ¬ ((l.hi : Int) < r.1 ∨ r.2 < (l.lo : Int)) → l.b ≤ b) : ∀ t, t ≤ b → t ≤ tell1 ls t r ∧ tell1 ls t r ≤ b := by
  unfold tell1
  induction ls with
  | nil => intro t h; exact ⟨Nat.le_refl _, h⟩
  | cons y ls ih =>
    intro t h
    simp only [List.foldl_cons]
    have ih' := ih fun l hl => hb l (List.mem_cons_of_mem _ hl)
    split
    · exact ih' t h
    · rename_i h0
      have := hb y List.mem_cons_self h0
      have := ih' (max t y.b) (by omega)
      omega
theorem tells_up {ls : List Ld} {b : Nat} : ∀ (rs : List R), (∀ l ∈ ls, ∀ r ∈ rs, ¬ ((l.hi : Int) < r.1 ∨ r.2 < (l.lo : Int)) → l.b ≤ b) → ∀ t, t ≤ b → t ≤ tells ls t rs ∧ tells ls t rs ≤ b := by
  intro rs
  unfold tells
  induction rs with
  | nil => intro _ t h; exact ⟨Nat.le_refl _, h⟩
  | cons r rs ih =>
    intro hb t h
    simp only [List.foldl_cons]
    have h1 := tell1_up (fun l hl => hb l hl r List.mem_cons_self) t h
    have h2 := ih (fun l hl s hs => hb l hl s (List.mem_cons_of_mem _ hs)) (tell1 ls t r) h1.2
    omega
theorem tells_ge {ls : List Ld} {b : Nat} {l : Ld} (h : l ∈ ls) (hb : ∀ x ∈ ls, x.b ≤ b) : ∀ (rs : List R) (r : R), r ∈ rs → ¬ ((l.hi : Int) < r.1 ∨ r.2 < (l.lo : Int)) → ∀ t, t ≤ b → l.b ≤ tells ls t rs := by
  intro rs
  induction rs with
  | nil => intro r hr; simp at hr
  | cons s rs ih =>
    intro r hr ho t ht
    have h1 := tell1_le (ls := ls) s t ht hb
    rcases List.mem_cons.1 hr with rfl | hr
    · have h2 := tell1_ge h ho t
      have h3 := tells_le hb rs (tell1 ls t r) h1.2
      unfold tells at h3 ⊢
      simp only [List.foldl_cons]
      omega
    · have := ih r hr ho (tell1 ls t s) h1.2
      unfold tells at this ⊢
      simpa using this
end Go.Proofs.YtoabfilliiopmaaGreatDoor
