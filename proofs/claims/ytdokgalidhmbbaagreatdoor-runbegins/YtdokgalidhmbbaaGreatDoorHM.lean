/- What the laws of package run need. -/
import Derived.Below
set_option linter.unusedVariables false
set_option linter.unusedSimpArgs false
set_option maxRecDepth 100000
set_option maxHeartbeats 8000000
namespace Go.Proofs.YtdokgalidhmbbaaGreatDoor

abbrev R := Int × Int
def Mem (zs : List R) (n : Int) : Prop := ∃ r, r ∈ zs ∧ r.1 ≤ n ∧ n ≤ r.2
def inB (r : R) (n : Int) : Bool := decide (r.1 ≤ n) && decide (n ≤ r.2)
def memB (zs : List R) (n : Int) : Bool := zs.any fun r => inB r n
theorem mem_nil (n : Int) : ¬ Mem [] n := by rintro ⟨r, h, _⟩; simp at h
theorem mem_cons (r : R) (rs : List R) (n : Int) : Mem (r :: rs) n ↔ (r.1 ≤ n ∧ n ≤ r.2) ∨ Mem rs n := by
  constructor
  · rintro ⟨s, hs, h⟩
    rcases List.mem_cons.1 hs with rfl | hs
    · exact .inl h
    · exact .inr ⟨s, hs, h⟩
  · rintro (h | ⟨s, hs, h⟩)
    · exact ⟨r, List.mem_cons_self, h⟩
    · exact ⟨s, List.mem_cons_of_mem _ hs, h⟩
theorem mem_append (a b : List R) (n : Int) : Mem (a ++ b) n ↔ Mem a n ∨ Mem b n := by
  constructor
  · rintro ⟨s, hs, h⟩
    rcases List.mem_append.1 hs with hs | hs
    · exact .inl ⟨s, hs, h⟩
    · exact .inr ⟨s, hs, h⟩
  · rintro (⟨s, hs, h⟩ | ⟨s, hs, h⟩)
    · exact ⟨s, List.mem_append.2 (.inl hs), h⟩
    · exact ⟨s, List.mem_append.2 (.inr hs), h⟩
theorem mem_one (r : R) (n : Int) : Mem [r] n ↔ r.1 ≤ n ∧ n ≤ r.2 := by
  rw [mem_cons]; constructor
  · rintro (h | h); exact h; exact absurd h (mem_nil n)
  · exact .inl
theorem mem_perm {a b : List R} (h : a.Perm b) (n : Int) : Mem a n ↔ Mem b n := by
  constructor
  · rintro ⟨s, hs, x⟩; exact ⟨s, h.mem_iff.1 hs, x⟩
  · rintro ⟨s, hs, x⟩; exact ⟨s, h.mem_iff.2 hs, x⟩

/-- From above, none empty, one number at least missing between two. -/
def Norm : List R → Prop
  | [] => True
  | r :: rs => r.1 ≤ r.2 ∧ (∀ s, s ∈ rs → s.2 + 1 < r.1) ∧ Norm rs

theorem norm_le : ∀ {zs : List R}, Norm zs → ∀ r, r ∈ zs → r.1 ≤ r.2
  | [], _, r, h => by simp at h
  | a :: zs, hn, r, h => by
    rcases List.mem_cons.1 h with rfl | h
    · exact hn.1
    · exact norm_le hn.2.2 r h

theorem norm_unique : ∀ {a b : List R}, Norm a → Norm b → (∀ n, Mem a n ↔ Mem b n) → a = b
  | [], [], _, _, _ => rfl
  | [], s :: bs, _, hb, h => absurd ((h s.2).2 ((mem_cons s bs s.2).2 (.inl ⟨hb.1, Int.le_refl _⟩))) (mem_nil _)
  | r :: as, [], ha, _, h => absurd ((h r.2).1 ((mem_cons r as r.2).2 (.inl ⟨ha.1, Int.le_refl _⟩))) (mem_nil _)
  | r :: as, s :: bs, ha, hb, h => by
    have ua : ∀ n, Mem as n → n + 1 < r.1 := by
      rintro n ⟨x, hx, h1, h2⟩; have := ha.2.1 x hx; omega
    have ub : ∀ n, Mem bs n → n + 1 < s.1 := by
      rintro n ⟨x, hx, h1, h2⟩; have := hb.2.1 x hx; omega
    have hi : r.2 = s.2 := by
      have h1 := (h r.2).1 ((mem_cons r as r.2).2 (.inl ⟨ha.1, Int.le_refl _⟩))
      have h2 := (h s.2).2 ((mem_cons s bs s.2).2 (.inl ⟨hb.1, Int.le_refl _⟩))
      rcases (mem_cons _ _ _).1 h1 with h1 | h1 <;> rcases (mem_cons _ _ _).1 h2 with h2 | h2
      · omega
      · have := ua _ h2; have := ha.1; omega
      · have := ub _ h1; have := hb.1; omega
      · have := ua _ h2; have := ub _ h1; have := ha.1; have := hb.1; omega
    have lo : r.1 = s.1 := by
      have k1 := ha.1
      have k2 := hb.1
      rcases Int.lt_trichotomy r.1 s.1 with hlt | he | hlt
      · have h1 := (h (s.1 - 1)).1 ((mem_cons r as _).2 (.inl ⟨by omega, by omega⟩))
        rcases (mem_cons _ _ _).1 h1 with h1 | h1
        · omega
        · have := ub _ h1; omega
      · exact he
      · have h1 := (h (r.1 - 1)).2 ((mem_cons s bs _).2 (.inl ⟨by omega, by omega⟩))
        rcases (mem_cons _ _ _).1 h1 with h1 | h1
        · omega
        · have := ua _ h1; omega
    obtain rfl : r = s := Prod.ext lo hi
    congr 1
    refine norm_unique ha.2.2 hb.2.2 fun n => ?_
    have := h n
    rw [mem_cons, mem_cons] at this
    constructor
    · intro hm
      have u := ua n hm
      rcases this.1 (.inr hm) with x | x
      · omega
      · exact x
    · intro hm
      have u := ub n hm
      rcases this.2 (.inr hm) with x | x
      · omega
      · exact x

/-- What joining does with a list from above, behind a range that is under way. -/
def mrg (cur : R) : List R → List R
  | [] => [cur]
  | r :: rs => if cur.1 ≤ r.2 + 1 then mrg (min cur.1 r.1, cur.2) rs else cur :: mrg r rs
def join : List R → List R
  | [] => []
  | r :: rs => mrg r rs

def Desc : List R → Prop
  | [] => True
  | r :: rs => (∀ s, s ∈ rs → s.2 ≤ r.2) ∧ Desc rs

theorem mrg_norm : ∀ (rs : List R) (cur : R), cur.1 ≤ cur.2 → (∀ s, s ∈ rs → s.1 ≤ s.2 ∧ s.2 ≤ cur.2) → Desc rs → Norm (mrg cur rs) ∧ (∀ s, s ∈ mrg cur rs → s.2 ≤ cur.2)
  | [], cur, h, _, _ => ⟨⟨h, fun s hs => by simp at hs, trivial⟩, fun s hs => by simp [mrg] at hs; subst hs; exact Int.le_refl _⟩
  | r :: rs, cur, h, ha, hd => by
    have hr := ha r List.mem_cons_self
    by_cases hc : cur.1 ≤ r.2 + 1
    · rw [mrg, if_pos hc]
      refine mrg_norm rs (min cur.1 r.1, cur.2) ?_ ?_ hd.2
      · show min cur.1 r.1 ≤ cur.2; omega
      · exact fun s hs => ha s (List.mem_cons_of_mem _ hs)
    · rw [mrg, if_neg hc]
      obtain ⟨i1, i2⟩ := mrg_norm rs r hr.1 (fun s hs => ⟨(ha s (List.mem_cons_of_mem _ hs)).1, hd.1 s hs⟩) hd.2
      refine ⟨⟨h, fun s hs => ?_, i1⟩, fun s hs => ?_⟩
      · have := i2 s hs; omega
      · rcases List.mem_cons.1 hs with rfl | hs
        · exact Int.le_refl _
        · have := i2 s hs; omega
theorem mrg_mem : ∀ (rs : List R) (cur : R), (∀ s, s ∈ rs → s.1 ≤ s.2 ∧ s.2 ≤ cur.2) → Desc rs → ∀ n, Mem (mrg cur rs) n ↔ (cur.1 ≤ n ∧ n ≤ cur.2) ∨ Mem rs n
  | [], cur, _, _, n => by rw [mrg, mem_one]; exact ⟨.inl, fun h => h.resolve_right (mem_nil n)⟩
  | r :: rs, cur, ha, hd, n => by
    have hr := ha r List.mem_cons_self
    by_cases hc : cur.1 ≤ r.2 + 1
    · rw [mrg, if_pos hc, mrg_mem rs (min cur.1 r.1, cur.2) (fun s hs => ha s (List.mem_cons_of_mem _ hs)) hd.2 n, mem_cons]
      show (min cur.1 r.1 ≤ n ∧ n ≤ cur.2) ∨ Mem rs n ↔ _
      constructor
      · rintro (h | h)
        · by_cases x : cur.1 ≤ n
          · exact .inl ⟨x, h.2⟩
          · exact .inr (.inl ⟨by omega, by omega⟩)
        · exact .inr (.inr h)
      · rintro (h | h | h)
        · exact .inl ⟨by omega, h.2⟩
        · exact .inl ⟨by omega, by omega⟩
        · exact .inr h
    · rw [mrg, if_neg hc, mem_cons, mem_cons, mrg_mem rs r (fun s hs => ⟨(ha s (List.mem_cons_of_mem _ hs)).1, hd.1 s hs⟩) hd.2 n]

theorem join_norm (s : List R) (ha : ∀ r, r ∈ s → r.1 ≤ r.2) (hd : Desc s) : Norm (join s) := by
  match s, ha, hd with
  | [], _, _ => exact trivial
  | r :: rs, ha, hd => exact (mrg_norm rs r (ha r List.mem_cons_self) (fun x hx => ⟨ha x (List.mem_cons_of_mem _ hx), hd.1 x hx⟩) hd.2).1
theorem join_mem (s : List R) (ha : ∀ r, r ∈ s → r.1 ≤ r.2) (hd : Desc s) (n : Int) : Mem (join s) n ↔ Mem s n := by
  match s, ha, hd with
  | [], _, _ => exact Iff.rfl
  | r :: rs, ha, hd => rw [join, mrg_mem rs r (fun x hx => ⟨ha x (List.mem_cons_of_mem _ hx), hd.1 x hx⟩) hd.2, mem_cons]
theorem mrg_length : ∀ (rs : List R) (cur : R), (mrg cur rs).length ≤ rs.length + 1
  | [], cur => by simp [mrg]
  | r :: rs, cur => by
    rw [mrg]; split
    · have := mrg_length rs (min cur.1 r.1, cur.2); simp; omega
    · have := mrg_length rs r; simp; omega
theorem join_length (s : List R) : (join s).length ≤ s.length := by
  match s with
  | [] => simp [join]
  | r :: rs => have := mrg_length rs r; simp [join]; omega

/-- Which fault a list of ranges has: as Check goes, range by range. -/
def isN (n : Int) : Bool := decide (0 ≤ n) && decide (n ≤ 1073741823)
def chkFrom : Option Int → List R → Int
  | _, [] => 0
  | p, r :: rs => if isN r.1 = false ∨ isN r.2 = false then 1 else if r.2 < r.1 ∨ (∃ q, p = some q ∧ q ≤ r.2 + 1) then 3 else chkFrom (some r.1) rs
def chk (zs : List R) : Int := if 12 < zs.length then 4 else chkFrom none zs
def Good (zs : List R) : Prop := zs.length ≤ 12 ∧ (∀ r, r ∈ zs → 0 ≤ r.1 ∧ r.2 ≤ 1073741823) ∧ Norm zs
theorem isN_iff (n : Int) : isN n = true ↔ 0 ≤ n ∧ n ≤ 1073741823 := by simp [isN]
theorem isN_no (n : Int) : isN n = false ↔ ¬ (0 ≤ n ∧ n ≤ 1073741823) := by rw [← isN_iff]; simp

theorem chkFrom_ok : ∀ (zs : List R) (p : Option Int), chkFrom p zs = 0 ↔ (∀ r, r ∈ zs → 0 ≤ r.1 ∧ r.2 ≤ 1073741823) ∧ Norm zs ∧ (∀ q, p = some q → ∀ s, s ∈ zs → s.2 + 1 < q)
  | [], p => by simp [chkFrom, Norm]
  | r :: rs, p => by
    rw [chkFrom]
    by_cases h1 : isN r.1 = false ∨ isN r.2 = false
    · rw [if_pos h1]
      refine ⟨fun h => absurd h (by decide), fun ⟨ha, hn, _⟩ => ?_⟩
      exfalso
      have a := ha r List.mem_cons_self
      have b := hn.1
      rcases h1 with h1 | h1 <;> rw [isN_no] at h1 <;> omega
    · rw [if_neg h1]
      have k1 : isN r.1 = true := by cases x : isN r.1 <;> simp_all
      have k2 : isN r.2 = true := by cases x : isN r.2 <;> simp_all
      rw [isN_iff] at k1 k2
      by_cases h2 : r.2 < r.1 ∨ (∃ q, p = some q ∧ q ≤ r.2 + 1)
      · rw [if_pos h2]
        refine ⟨fun h => absurd h (by decide), fun ⟨ha, hn, hq⟩ => ?_⟩
        exfalso
        rcases h2 with h2 | ⟨q, rfl, h2⟩
        · have := hn.1; omega
        · have := hq q rfl r List.mem_cons_self; omega
      · rw [if_neg h2, chkFrom_ok rs (some r.1)]
        have k3 : r.1 ≤ r.2 := by have : ¬ r.2 < r.1 := fun x => h2 (.inl x); omega
        constructor
        · rintro ⟨ha, hn, hq⟩
          refine ⟨fun s hs => ?_, ⟨k3, hq r.1 rfl, hn⟩, fun q hp s hs => ?_⟩
          · rcases List.mem_cons.1 hs with rfl | hs
            · exact ⟨k1.1, k2.2⟩
            · exact ha s hs
          · have k4 : ¬ q ≤ r.2 + 1 := fun x => h2 (.inr ⟨q, hp, x⟩)
            rcases List.mem_cons.1 hs with rfl | hs
            · omega
            · have := hq r.1 rfl s hs; omega
        · rintro ⟨ha, hn, hq⟩
          exact ⟨fun s hs => ha s (List.mem_cons_of_mem _ hs), hn.2.2, fun q hp s hs => by cases hp; exact hn.2.1 s hs⟩
theorem chk_ok (zs : List R) : chk zs = 0 ↔ Good zs := by
  unfold chk Good
  by_cases h : 12 < zs.length
  · rw [if_pos h]; exact ⟨fun x => absurd x (by decide), fun x => by omega⟩
  · rw [if_neg h, chkFrom_ok]
    exact ⟨fun ⟨a, b, _⟩ => ⟨by omega, a, b⟩, fun ⟨_, a, b⟩ => ⟨a, b, fun q hq => by cases hq⟩⟩
end Go.Proofs.YtdokgalidhmbbaaGreatDoor
