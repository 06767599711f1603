/- Lists of ranges as sets of numbers: the one form that Check takes, that it is the only one of its set, joining from above, how many numbers there are. No program stands here. -/
import Derived.Below
namespace Go.Proofs.YtegelodkopommaaGreatDoor
set_option linter.unusedVariables false

abbrev R := Int × Int
def Mem (zs : List R) (n : Int) : Prop := ∃ r, r ∈ zs ∧ r.1 ≤ n ∧ n ≤ r.2
def inB (r : R) (n : Int) : Bool := decide (r.1 ≤ n) && decide (n ≤ r.2)
def memB (zs : List R) (n : Int) : Bool := zs.any fun r => inB r n
theorem memB_iff (zs : List R) (n : Int) : memB zs n = true ↔ Mem zs n := by
  simp [memB, Mem, inB]
theorem memB_no (zs : List R) (n : Int) : memB zs n = false ↔ ¬ Mem zs n := by
  rw [← memB_iff]; simp
theorem mem_nil (n : Int) : ¬ Mem [] n := by rintro ⟨r, h, _⟩; simp at h
theorem mem_cons (r : R) (rs : List R) (n : Int) : Mem (r :: rs) n ↔ (r.1 ≤ n ∧ n ≤ r.2) ∨ Mem rs n := by
  constructor
  · rintro ⟨s, hs, h⟩
    rcases List.mem_cons.1 hs with rfl | hs
    · exact .inl h
    · exact .inr ⟨s, hs, h⟩
  · rintro (h | ⟨s, hs, h⟩)
    · exact ⟨r, List.mem_cons_self, h⟩
    · exact ⟨s, List.mem_cons_of_mem _ hs, h⟩
theorem mem_append (a b : List R) (n : Int) : Mem (a ++ b) n ↔ Mem a n ∨ Mem b n := by
  constructor
  · rintro ⟨s, hs, h⟩
    rcases List.mem_append.1 hs with hs | hs
    · exact .inl ⟨s, hs, h⟩
    · exact .inr ⟨s, hs, h⟩
  · rintro (⟨s, hs, h⟩ | ⟨s, hs, h⟩)
    · exact ⟨s, List.mem_append.2 (.inl hs), h⟩
    · exact ⟨s, List.mem_append.2 (.inr hs), h⟩
theorem mem_one (r : R) (n : Int) : Mem [r] n ↔ r.1 ≤ n ∧ n ≤ r.2 := by
  rw [mem_cons]; constructor
  · rintro (h | h); exact h; exact absurd h (mem_nil n)
  · exact .inl
theorem mem_perm {a b : List R} (h : a.Perm b) (n : Int) : Mem a n ↔ Mem b n := by
  constructor
  · rintro ⟨s, hs, x⟩; exact ⟨s, h.mem_iff.1 hs, x⟩
  · rintro ⟨s, hs, x⟩; exact ⟨s, h.mem_iff.2 hs, x⟩

/-- From above, none empty, one number at least missing between two. -/
def Norm : List R → Prop
  | [] => True
  | r :: rs => r.1 ≤ r.2 ∧ (∀ s, s ∈ rs → s.2 + 1 < r.1) ∧ Norm rs

theorem norm_le : ∀ {zs : List R}, Norm zs → ∀ r, r ∈ zs → r.1 ≤ r.2
  | [], _, r, h => by simp at h
  | a :: zs, hn, r, h => by
    rcases List.mem_cons.1 h with rfl | h
    · exact hn.1
    · exact norm_le hn.2.2 r h

theorem norm_unique : ∀ {a b : List R}, Norm a → Norm b → (∀ n, Mem a n ↔ Mem b n) → a = b
  | [], [], _, _, _ => rfl
  | [], s :: bs, _, hb, h => absurd ((h s.2).2 ((mem_cons s bs s.2).2 (.inl ⟨hb.1, Int.le_refl _⟩))) (mem_nil _)
  | r :: as, [], ha, _, h => absurd ((h r.2).1 ((mem_cons r as r.2).2 (.inl ⟨ha.1, Int.le_refl _⟩))) (mem_nil _)
  | r :: as, s :: bs, ha, hb, h => by
    have ua : ∀ n, Mem as n → n + 1 < r.1 := by
      rintro n ⟨x, hx, h1, h2⟩; have := ha.2.1 x hx; omega
    have ub : ∀ n, Mem bs n → n + 1 < s.1 := by
      rintro n ⟨x, hx, h1, h2⟩; have := hb.2.1 x hx; omega
    have hi : r.2 = s.2 := by
      have h1 := (h r.2).1 ((mem_cons r as r.2).2 (.inl ⟨ha.1, Int.le_refl _⟩))
      have h2 := (h s.2).2 ((mem_cons s bs s.2).2 (.inl ⟨hb.1, Int.le_refl _⟩))
      rcases (mem_cons _ _ _).1 h1 with h1 | h1 <;> rcases (mem_cons _ _ _).1 h2 with h2 | h2
      · omega
      · have := ua _ h2; have := ha.1; omega
      · have := ub _ h1; have := hb.1; omega
      · have := ua _ h2; have := ub _ h1; have := ha.1; have := hb.1; omega
    have lo : r.1 = s.1 := by
      have k1 := ha.1
      have k2 := hb.1
      rcases Int.lt_trichotomy r.1 s.1 with hlt | he | hlt
      · have h1 := (h (s.1 - 1)).1 ((mem_cons r as _).2 (.inl ⟨by omega, by omega⟩))
        rcases (mem_cons _ _ _).1 h1 with h1 | h1
        · omega
        · have := ub _ h1; omega
      · exact he
      · have h1 := (h (r.1 - 1)).2 ((mem_cons s bs _).2 (.inl ⟨by omega, by omega⟩))
        rcases (mem_cons _ _ _).1 h1 with h1 | h1
        · omega
        · have := ua _ h1; omega
    obtain rfl : r = s := Prod.ext lo hi
    congr 1
    refine norm_unique ha.2.2 hb.2.2 fun n => ?_
    have := h n
    rw [mem_cons, mem_cons] at this
    constructor
    · intro hm
      have u := ua n hm
      rcases this.1 (.inr hm) with x | x
      · omega
      · exact x
    · intro hm
      have u := ub n hm
      rcases this.2 (.inr hm) with x | x
      · omega
      · exact x

/-- What joining does with a list from above, behind a range that is under way. -/
def mrg (cur : R) : List R → List R
  | [] => [cur]
  | r :: rs => if cur.1 ≤ r.2 + 1 then mrg (min cur.1 r.1, cur.2) rs else cur :: mrg r rs
def join : List R → List R
  | [] => []
  | r :: rs => mrg r rs

def Desc : List R → Prop
  | [] => True
  | r :: rs => (∀ s, s ∈ rs → s.2 ≤ r.2) ∧ Desc rs

theorem mrg_norm : ∀ (rs : List R) (cur : R), cur.1 ≤ cur.2 → (∀ s, s ∈ rs → s.1 ≤ s.2 ∧ s.2 ≤ cur.2) → Desc rs → Norm (mrg cur rs) ∧ (∀ s, s ∈ mrg cur rs → s.2 ≤ cur.2)
  | [], cur, h, _, _ => ⟨⟨h, fun s hs => by simp at hs, trivial⟩, fun s hs => by simp [mrg] at hs; subst hs; exact Int.le_refl _⟩
  | r :: rs, cur, h, ha, hd => by
    have hr := ha r List.mem_cons_self
    by_cases hc : cur.1 ≤ r.2 + 1
    · rw [mrg, if_pos hc]
      refine mrg_norm rs (min cur.1 r.1, cur.2) ?_ ?_ hd.2
      · show min cur.1 r.1 ≤ cur.2; omega
      · exact fun s hs => ha s (List.mem_cons_of_mem _ hs)
    · rw [mrg, if_neg hc]
      obtain ⟨i1, i2⟩ := mrg_norm rs r hr.1 (fun s hs => ⟨(ha s (List.mem_cons_of_mem _ hs)).1, hd.1 s hs⟩) hd.2
      refine ⟨⟨h, fun s hs => ?_, i1⟩, fun s hs => ?_⟩
      · have := i2 s hs; omega
      · rcases List.mem_cons.1 hs with rfl | hs
        · exact Int.le_refl _
        · have := i2 s hs; omega
theorem mrg_mem : ∀ (rs : List R) (cur : R), (∀ s, s ∈ rs → s.1 ≤ s.2 ∧ s.2 ≤ cur.2) → Desc rs → ∀ n, Mem (mrg cur rs) n ↔ (cur.1 ≤ n ∧ n ≤ cur.2) ∨ Mem rs n
  | [], cur, _, _, n => by rw [mrg, mem_one]; exact ⟨.inl, fun h => h.resolve_right (mem_nil n)⟩
  | r :: rs, cur, ha, hd, n => by
    have hr := ha r List.mem_cons_self
    by_cases hc : cur.1 ≤ r.2 + 1
    · rw [mrg, if_pos hc, mrg_mem rs (min cur.1 r.1, cur.2) (fun s hs => ha s (List.mem_cons_of_mem _ hs)) hd.2 n, mem_cons]
      show (min cur.1 r.1 ≤ n ∧ n ≤ cur.2) ∨ Mem rs n ↔ _
      constructor
      · rintro (h | h)
        · by_cases x : cur.1 ≤ n
          · exact .inl ⟨x, h.2⟩
          · exact .inr (.inl ⟨by omega, by omega⟩)
        · exact .inr (.inr h)
      · rintro (h | h | h)
        · exact .inl ⟨by omega, h.2⟩
        · exact .inl ⟨by omega, by omega⟩
        · exact .inr h
    · rw [mrg, if_neg hc, mem_cons, mem_cons, mrg_mem rs r (fun s hs => ⟨(ha s (List.mem_cons_of_mem _ hs)).1, hd.1 s hs⟩) hd.2 n]

theorem join_norm (s : List R) (ha : ∀ r, r ∈ s → r.1 ≤ r.2) (hd : Desc s) : Norm (join s) := by
  match s, ha, hd with
  | [], _, _ => exact trivial
  | r :: rs, ha, hd => exact (mrg_norm rs r (ha r List.mem_cons_self) (fun x hx => ⟨ha x (List.mem_cons_of_mem _ hx), hd.1 x hx⟩) hd.2).1
theorem join_mem (s : List R) (ha : ∀ r, r ∈ s → r.1 ≤ r.2) (hd : Desc s) (n : Int) : Mem (join s) n ↔ Mem s n := by
  match s, ha, hd with
  | [], _, _ => exact Iff.rfl
  | r :: rs, ha, hd => rw [join, mrg_mem rs r (fun x hx => ⟨ha x (List.mem_cons_of_mem _ hx), hd.1 x hx⟩) hd.2, mem_cons]
theorem mrg_length : ∀ (rs : List R) (cur : R), (mrg cur rs).length ≤ rs.length + 1
  | [], cur => by simp [mrg]
  | r :: rs, cur => by
    rw [mrg]; split
    · have := mrg_length rs (min cur.1 r.1, cur.2); simp; omega
    · have := mrg_length rs r; simp; omega
theorem join_length (s : List R) : (join s).length ≤ s.length := by
  match s with
  | [] => simp [join]
  | r :: rs => have := mrg_length rs r; simp [join]; omega

/-- Which fault a list of ranges has: as Check goes, range by range. -/
def isN (n : Int) : Bool := decide (0 ≤ n) && decide (n ≤ 1073741823)
def chkFrom : Option Int → List R → Int
  | _, [] => 0
  | p, r :: rs => if isN r.1 = false ∨ isN r.2 = false then 1 else if r.2 < r.1 ∨ (∃ q, p = some q ∧ q ≤ r.2 + 1) then 3 else chkFrom (some r.1) rs
def chk (zs : List R) : Int := if 12 < zs.length then 4 else chkFrom none zs
def Good (zs : List R) : Prop := zs.length ≤ 12 ∧ (∀ r, r ∈ zs → 0 ≤ r.1 ∧ r.2 ≤ 1073741823) ∧ Norm zs
theorem isN_iff (n : Int) : isN n = true ↔ 0 ≤ n ∧ n ≤ 1073741823 := by simp [isN]
theorem isN_no (n : Int) : isN n = false ↔ ¬ (0 ≤ n ∧ n ≤ 1073741823) := by rw [← isN_iff]; simp

theorem chkFrom_ok : ∀ (zs : List R) (p : Option Int), chkFrom p zs = 0 ↔ (∀ r, r ∈ zs → 0 ≤ r.1 ∧ r.2 ≤ 1073741823) ∧ Norm zs ∧ (∀ q, p = some q → ∀ s, s ∈ zs → s.2 + 1 < q)
  | [], p => by simp [chkFrom, Norm]
  | r :: rs, p => by
    rw [chkFrom]
    by_cases h1 : isN r.1 = false ∨ isN r.2 = false
    · rw [if_pos h1]
      refine ⟨fun h => absurd h (by decide), fun ⟨ha, hn, _⟩ => ?_⟩
      exfalso
      have a := ha r List.mem_cons_self
      have b := hn.1
      rcases h1 with h1 | h1 <;> rw [isN_no] at h1 <;> omega
    · rw [if_neg h1]
      have k1 : isN r.1 = true := by cases x : isN r.1 <;> simp_all
      have k2 : isN r.2 = true := by cases x : isN r.2 <;> simp_all
      rw [isN_iff] at k1 k2
      by_cases h2 : r.2 < r.1 ∨ (∃ q, p = some q ∧ q ≤ r.2 + 1)
      · rw [if_pos h2]
        refine ⟨fun h => absurd h (by decide), fun ⟨ha, hn, hq⟩ => ?_⟩
        exfalso
        rcases h2 with h2 | ⟨q, rfl, h2⟩
        · have := hn.1; omega
        · have := hq q rfl r List.mem_cons_self; omega
      · rw [if_neg h2, chkFrom_ok rs (some r.1)]
        have k3 : r.1 ≤ r.2 := by have : ¬ r.2 < r.1 := fun x => h2 (.inl x); omega
        constructor
        · rintro ⟨ha, hn, hq⟩
          refine ⟨fun s hs => ?_, ⟨k3, hq r.1 rfl, hn⟩, fun q hp s hs => ?_⟩
          · rcases List.mem_cons.1 hs with rfl | hs
            · exact ⟨k1.1, k2.2⟩
            · exact ha s hs
          · have k4 : ¬ q ≤ r.2 + 1 := fun x => h2 (.inr ⟨q, hp, x⟩)
            rcases List.mem_cons.1 hs with rfl | hs
            · omega
            · have := hq r.1 rfl s hs; omega
        · rintro ⟨ha, hn, hq⟩
          exact ⟨fun s hs => ha s (List.mem_cons_of_mem _ hs), hn.2.2, fun q hp s hs => by cases hp; exact hn.2.1 s hs⟩
theorem chk_ok (zs : List R) : chk zs = 0 ↔ Good zs := by
  unfold chk Good
  by_cases h : 12 < zs.length
  · rw [if_pos h]; exact ⟨fun x => absurd x (by decide), fun x => by omega⟩
  · rw [if_neg h, chkFrom_ok]
    exact ⟨fun ⟨a, b, _⟩ => ⟨by omega, a, b⟩, fun ⟨_, a, b⟩ => ⟨a, b, fun q hq => by cases hq⟩⟩
theorem chkFrom_cases : ∀ (zs : List R) (p : Option Int), chkFrom p zs = 0 ∨ chkFrom p zs = 1 ∨ chkFrom p zs = 3
  | [], p => .inl rfl
  | r :: rs, p => by
    rw [chkFrom]
    split
    · exact .inr (.inl rfl)
    · split
      · exact .inr (.inr rfl)
      · exact chkFrom_cases rs _
theorem chk_cases (zs : List R) : chk zs = 0 ∨ chk zs = 1 ∨ chk zs = 3 ∨ chk zs = 4 := by
  unfold chk
  split
  · exact .inr (.inr (.inr rfl))
  · rcases chkFrom_cases zs none with h | h | h
    · exact .inl h
    · exact .inr (.inl h)
    · exact .inr (.inr (.inl h))

/-- Of a list in the one form, each number between 0 and the greatest: so are its ends. -/
theorem ends_of {zs : List R} (hn : Norm zs) (hm : ∀ n, Mem zs n → 0 ≤ n ∧ n ≤ 1073741823) : ∀ r, r ∈ zs → 0 ≤ r.1 ∧ r.2 ≤ 1073741823 := by
  intro r hr
  have hl := norm_le hn r hr
  exact ⟨(hm r.1 ⟨r, hr, Int.le_refl _, hl⟩).1, (hm r.2 ⟨r, hr, hl, Int.le_refl _⟩).2⟩
theorem mem_ends {zs : List R} (h : ∀ r, r ∈ zs → 0 ≤ r.1 ∧ r.2 ≤ 1073741823) (n : Int) (hm : Mem zs n) : 0 ≤ n ∧ n ≤ 1073741823 := by
  obtain ⟨r, hr, a, b⟩ := hm
  have := h r hr
  omega

/-- How many numbers. -/
def cnt : List R → Int
  | [] => 0
  | r :: rs => (r.2 - r.1 + 1) + cnt rs
theorem cnt_append (a b : List R) : cnt (a ++ b) = cnt a + cnt b := by
  induction a with
  | nil => simp [cnt]
  | cons r rs ih => simp [cnt, ih]; omega
def tally (f : Int → Bool) : Nat → Int
  | 0 => 0
  | N + 1 => tally f N + (if f N then 1 else 0)
theorem tally_congr {f g : Int → Bool} : ∀ N : Nat, (∀ k : Int, 0 ≤ k → k < N → f k = g k) → tally f N = tally g N
  | 0, _ => rfl
  | N + 1, h => by
    rw [tally, tally, tally_congr N (fun k a b => h k a (by omega)), h N (by omega) (by omega)]
theorem tally_none {f : Int → Bool} : ∀ N : Nat, (∀ k : Int, f k = false) → tally f N = 0
  | 0, _ => rfl
  | N + 1, h => by rw [tally, tally_none N h, h]; rfl
theorem tally_or {f g : Int → Bool} : ∀ N : Nat, (∀ k : Int, f k = true → g k = true → False) → tally (fun k => f k || g k) N = tally f N + tally g N
  | 0, _ => rfl
  | N + 1, h => by
    rw [tally, tally, tally, tally_or N h]
    have := h N
    cases a : f N <;> cases b : g N <;> simp_all <;> omega
theorem tally_in (lo hi : Int) (h0 : 0 ≤ lo) (h1 : lo ≤ hi) : ∀ N : Nat, tally (inB (lo, hi)) N = if (N : Int) ≤ lo then 0 else if (N : Int) ≤ hi then N - lo else hi - lo + 1
  | 0 => by rw [if_pos (by simpa using h0)]; rfl
  | N + 1 => by
    rw [tally, tally_in lo hi h0 h1 N]
    have hin : inB (lo, hi) (N : Int) = (decide (lo ≤ (N : Int)) && decide ((N : Int) ≤ hi)) := rfl
    rw [hin]
    by_cases a : lo ≤ (N : Int) <;> by_cases b : (N : Int) ≤ hi <;> simp [a, b] <;> (repeat' split) <;> omega
theorem cnt_tally : ∀ {zs : List R}, Norm zs → (∀ r, r ∈ zs → 0 ≤ r.1 ∧ r.2 ≤ 1073741823) → cnt zs = tally (memB zs) 1073741824
  | [], _, _ => by rw [tally_none (f := memB []) _ (fun k => rfl)]; rfl
  | r :: rs, hn, hr => by
    have e : memB (r :: rs) = fun k => inB r k || memB rs k := by funext k; simp [memB]
    have b := hr r List.mem_cons_self
    rw [e, tally_or _ (fun k h1 h2 => by
      rw [memB_iff] at h2
      simp [inB] at h1
      obtain ⟨s, hs, x, y⟩ := h2
      have := hn.2.1 s hs
      omega), cnt, cnt_tally hn.2.2 (fun s hs => hr s (List.mem_cons_of_mem _ hs))]
    have := tally_in r.1 r.2 b.1 hn.1 1073741824
    have hl := hn.1
    rw [this, if_neg (by omega), if_neg (by omega)]
theorem cnt_new {a b : List R} (ha : Norm a) (hb : Norm b) (ra : ∀ r, r ∈ a → 0 ≤ r.1 ∧ r.2 ≤ 1073741823) (rb : ∀ r, r ∈ b → 0 ≤ r.1 ∧ r.2 ≤ 1073741823) (n : Int) (h0 : 0 ≤ n) (h1 : n ≤ 1073741823)
    (h : ∀ k, Mem b k ↔ Mem a k ∨ k = n) (hnew : ¬ Mem a n) : cnt b = cnt a + 1 := by
  rw [cnt_tally ha ra, cnt_tally hb rb]
  have e : memB b = fun k => memB a k || inB (n, n) k := by
    funext k
    rw [Bool.eq_iff_iff, memB_iff, h k]
    simp only [Bool.or_eq_true, memB_iff, inB, Bool.and_eq_true, decide_eq_true_eq]
    constructor
    · rintro (x | rfl)
      · exact .inl x
      · exact .inr ⟨Int.le_refl _, Int.le_refl _⟩
    · rintro (x | x)
      · exact .inl x
      · exact .inr (by omega)
  rw [e, tally_or _ (fun k x y => by
    simp [inB] at y
    have : k = n := by omega
    subst this
    exact hnew ((memB_iff _ _).1 x)), tally_in n n h0 (Int.le_refl _) 1073741824, if_neg (by omega), if_neg (by omega)]
  omega
theorem cnt_old {a b : List R} (ha : Norm a) (hb : Norm b) (n : Int) (h : ∀ k, Mem b k ↔ Mem a k ∨ k = n) (hold : Mem a n) : b = a :=
  norm_unique hb ha fun k => by
    rw [h k]
    exact ⟨fun x => x.elim id (fun e => e ▸ hold), .inl⟩
theorem cnt_bounds : ∀ {zs : List R}, (∀ r, r ∈ zs → 0 ≤ r.1 ∧ r.2 ≤ 1073741823) → (∀ r, r ∈ zs → r.1 ≤ r.2) → 0 ≤ cnt zs ∧ cnt zs ≤ 1073741824 * zs.length
  | [], _, _ => by simp [cnt]
  | r :: rs, hr, hl => by
    have i := cnt_bounds (fun s hs => hr s (List.mem_cons_of_mem _ hs)) (fun s hs => hl s (List.mem_cons_of_mem _ hs))
    have a := hr r List.mem_cons_self
    have b := hl r List.mem_cons_self
    simp only [cnt, List.length_cons]
    omega
end Go.Proofs.YtegelodkopommaaGreatDoor
