/- Packets that were sent, as lists of number, time and size: what Check, Left, Lost and Way answer. No program stands here. -/
import Derived.Test.YtingcgadolcanaaDoorM
namespace Go.Proofs.YtingcgadolcanaaDoor
set_option linter.unusedVariables false

abbrev S3 := Int × Int × Int
def isT (t : Int) : Bool := decide (0 ≤ t) && decide (t ≤ 100000)
def isZ (n : Int) : Bool := decide (1 ≤ n) && decide (n ≤ 200)
def isW (n : Int) : Bool := decide (1 ≤ n) && decide (n ≤ 100000)
theorem isT_iff (t : Int) : isT t = true ↔ 0 ≤ t ∧ t ≤ 100000 := by simp [isT]
theorem isT_no (t : Int) : isT t = false ↔ t < 0 ∨ 100000 < t := by
  cases h : isT t with
  | true => have := (isT_iff t).1 h; simp; omega
  | false => simp only [true_iff]; by_cases h1 : 0 ≤ t
             · right; by_cases h2 : t ≤ 100000
               · rw [(isT_iff t).2 ⟨h1, h2⟩] at h; cases h
               · omega
             · left; omega
theorem isZ_iff (t : Int) : isZ t = true ↔ 1 ≤ t ∧ t ≤ 200 := by simp [isZ]
theorem isW_iff (t : Int) : isW t = true ↔ 1 ≤ t ∧ t ≤ 100000 := by simp [isW]
theorem isW_no (t : Int) : isW t = false ↔ t < 1 ∨ 100000 < t := by
  cases h : isW t with
  | true => have := (isW_iff t).1 h; simp; omega
  | false => simp only [true_iff]; by_cases h1 : 1 ≤ t
             · right; by_cases h2 : t ≤ 100000
               · rw [(isW_iff t).2 ⟨h1, h2⟩] at h; cases h
               · omega
             · left; omega
def okS (s : S3) : Bool := isN s.1 && isT s.2.1 && isZ s.2.2
theorem okS_iff (s : S3) : okS s = true ↔ (0 ≤ s.1 ∧ s.1 ≤ 1073741823) ∧ (0 ≤ s.2.1 ∧ s.2.1 ≤ 100000) ∧ 1 ≤ s.2.2 ∧ s.2.2 ≤ 200 := by
  simp [okS, isN_iff, isT_iff, isZ_iff, and_assoc]
/-- Whether s can have been sent behind q. -/
def behB (s q : S3) : Bool := decide (q.1 < s.1) && decide (q.2.1 ≤ s.2.1)
def badB : Option S3 → S3 → Bool
  | none, _ => false
  | some q, s => !behB s q
def scFrom : Option S3 → List S3 → Int
  | _, [] => 0
  | p, s :: ss => if okS s = false then 1 else if badB p s = true then 3 else scFrom (some s) ss
def sc (zs : List S3) : Int := if 30 < zs.length then 4 else scFrom none zs
theorem sc_1 (p : Option S3) (s : S3) (ss : List S3) (h : okS s = false) : scFrom p (s :: ss) = 1 := by rw [scFrom, if_pos h]
theorem sc_3 (p : Option S3) (s : S3) (ss : List S3) (h : okS s = true) (h2 : badB p s = true) : scFrom p (s :: ss) = 3 := by rw [scFrom, if_neg (by simp [h]), if_pos h2]
theorem sc_0 (p : Option S3) (s : S3) (ss : List S3) (h : okS s = true) (h2 : badB p s = false) : scFrom p (s :: ss) = scFrom (some s) ss := by rw [scFrom, if_neg (by simp [h]), if_neg (by simp [h2])]
theorem sc_ok : ∀ (zs : List S3) (p : Option S3), scFrom p zs = 0 → (∀ s, s ∈ zs → okS s = true) ∧ (∀ q, p = some q → ∀ s, s ∈ zs → q.1 < s.1) ∧ zs.Pairwise fun a b => a.1 < b.1
  | [], p, _ => ⟨fun s h => by simp at h, fun q _ s h => by simp at h, .nil⟩
  | a :: zs, p, h => by
    cases h1 : okS a with
    | false => rw [sc_1 p a zs h1] at h; cases h
    | true =>
      cases h2 : badB p a with
      | true => rw [sc_3 p a zs h1 h2] at h; cases h
      | false =>
        rw [sc_0 p a zs h1 h2] at h
        obtain ⟨i1, i2, i3⟩ := sc_ok zs (some a) h
        have i2' := i2 a rfl
        refine ⟨fun s hs => ?_, fun q hq s hs => ?_, .cons i2' i3⟩
        · rcases List.mem_cons.1 hs with rfl | hs
          · exact h1
          · exact i1 s hs
        · subst hq
          have hq : q.1 < a.1 := by
            have : behB a q = true := by simpa [badB] using h2
            simp [behB] at this; exact this.1
          rcases List.mem_cons.1 hs with rfl | hs
          · exact hq
          · have := i2' s hs; omega
theorem sc_good {zs : List S3} (h : sc zs = 0) : zs.length ≤ 30 ∧ (∀ s, s ∈ zs → okS s = true) ∧ zs.Pairwise fun a b => a.1 < b.1 := by
  unfold sc at h
  by_cases h30 : 30 < zs.length
  · rw [if_pos h30] at h; cases h
  · rw [if_neg h30] at h
    have := sc_ok zs none h
    exact ⟨by omega, this.1, this.2.2⟩
theorem sc_cases (p : Option S3) : ∀ zs, scFrom p zs = 0 ∨ scFrom p zs = 1 ∨ scFrom p zs = 3 := by
  intro zs
  induction zs generalizing p with
  | nil => exact .inl rfl
  | cons a zs ih =>
    rw [scFrom]
    split
    · exact .inr (.inl rfl)
    · split
      · exact .inr (.inr rfl)
      · exact ih _

/-- Those that did not come. -/
def leftL (acks : List R) (zs : List S3) : List S3 := zs.filter fun s => !memB acks s.1
/-- Whether n or any number above it came. -/
def reachB (acks : List R) (n : Int) : Bool := acks.any fun r => decide (n ≤ r.2)
def lostB (acks : List R) (now wait : Int) (s : S3) : Bool := reachB acks (s.1 + 3) || (reachB acks (s.1 + 1) && decide (wait ≤ now - s.2.1))
def lostL (acks : List R) (now wait : Int) (zs : List S3) : List Int := ((leftL acks zs).filter (lostB acks now wait)).map fun s => s.1
/-- What is wrong with packets, or else with what came. -/
def both (zs : List S3) (acks : List R) : Int := if sc zs = 0 then chk acks else sc zs
def lostF (zs : List S3) (acks : List R) (now wait : Int) : Int := if both zs acks = 0 then (if isT now = true ∧ isW wait = true then 0 else 1) else both zs acks
theorem both_0 {zs : List S3} {acks : List R} (h : both zs acks = 0) : sc zs = 0 ∧ chk acks = 0 := by
  unfold both at h
  by_cases h0 : sc zs = 0
  · rw [if_pos h0] at h; exact ⟨h0, h⟩
  · rw [if_neg h0] at h; exact absurd h h0
theorem both_mk {zs : List S3} {acks : List R} (h1 : sc zs = 0) (h2 : chk acks = 0) : both zs acks = 0 := by rw [both, if_pos h1, h2]
theorem left_length (acks : List R) (zs : List S3) : (leftL acks zs).length ≤ zs.length := List.length_filter_le _ _
theorem left_sub {acks : List R} {zs : List S3} {s : S3} (h : s ∈ leftL acks zs) : s ∈ zs ∧ memB acks s.1 = false := by
  have := List.mem_filter.1 h
  exact ⟨this.1, by simpa using this.2⟩
theorem lostL_mem {acks : List R} {now wait n : Int} {zs : List S3} : n ∈ lostL acks now wait zs ↔ ∃ s, s ∈ leftL acks zs ∧ lostB acks now wait s = true ∧ s.1 = n := by
  simp only [lostL, List.mem_map, List.mem_filter]
  constructor
  · rintro ⟨s, ⟨h1, h2⟩, h3⟩; exact ⟨s, h1, h2, h3⟩
  · rintro ⟨s, h1, h2, h3⟩; exact ⟨s, ⟨h1, h2⟩, h3⟩
theorem reach_none (n : Int) : reachB [] n = false := rfl
theorem reach_down {acks : List R} {m n : Int} (h : n ≤ m) (hr : reachB acks m = true) : reachB acks n = true := by
  simp only [reachB, List.any_eq_true, decide_eq_true_eq] at *
  obtain ⟨r, h1, h2⟩ := hr
  exact ⟨r, h1, by omega⟩
theorem lost_reach {acks : List R} {now wait : Int} {s : S3} (h : lostB acks now wait s = true) : reachB acks (s.1 + 1) = true := by
  simp only [lostB, Bool.or_eq_true, Bool.and_eq_true] at h
  rcases h with h | h
  · exact reach_down (by omega) h
  · exact h.1
theorem lost_less {acks : List R} {now wait more : Int} {s : S3} (hm : 0 ≤ more) (h : lostB acks now (wait + more) s = true) : lostB acks now wait s = true := by
  simp only [lostB, Bool.or_eq_true, Bool.and_eq_true, decide_eq_true_eq] at *
  rcases h with h | h
  · exact .inl h
  · exact .inr ⟨h.1, by omega⟩
theorem lostL_less {acks : List R} {now wait more n : Int} {zs : List S3} (hm : 0 ≤ more) (h : n ∈ lostL acks now (wait + more) zs) : n ∈ lostL acks now wait zs := by
  obtain ⟨s, h1, h2, h3⟩ := lostL_mem.1 h
  exact lostL_mem.2 ⟨s, h1, lost_less hm h2, h3⟩
theorem lostL_rise {acks : List R} {now wait : Int} {zs : List S3} (h : zs.Pairwise fun a b => a.1 < b.1) : (lostL acks now wait zs).Pairwise fun a b => a < b := by
  unfold lostL leftL
  rw [List.pairwise_map]
  exact (h.filter _).filter _
theorem left_none (zs : List S3) : leftL [] zs = zs := by
  unfold leftL
  exact List.filter_eq_self.2 fun s _ => rfl
theorem lost_none (now wait : Int) (zs : List S3) : lostL [] now wait zs = [] := by
  unfold lostL
  rw [List.filter_eq_nil_iff.2 (fun s _ => by simp [lostB, reachB])]
  rfl
def wayL (zs : List S3) : Int := (zs.map fun s => s.2.2).sum
end Go.Proofs.YtingcgadolcanaaDoor
