/- The numbers that tell ranges, what bytes read as, and that each undoes the other. No program stands here. -/
import Derived.Test.YtoabfilliiopmaaDoorM
import Derived.Test.YtoabfilliiopmaaDoorGV
namespace Go.Proofs.YtoabfilliiopmaaDoor
open Go.RowKit Go.Lib
set_option linter.unusedVariables false
set_option linter.unusedSimpArgs false

def Bytes (l : List Int) : Prop := ∀ z, z ∈ l → 0 ≤ z ∧ z < 256
def Mays (l : List Int) : Prop := ∀ z, z ∈ l → 0 ≤ z ∧ z < 1073741824

theorem nums_lng (n : Int) : ((V.nums n).length : Int) = V.lng n := by
  unfold V.nums V.lng
  by_cases a : n < 64
  · simp [a]
  · by_cases b : n < 16384
    · simp [a, b]
    · simp [a, b]
theorem drop_nums (n : Int) (l : List Int) : (V.nums n ++ l).drop (V.lng n).toNat = l := by
  have h := nums_lng n
  have e : (V.lng n).toNat = (V.nums n).length := by omega
  rw [e]; simp
theorem bytes_ints (s : ByteArray) : Bytes (V.ints s) := by
  intro z hz
  simp only [V.ints, List.mem_map] at hz
  obtain ⟨b, _, rfl⟩ := hz
  have := b.toNat_lt
  omega
theorem bytes_drop {l : List Int} (h : Bytes l) (k : Nat) : Bytes (l.drop k) := fun z hz => h z (List.mem_of_mem_drop hz)

/-- What a number was read of is its own bytes. -/
theorem getI_inv {l : List Int} (hl : Bytes l) {n c : Int} (h : V.getI l = some (n, c)) : V.mayB n = true ∧ c = V.lng n ∧ l = V.nums n ++ l.drop c.toNat := by
  match l, hl, h with
  | [], hl, h => simp [V.getI] at h
  | b0 :: r, hl, h =>
    have v0 := hl b0 (by simp)
    by_cases a0 : b0 < 64
    · simp [V.getI, a0] at h
      obtain ⟨rfl, rfl⟩ := h
      exact ⟨by simp [V.mayB]; omega, by simp [V.lng, a0], by simp [V.nums, a0]⟩
    · by_cases a1 : b0 < 128
      · match r, hl, h with
        | [], hl, h => simp [V.getI, a0, a1] at h
        | b1 :: r, hl, h =>
          have v1 := hl b1 (by simp)
          simp [V.getI, a0, a1] at h
          obtain ⟨h0, rfl, rfl⟩ := h
          have c0 : ¬ b0 * 256 + b1 - 16384 < 64 := by omega
          have c1 : b0 * 256 + b1 - 16384 < 16384 := by omega
          refine ⟨by simp [V.mayB]; omega, by simp [V.lng, c0, c1], ?_⟩
          simp [V.nums, c0, c1]
          omega
      · by_cases a2 : b0 < 192
        · match r, hl, h with
          | b1 :: b2 :: b3 :: r, hl, h =>
            have v1 := hl b1 (by simp)
            have v2 := hl b2 (by simp)
            have v3 := hl b3 (by simp)
            simp [V.getI, a0, a1, a2] at h
            obtain ⟨h0, rfl, rfl⟩ := h
            have c0 : ¬ ((b0 * 256 + b1) * 256 + b2) * 256 + b3 - 2147483648 < 64 := by omega
            have c1 : ¬ ((b0 * 256 + b1) * 256 + b2) * 256 + b3 - 2147483648 < 16384 := by omega
            refine ⟨by simp [V.mayB]; omega, by simp [V.lng, c0, c1], ?_⟩
            simp [V.nums, c0, c1]
            omega
          | [], hl, h => simp [V.getI, a0, a1] at h
          | [b1], hl, h => simp [V.getI, a0, a1] at h
          | [b1, b2], hl, h => simp [V.getI, a0, a1] at h
        · simp [V.getI, a0, a1, a2] at h

/-- All numbers that bytes are, to the last byte; no more than k. -/
def rd : Nat → List Int → Option (List Int)
  | _, [] => some []
  | 0, _ :: _ => none
  | k + 1, b :: l => match V.getI (b :: l) with
    | none => none
    | some x => (rd k ((b :: l).drop x.2.toNat)).map (x.1 :: ·)
theorem rd_nil (k : Nat) : rd k [] = some [] := by cases k <;> rfl
theorem rd_none {k : Nat} {l : List Int} (hl : l ≠ []) (h : V.getI l = none) : rd k l = none := by
  cases l with
  | nil => exact absurd rfl hl
  | cons b l => cases k with
    | zero => rfl
    | succ k => simp [rd, h]
theorem rd_some {k : Nat} {l : List Int} {n c : Int} (hl : l ≠ []) (h : V.getI l = some (n, c)) : rd (k + 1) l = (rd k (l.drop c.toNat)).map (n :: ·) := by
  cases l with
  | nil => exact absurd rfl hl
  | cons b l => simp only [rd, h]
theorem nums_ne (n : Int) : V.nums n ≠ [] := by
  intro h
  have h1 := nums_lng n
  have h2 := (V.lng_bd n).1
  rw [h] at h1
  simp at h1
  omega
theorem mayB_iff (n : Int) : V.mayB n = true ↔ 0 ≤ n ∧ n < 1073741824 := by simp [V.mayB]
theorem rd_inv : ∀ (k : Nat) (l ns : List Int), Bytes l → rd k l = some ns → l = ns.flatMap V.nums ∧ Mays ns ∧ ns.length ≤ k := by
  intro k
  induction k with
  | zero =>
    intro l ns hl h
    cases l with
    | nil => rw [rd_nil] at h; cases h; exact ⟨rfl, fun z hz => by simp at hz, by simp⟩
    | cons b l => simp [rd] at h
  | succ k ih =>
    intro l ns hl h
    by_cases h0 : l = []
    · subst h0; rw [rd_nil] at h; cases h; exact ⟨rfl, fun z hz => by simp at hz, by simp⟩
    · cases hg : V.getI l with
      | none => rw [rd_none h0 hg] at h; cases h
      | some x =>
        obtain ⟨n, c⟩ := x
        rw [rd_some h0 hg] at h
        obtain ⟨hm, hc, he⟩ := getI_inv hl hg
        cases hr : rd k (l.drop c.toNat) with
        | none => rw [hr] at h; cases h
        | some ms =>
          rw [hr] at h
          cases h
          obtain ⟨e1, e2, e3⟩ := ih _ _ (bytes_drop hl _) hr
          refine ⟨by rw [List.flatMap_cons, ← e1]; exact he, fun z hz => ?_, by simp; omega⟩
          rcases List.mem_cons.1 hz with rfl | hz
          · exact (mayB_iff _).1 hm
          · exact e2 z hz
theorem rd_back : ∀ (ns : List Int) (k : Nat), Mays ns → ns.length ≤ k → rd k (ns.flatMap V.nums) = some ns := by
  intro ns
  induction ns with
  | nil => intro k _ _; exact rd_nil k
  | cons n ns ih =>
    intro k hm hk
    obtain ⟨k, rfl⟩ : ∃ j, k = j + 1 := ⟨k - 1, by simp at hk; omega⟩
    have h1 : V.mayB n = true := (mayB_iff n).2 (hm n (by simp))
    rw [List.flatMap_cons, rd_some (by simp [nums_ne]) (V.getI_back n h1 _), drop_nums, ih k (fun z hz => hm z (by simp [hz])) (by simp at hk; omega)]
    rfl

/-- The numbers of ranges behind the first, the one above beginning at p. -/
def tailN : Int → List R → List Int
  | _, [] => []
  | p, r :: rs => (p - r.2 - 2) :: (r.2 - r.1) :: tailN r.1 rs
def numsOf : List R → List Int
  | [] => []
  | r :: rs => r.2 :: (rs.length : Int) :: (r.2 - r.1) :: tailN r.1 rs
theorem tailN_length : ∀ (rs : List R) (p : Int), (tailN p rs).length = 2 * rs.length
  | [], _ => rfl
  | r :: rs, p => by simp only [tailN, List.length_cons, tailN_length rs]; omega
def pairs : Int → List Int → List R
  | lo, a :: b :: rest => (lo - a - 2 - b, lo - a - 2) :: pairs (lo - a - 2 - b) rest
  | _, _ => []
def lastLo : Int → List Int → Int
  | lo, a :: b :: rest => lastLo (lo - a - 2 - b) rest
  | lo, _ => lo
def parseN : List Int → Option (List R)
  | h :: m :: d :: rest => if (rest.length : Int) = 2 * m ∧ 0 ≤ lastLo (h - d) rest then some ((h - d, h) :: pairs (h - d) rest) else none
  | _ => none
def parse (l : List Int) : Option (List R) := (rd 25 l).bind parseN
def enc (zs : List R) : List Int := (numsOf zs).flatMap V.nums

theorem pairs_tail : ∀ (rs : List R) (p : Int), pairs p (tailN p rs) = rs
  | [], _ => rfl
  | r :: rs, p => by
    have e1 : p - (p - r.2 - 2) - 2 - (r.2 - r.1) = r.1 := by omega
    have e2 : p - (p - r.2 - 2) - 2 = r.2 := by omega
    have e3 : r.2 - (r.2 - r.1) = r.1 := by omega
    simp only [tailN, pairs, e2, e3, pairs_tail rs]
theorem lastLo_tail : ∀ (rs : List R) (p : Int), 0 ≤ p → (∀ r, r ∈ rs → 0 ≤ r.1) → 0 ≤ lastLo p (tailN p rs)
  | [], _, h, _ => h
  | r :: rs, p, h, hr => by
    have e1 : p - (p - r.2 - 2) - 2 - (r.2 - r.1) = r.1 := by omega
    simp only [tailN, lastLo, e1]
    exact lastLo_tail rs r.1 (hr r (by simp)) (fun s hs => hr s (by simp [hs]))
theorem mays_tail : ∀ (rs : List R) (p : Int), p ≤ 1073741823 → (∀ r, r ∈ rs → 0 ≤ r.1 ∧ r.2 ≤ 1073741823) → (∀ r, r ∈ rs → r.2 + 1 < p) → Norm rs → Mays (tailN p rs)
  | [], _, _, _, _, _ => fun z hz => by simp [tailN] at hz
  | r :: rs, p, h, hr, hp, hn => by
    have b := hr r (by simp)
    have c := hp r (by simp)
    have d := hn.1
    intro z hz
    simp only [tailN, List.mem_cons] at hz
    rcases hz with rfl | rfl | hz
    · omega
    · omega
    · exact mays_tail rs r.1 (by omega) (fun s hs => hr s (by simp [hs])) hn.2.1 hn.2.2 z hz
theorem mays_nums {zs : List R} (h : Good zs) : Mays (numsOf zs) := by
  cases zs with
  | nil => intro z hz; simp [numsOf] at hz
  | cons r rs =>
    obtain ⟨h1, h2, h3⟩ := h
    have b := h2 r (by simp)
    have d := h3.1
    simp only [List.length_cons] at h1
    intro z hz
    simp only [numsOf, List.mem_cons] at hz
    rcases hz with rfl | rfl | rfl | hz
    · omega
    · omega
    · omega
    · exact mays_tail rs r.1 (by omega) (fun s hs => h2 s (by simp [hs])) h3.2.1 h3.2.2 z hz
theorem numsOf_length {zs : List R} (h : Good zs) : (numsOf zs).length ≤ 25 := by
  cases zs with
  | nil => simp [numsOf]
  | cons r rs =>
    have h1 := h.1
    simp only [List.length_cons] at h1
    simp only [numsOf, List.length_cons, tailN_length]
    omega
theorem parseN_back {zs : List R} (h : Good zs) (h0 : zs ≠ []) : parseN (numsOf zs) = some zs := by
  cases zs with
  | nil => exact absurd rfl h0
  | cons r rs =>
    have e1 : r.2 - (r.2 - r.1) = r.1 := by omega
    have b := h.2.1 r (by simp)
    simp only [numsOf, parseN, e1, pairs_tail, tailN_length]
    rw [if_pos ⟨by omega, lastLo_tail rs r.1 b.1 (fun s hs => (h.2.1 s (by simp [hs])).1)⟩]
theorem pairs_ok : ∀ (k : Nat) (rest : List Int) (lo : Int), rest.length = 2 * k → Mays rest → 0 ≤ lastLo lo rest →
    tailN lo (pairs lo rest) = rest ∧ (pairs lo rest).length = k ∧ 0 ≤ lo ∧ (∀ r, r ∈ pairs lo rest → 0 ≤ r.1 ∧ r.2 + 1 < lo) ∧ Norm (pairs lo rest) := by
  intro k
  induction k with
  | zero =>
    intro rest lo hl _ h
    obtain rfl : rest = [] := List.eq_nil_of_length_eq_zero (by omega)
    exact ⟨rfl, rfl, h, fun r hr => by simp [pairs] at hr, trivial⟩
  | succ k ih =>
    intro rest lo hl hm h
    match rest, hl, hm, h with
    | [], hl, _, _ => simp at hl
    | [a], hl, _, _ => simp at hl; omega
    | a :: b :: rest, hl, hm, h =>
      have ma := hm a (by simp)
      have mb := hm b (by simp)
      obtain ⟨i1, i2, i3, i4, i5⟩ := ih rest (lo - a - 2 - b) (by simp at hl; omega) (fun z hz => hm z (by simp [hz])) h
      have e1 : lo - (lo - a - 2) - 2 = a := by omega
      have e2 : lo - a - 2 - (lo - a - 2 - b) = b := by omega
      refine ⟨by simp only [pairs, tailN, e1, e2, i1], by simp only [pairs, List.length_cons, i2], by omega, fun r hr => ?_, ?_⟩
      · simp only [pairs, List.mem_cons] at hr
        rcases hr with rfl | hr
        · exact ⟨i3, by show lo - a - 2 + 1 < lo; omega⟩
        · have := i4 r hr
          exact ⟨this.1, by omega⟩
      · exact ⟨by show lo - a - 2 - b ≤ lo - a - 2; omega, fun s hs => (i4 s hs).2, i5⟩
theorem parseN_inv {ns : List Int} {zs : List R} (hm : Mays ns) (hl : ns.length ≤ 25) (h : parseN ns = some zs) : zs ≠ [] ∧ Good zs ∧ ns = numsOf zs := by
  match ns, hm, hl, h with
  | [], _, _, h => simp [parseN] at h
  | [_], _, _, h => simp [parseN] at h
  | [_, _], _, _, h => simp [parseN] at h
  | hi :: m :: d :: rest, hm, hl, h =>
    have mh := hm hi (by simp)
    have mm := hm m (by simp)
    have md := hm d (by simp)
    simp only [parseN] at h
    split at h
    · rename_i hc
      cases h
      obtain ⟨k, hk⟩ : ∃ k : Nat, rest.length = 2 * k := ⟨m.toNat, by omega⟩
      obtain ⟨i1, i2, i3, i4, i5⟩ := pairs_ok k rest (hi - d) hk (fun z hz => hm z (by simp [hz])) hc.2
      have e1 : hi - (hi - d) = d := by omega
      simp only [List.length_cons] at hl
      refine ⟨by simp, ⟨by simp only [List.length_cons, i2]; omega, fun r hr => ?_, ⟨by show hi - d ≤ hi; omega, fun s hs => (i4 s hs).2, i5⟩⟩, ?_⟩
      · rcases List.mem_cons.1 hr with rfl | hr
        · exact ⟨i3, by show hi ≤ 1073741823; omega⟩
        · have := i4 r hr
          exact ⟨this.1, by omega⟩
      · simp only [numsOf, i1, i2, e1]
        rw [show (k : Int) = m by omega]
    · cases h
theorem enc_ne {zs : List R} (h0 : zs ≠ []) : enc zs ≠ [] := by
  cases zs with
  | nil => exact absurd rfl h0
  | cons r rs => simp [enc, numsOf, nums_ne]

/-- Bytes are read as ranges just where these are right, there is one, and the bytes are theirs. -/
theorem parse_iff {l : List Int} (hl : Bytes l) (zs : List R) : parse l = some zs ↔ zs ≠ [] ∧ Good zs ∧ l = enc zs := by
  unfold parse
  constructor
  · intro h
    cases hr : rd 25 l with
    | none => rw [hr] at h; cases h
    | some ns =>
      rw [hr] at h
      obtain ⟨e1, e2, e3⟩ := rd_inv 25 l ns hl hr
      obtain ⟨f1, f2, f3⟩ := parseN_inv e2 e3 h
      exact ⟨f1, f2, by rw [e1, f3]; rfl⟩
  · rintro ⟨h0, hg, rfl⟩
    unfold enc
    rw [rd_back _ 25 (mays_nums hg) (numsOf_length hg)]
    exact parseN_back hg h0
theorem bytes_nums {ns : List Int} (h : Mays ns) : Bytes (ns.flatMap V.nums) := by
  intro z hz
  rw [List.mem_flatMap] at hz
  obtain ⟨n, hn, hz⟩ := hz
  exact V.nums_bd n ((mayB_iff n).2 (h n hn)) z hz
theorem bytes_enc {zs : List R} (h : Good zs) : Bytes (enc zs) := bytes_nums (mays_nums h)
theorem mays_all {ns : List Int} (h : Mays ns) : ns.all V.mayB = true := List.all_eq_true.2 fun z hz => (mayB_iff z).2 (h z hz)

theorem flat_le (ns : List Int) : (ns.flatMap V.nums).length ≤ 4 * ns.length := by
  induction ns with
  | nil => simp
  | cons n ns ih =>
    have := V.nums_length_le n
    simp only [List.flatMap_cons, List.length_append, List.length_cons]
    omega
/-- No more than eight bytes for each range, and one more. -/
theorem enc_length {zs : List R} (h : Good zs) (h0 : zs ≠ []) : (enc zs).length ≤ 8 * zs.length + 1 := by
  cases zs with
  | nil => exact absurd rfl h0
  | cons r rs =>
    have h1 := h.1
    simp only [List.length_cons] at h1
    have e1 : (V.nums (rs.length : Int)).length = 1 := by
      have : ((rs.length : Nat) : Int) < 64 := by omega
      simp [V.nums, this]
    have a := V.nums_length_le r.2
    have b := V.nums_length_le (r.2 - r.1)
    have c := flat_le (tailN r.1 rs)
    rw [tailN_length] at c
    simp only [enc, numsOf, List.flatMap_cons, List.length_append, List.length_cons, e1]
    omega
end Go.Proofs.YtoabfilliiopmaaDoor
