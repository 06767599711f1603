/- What the laws of package run need. -/
import Derived.Test.YtdokgalidhmbbaaGreatDoorHV
import Derived.Test.YtdokgalidhmbbaaGreatDoorHR
import Derived.Laws.OwnMore
import Derived.OneCell
import Derived.BigRegionIn
import Derived.Sort.QuietIn
import Derived.RangeFuncCalls
set_option linter.unusedVariables false
set_option linter.unusedSimpArgs false
set_option maxRecDepth 100000
set_option maxHeartbeats 8000000
namespace Go.Proofs.YtdokgalidhmbbaaGreatDoor
open Go.RowKit Go.Lib

def Bytes (l : List Int) : Prop := ∀ z, z ∈ l → 0 ≤ z ∧ z < 256
def Mays (l : List Int) : Prop := ∀ z, z ∈ l → 0 ≤ z ∧ z < 1073741824

theorem nums_lng (n : Int) : ((V.nums n).length : Int) = V.lng n := by
  unfold V.nums V.lng
  by_cases a : n < 64
  · simp [a]
  · by_cases b : n < 16384
    · simp [a, b]
    · simp [a, b]
theorem drop_nums (n : Int) (l : List Int) : (V.nums n ++ l).drop (V.lng n).toNat = l := by
  have h := nums_lng n
  have e : (V.lng n).toNat = (V.nums n).length := by omega
  rw [e]; simp
theorem bytes_ints (s : ByteArray) : Bytes (V.ints s) := by
  intro z hz
  simp only [V.ints, List.mem_map] at hz
  obtain ⟨b, _, rfl⟩ := hz
  have := b.toNat_lt
  omega
theorem bytes_drop {l : List Int} (h : Bytes l) (k : Nat) : Bytes (l.drop k) := fun z hz => h z (List.mem_of_mem_drop hz)

/-- What a number was read of is its own bytes. -/
theorem getI_inv {l : List Int} (hl : Bytes l) {n c : Int} (h : V.getI l = some (n, c)) : V.mayB n = true ∧ c = V.lng n ∧ l = V.nums n ++ l.drop c.toNat := by
  match l, hl, h with
  | [], hl, h => simp [V.getI] at h
  | b0 :: r, hl, h =>
    have v0 := hl b0 (by simp)
    by_cases a0 : b0 < 64
    · simp [V.getI, a0] at h
      obtain ⟨rfl, rfl⟩ := h
      exact ⟨by simp [V.mayB]; omega, by simp [V.lng, a0], by simp [V.nums, a0]⟩
    · by_cases a1 : b0 < 128
      · match r, hl, h with
        | [], hl, h => simp [V.getI, a0, a1] at h
        | b1 :: r, hl, h =>
          have v1 := hl b1 (by simp)
          simp [V.getI, a0, a1] at h
          obtain ⟨h0, rfl, rfl⟩ := h
          have c0 : ¬ b0 * 256 + b1 - 16384 < 64 := by omega
          have c1 : b0 * 256 + b1 - 16384 < 16384 := by omega
          refine ⟨by simp [V.mayB]; omega, by simp [V.lng, c0, c1], ?_⟩
          simp [V.nums, c0, c1]
          omega
      · by_cases a2 : b0 < 192
        · match r, hl, h with
          | b1 :: b2 :: b3 :: r, hl, h =>
            have v1 := hl b1 (by simp)
            have v2 := hl b2 (by simp)
            have v3 := hl b3 (by simp)
            simp [V.getI, a0, a1, a2] at h
            obtain ⟨h0, rfl, rfl⟩ := h
            have c0 : ¬ ((b0 * 256 + b1) * 256 + b2) * 256 + b3 - 2147483648 < 64 := by omega
            have c1 : ¬ ((b0 * 256 + b1) * 256 + b2) * 256 + b3 - 2147483648 < 16384 := by omega
            refine ⟨by simp [V.mayB]; omega, by simp [V.lng, c0, c1], ?_⟩
            simp [V.nums, c0, c1]
            omega
          | [], hl, h => simp [V.getI, a0, a1] at h
          | [b1], hl, h => simp [V.getI, a0, a1] at h
          | [b1, b2], hl, h => simp [V.getI, a0, a1] at h
        · simp [V.getI, a0, a1, a2] at h

/-- All numbers that bytes are, to the last byte; no more than k. -/
def rd : Nat → List Int → Option (List Int)
  | _, [] => some []
  | 0, _ :: _ => none
  | k + 1, b :: l => match V.getI (b :: l) with
    | none => none
    | some x => (rd k ((b :: l).drop x.2.toNat)).map (x.1 :: ·)
theorem rd_nil (k : Nat) : rd k [] = some [] := by cases k <;> rfl
theorem rd_none {k : Nat} {l : List Int} (hl : l ≠ []) (h : V.getI l = none) : rd k l = none := by
  cases l with
  | nil => exact absurd rfl hl
  | cons b l => cases k with
    | zero => rfl
    | succ k => simp [rd, h]
theorem rd_some {k : Nat} {l : List Int} {n c : Int} (hl : l ≠ []) (h : V.getI l = some (n, c)) : rd (k + 1) l = (rd k (l.drop c.toNat)).map (n :: ·) := by
  cases l with
  | nil => exact absurd rfl hl
  | cons b l => simp only [rd, h]
theorem nums_ne (n : Int) : V.nums n ≠ [] := by
  intro h
  have h1 := nums_lng n
  have h2 := (V.lng_bd n).1
  rw [h] at h1
  simp at h1
  omega
theorem mayB_iff (n : Int) : V.mayB n = true ↔ 0 ≤ n ∧ n < 1073741824 := by simp [V.mayB]
theorem rd_inv : ∀ (k : Nat) (l ns : List Int), Bytes l → rd k l = some ns → l = ns.flatMap V.nums ∧ Mays ns ∧ ns.length ≤ k := by
  intro k
  induction k with
  | zero =>
    intro l ns hl h
    cases l with
    | nil => rw [rd_nil] at h; cases h; exact ⟨rfl, fun z hz => by simp at hz, by simp⟩
    | cons b l => simp [rd] at h
  | succ k ih =>
    intro l ns hl h
    by_cases h0 : l = []
    · subst h0; rw [rd_nil] at h; cases h; exact ⟨rfl, fun z hz => by simp at hz, by simp⟩
    · cases hg : V.getI l with
      | none => rw [rd_none h0 hg] at h; cases h
      | some x =>
        obtain ⟨n, c⟩ := x
        rw [rd_some h0 hg] at h
        obtain ⟨hm, hc, he⟩ := getI_inv hl hg
        cases hr : rd k (l.drop c.toNat) with
        | none => rw [hr] at h; cases h
        | some ms =>
          rw [hr] at h
          cases h
          obtain ⟨e1, e2, e3⟩ := ih _ _ (bytes_drop hl _) hr
          refine ⟨by rw [List.flatMap_cons, ← e1]; exact he, fun z hz => ?_, by simp; omega⟩
          rcases List.mem_cons.1 hz with rfl | hz
          · exact (mayB_iff _).1 hm
          · exact e2 z hz
theorem rd_back : ∀ (ns : List Int) (k : Nat), Mays ns → ns.length ≤ k → rd k (ns.flatMap V.nums) = some ns := by
  intro ns
  induction ns with
  | nil => intro k _ _; exact rd_nil k
  | cons n ns ih =>
    intro k hm hk
    obtain ⟨k, rfl⟩ : ∃ j, k = j + 1 := ⟨k - 1, by simp at hk; omega⟩
    have h1 : V.mayB n = true := (mayB_iff n).2 (hm n (by simp))
    rw [List.flatMap_cons, rd_some (by simp [nums_ne]) (V.getI_back n h1 _), drop_nums, ih k (fun z hz => hm z (by simp [hz])) (by simp at hk; omega)]
    rfl

/-- The numbers of ranges behind the first, the one above beginning at p. -/
def tailN : Int → List R → List Int
  | _, [] => []
  | p, r :: rs => (p - r.2 - 2) :: (r.2 - r.1) :: tailN r.1 rs
def numsOf : List R → List Int
  | [] => []
  | r :: rs => r.2 :: (rs.length : Int) :: (r.2 - r.1) :: tailN r.1 rs
theorem tailN_length : ∀ (rs : List R) (p : Int), (tailN p rs).length = 2 * rs.length
  | [], _ => rfl
  | r :: rs, p => by simp only [tailN, List.length_cons, tailN_length rs]; omega
def pairs : Int → List Int → List R
  | lo, a :: b :: rest => (lo - a - 2 - b, lo - a - 2) :: pairs (lo - a - 2 - b) rest
  | _, _ => []
def lastLo : Int → List Int → Int
  | lo, a :: b :: rest => lastLo (lo - a - 2 - b) rest
  | lo, _ => lo
def parseN : List Int → Option (List R)
  | h :: m :: d :: rest => if (rest.length : Int) = 2 * m ∧ 0 ≤ lastLo (h - d) rest then some ((h - d, h) :: pairs (h - d) rest) else none
  | _ => none
def parse (l : List Int) : Option (List R) := (rd 25 l).bind parseN
def enc (zs : List R) : List Int := (numsOf zs).flatMap V.nums

theorem pairs_tail : ∀ (rs : List R) (p : Int), pairs p (tailN p rs) = rs
  | [], _ => rfl
  | r :: rs, p => by
    have e1 : p - (p - r.2 - 2) - 2 - (r.2 - r.1) = r.1 := by omega
    have e2 : p - (p - r.2 - 2) - 2 = r.2 := by omega
    have e3 : r.2 - (r.2 - r.1) = r.1 := by omega
    simp only [tailN, pairs, e2, e3, pairs_tail rs]
theorem lastLo_tail : ∀ (rs : List R) (p : Int), 0 ≤ p → (∀ r, r ∈ rs → 0 ≤ r.1) → 0 ≤ lastLo p (tailN p rs)
  | [], _, h, _ => h
  | r :: rs, p, h, hr => by
    have e1 : p - (p - r.2 - 2) - 2 - (r.2 - r.1) = r.1 := by omega
    simp only [tailN, lastLo, e1]
    exact lastLo_tail rs r.1 (hr r (by simp)) (fun s hs => hr s (by simp [hs]))
theorem mays_tail : ∀ (rs : List R) (p : Int), p ≤ 1073741823 → (∀ r, r ∈ rs → 0 ≤ r.1 ∧ r.2 ≤ 1073741823) → (∀ r, r ∈ rs → r.2 + 1 < p) → Norm rs → Mays (tailN p rs)
  | [], _, _, _, _, _ => fun z hz => by simp [tailN] at hz
  | r :: rs, p, h, hr, hp, hn => by
    have b := hr r (by simp)
    have c := hp r (by simp)
    have d := hn.1
    intro z hz
    simp only [tailN, List.mem_cons] at hz
    rcases hz with rfl | rfl | hz
    · omega
    · omega
    · exact mays_tail rs r.1 (by omega) (fun s hs => hr s (by simp [hs])) hn.2.1 hn.2.2 z hz
theorem mays_nums {zs : List R} (h : Good zs) : Mays (numsOf zs) := by
  cases zs with
  | nil => intro z hz; simp [numsOf] at hz
  | cons r rs =>
    obtain ⟨h1, h2, h3⟩ := h
    have b := h2 r (by simp)
    have d := h3.1
    simp only [List.length_cons] at h1
    intro z hz
    simp only [numsOf, List.mem_cons] at hz
    rcases hz with rfl | rfl | rfl | hz
    · omega
    · omega
    · omega
    · exact mays_tail rs r.1 (by omega) (fun s hs => h2 s (by simp [hs])) h3.2.1 h3.2.2 z hz
theorem numsOf_length {zs : List R} (h : Good zs) : (numsOf zs).length ≤ 25 := by
  cases zs with
  | nil => simp [numsOf]
  | cons r rs =>
    have h1 := h.1
    simp only [List.length_cons] at h1
    simp only [numsOf, List.length_cons, tailN_length]
    omega
theorem parseN_back {zs : List R} (h : Good zs) (h0 : zs ≠ []) : parseN (numsOf zs) = some zs := by
  cases zs with
  | nil => exact absurd rfl h0
  | cons r rs =>
    have e1 : r.2 - (r.2 - r.1) = r.1 := by omega
    have b := h.2.1 r (by simp)
    simp only [numsOf, parseN, e1, pairs_tail, tailN_length]
    rw [if_pos ⟨by omega, lastLo_tail rs r.1 b.1 (fun s hs => (h.2.1 s (by simp [hs])).1)⟩]
theorem pairs_ok : ∀ (k : Nat) (rest : List Int) (lo : Int), rest.length = 2 * k → Mays rest → 0 ≤ lastLo lo rest →
    tailN lo (pairs lo rest) = rest ∧ (pairs lo rest).length = k ∧ 0 ≤ lo ∧ (∀ r, r ∈ pairs lo rest → 0 ≤ r.1 ∧ r.2 + 1 < lo) ∧ Norm (pairs lo rest) := by
  intro k
  induction k with
  | zero =>
    intro rest lo hl _ h
    obtain rfl : rest = [] := List.eq_nil_of_length_eq_zero (by omega)
    exact ⟨rfl, rfl, h, fun r hr => by simp [pairs] at hr, trivial⟩
  | succ k ih =>
    intro rest lo hl hm h
    match rest, hl, hm, h with
    | [], hl, _, _ => simp at hl
    | [a], hl, _, _ => simp at hl; omega
    | a :: b :: rest, hl, hm, h =>
      have ma := hm a (by simp)
      have mb := hm b (by simp)
      obtain ⟨i1, i2, i3, i4, i5⟩ := ih rest (lo - a - 2 - b) (by simp at hl; omega) (fun z hz => hm z (by simp [hz])) h
      have e1 : lo - (lo - a - 2) - 2 = a := by omega
      have e2 : lo - a - 2 - (lo - a - 2 - b) = b := by omega
      refine ⟨by simp only [pairs, tailN, e1, e2, i1], by simp only [pairs, List.length_cons, i2], by omega, fun r hr => ?_, ?_⟩
      · simp only [pairs, List.mem_cons] at hr
        rcases hr with rfl | hr
        · exact ⟨i3, by show lo - a - 2 + 1 < lo; omega⟩
        · have := i4 r hr
          exact ⟨this.1, by omega⟩
      · exact ⟨by show lo - a - 2 - b ≤ lo - a - 2; omega, fun s hs => (i4 s hs).2, i5⟩
theorem parseN_inv {ns : List Int} {zs : List R} (hm : Mays ns) (hl : ns.length ≤ 25) (h : parseN ns = some zs) : zs ≠ [] ∧ Good zs ∧ ns = numsOf zs := by
  match ns, hm, hl, h with
  | [], _, _, h => simp [parseN] at h
  | [_], _, _, h => simp [parseN] at h
  | [_, _], _, _, h => simp [parseN] at h
  | hi :: m :: d :: rest, hm, hl, h =>
    have mh := hm hi (by simp)
    have mm := hm m (by simp)
    have md := hm d (by simp)
    simp only [parseN] at h
    split at h
    · rename_i hc
      cases h
      obtain ⟨k, hk⟩ : ∃ k : Nat, rest.length = 2 * k := ⟨m.toNat, by omega⟩
      obtain ⟨i1, i2, i3, i4, i5⟩ := pairs_ok k rest (hi - d) hk (fun z hz => hm z (by simp [hz])) hc.2
      have e1 : hi - (hi - d) = d := by omega
      simp only [List.length_cons] at hl
      refine ⟨by simp, ⟨by simp only [List.length_cons, i2]; omega, fun r hr => ?_, ⟨by show hi - d ≤ hi; omega, fun s hs => (i4 s hs).2, i5⟩⟩, ?_⟩
      · rcases List.mem_cons.1 hr with rfl | hr
        · exact ⟨i3, by show hi ≤ 1073741823; omega⟩
        · have := i4 r hr
          exact ⟨this.1, by omega⟩
      · simp only [numsOf, i1, i2, e1]
        rw [show (k : Int) = m by omega]
    · cases h
/-- Bytes are read as ranges just where these are right, there is one, and the bytes are theirs. -/
theorem parse_iff {l : List Int} (hl : Bytes l) (zs : List R) : parse l = some zs ↔ zs ≠ [] ∧ Good zs ∧ l = enc zs := by
  unfold parse
  constructor
  · intro h
    cases hr : rd 25 l with
    | none => rw [hr] at h; cases h
    | some ns =>
      rw [hr] at h
      obtain ⟨e1, e2, e3⟩ := rd_inv 25 l ns hl hr
      obtain ⟨f1, f2, f3⟩ := parseN_inv e2 e3 h
      exact ⟨f1, f2, by rw [e1, f3]; rfl⟩
  · rintro ⟨h0, hg, rfl⟩
    unfold enc
    rw [rd_back _ 25 (mays_nums hg) (numsOf_length hg)]
    exact parseN_back hg h0
theorem bytes_nums {ns : List Int} (h : Mays ns) : Bytes (ns.flatMap V.nums) := by
  intro z hz
  rw [List.mem_flatMap] at hz
  obtain ⟨n, hn, hz⟩ := hz
  exact V.nums_bd n ((mayB_iff n).2 (h n hn)) z hz
theorem bytes_enc {zs : List R} (h : Good zs) : Bytes (enc zs) := bytes_nums (mays_nums h)
theorem mays_all {ns : List Int} (h : Mays ns) : ns.all V.mayB = true := List.all_eq_true.2 fun z hz => (mayB_iff z).2 (h z hz)

theorem flat_le (ns : List Int) : (ns.flatMap V.nums).length ≤ 4 * ns.length := by
  induction ns with
  | nil => simp
  | cons n ns ih =>
    have := V.nums_length_le n
    simp only [List.flatMap_cons, List.length_append, List.length_cons]
    omega
/-- No more than eight bytes for each range, and one more. -/
theorem enc_length {zs : List R} (h : Good zs) (h0 : zs ≠ []) : (enc zs).length ≤ 8 * zs.length + 1 := by
  cases zs with
  | nil => exact absurd rfl h0
  | cons r rs =>
    have h1 := h.1
    simp only [List.length_cons] at h1
    have e1 : (V.nums (rs.length : Int)).length = 1 := by
      have : ((rs.length : Nat) : Int) < 64 := by omega
      simp [V.nums, this]
    have a := V.nums_length_le r.2
    have b := V.nums_length_le (r.2 - r.1)
    have c := flat_le (tailN r.1 rs)
    rw [tailN_length] at c
    simp only [enc, numsOf, List.flatMap_cons, List.length_append, List.length_cons, e1]
    omega
end Go.Proofs.YtdokgalidhmbbaaGreatDoor
namespace Go.Proofs.YtdokgalidhmbbaaGreatDoor
open Go.RowKit Go.Lib Go.Sort

def ivs (xs : List Int) : List Value := xs.map (Value.int .i64)
theorem ivs_append (a b : List Int) : ivs (a ++ b) = ivs a ++ ivs b := by simp [ivs]
theorem infoI : (Tryz.prog.info? 3).map (fun i => (i.zero, i.size, i.bytes)) = some (some (.int .i64 0), 1, 8) := by kernel_rfl
abbrev OwnI (w : World) (base : Nat) (v : Value) (xs : List Int) : Prop := w.ownsRow base 3 1 v xs.length (ivs xs)
theorem OwnI.cell {w : World} {base g n cap : Nat} {xs : List Int} (h : OwnI w base (.slice (some ⟨g, 0, none⟩) n cap) xs) (j : Nat) (hj : j < xs.length) : w.cell? ⟨g, j, none⟩ = some (.int .i64 (xs[j]?.getD 0)) := by
  have := h.cells (g := g) rfl j (.int .i64 (xs[j]?.getD 0)) (by simp [ivs, hj])
  rw [Addr.add_lit, Nat.zero_add] at this
  exact this
/-- append(all, a few numbers that were just laid). -/
theorem append_ints {w : World} {ops : Array Oper} {rest : List Oper} {o : Oper} {a : Act} {Q : Exit → Act → World → Prop} (hgd : o.guard = none) (s x : Operand)
    (ho : o.op = .call { callee := .builtin .append, args := #[s, x], argTypes := #[54, 54] }) (base : Nat) (v : Value) (xs : List Int) (hs : a.eval s = v) (hown : OwnI w base v xs)
    (ad : Addr) (m c : Nat) (ys : List Int) (hx : a.eval x = .slice (some ad) m c) (hm : ys.length = m) (hc : ∀ j u, (ivs ys)[j]? = some u → w.cell? (ad.add j) = some u) (hn : xs.length + ys.length ≤ 1000000) (hbase : base ≤ w.heap.size)
    (h : ∀ v' w', OwnI w' base v' (xs ++ ys) → w.grownBy w' v.ownBlock → wpList Tryz.prog ops Q rest (a.put o.dst v') w') : wpList Tryz.prog ops Q (o :: rest) a w := by
  obtain ⟨i0, hi, hz0, hz1, hz2⟩ := info_parts infoI
  subst hm
  refine wpList_append_own _ hgd s x 54 ho base 3 i0 _ 1 8 Tryz.underlying54 hi hz0 hz1 hz2 rfl (by decide) v xs.length (ivs xs) hs hown ad ys.length c (ivs ys) hx (by simp [ivs]) hc (fun u hu => by
    simp only [ivs, List.mem_map] at hu
    obtain ⟨z, _, rfl⟩ := hu
    rfl) (by unfold maxLen; omega) (by omega) hbase ?_
  intro v' w' h1 hg _
  refine h v' w' ?_ hg
  show w'.ownsRow base 3 1 v' (xs ++ ys).length (ivs (xs ++ ys))
  rw [ivs_append, List.length_append]
  exact h1
theorem OwnI.below {w w' : World} {base : Nat} {v : Value} {xs : List Int} (h : OwnI w base v xs) (hb : Below w.heap.size w w') : OwnI w' base v xs := own_below h hb
theorem OwnI.form {w : World} {base : Nat} {v : Value} {xs : List Int} (h : OwnI w base v xs) (h0 : xs ≠ []) : ∃ g cap, v = .slice (some ⟨g, 0, none⟩) xs.length cap ∧ xs.length ≤ cap ∧ base ≤ g ∧ g < w.heap.size := by
  rcases h.2 with ⟨_, h1⟩ | ⟨g, cap, cur, rfl, hb, hg, hl, _⟩
  · exact absurd (List.eq_nil_of_length_eq_zero h1) h0
  · exact ⟨g, cap, rfl, hl, hb, (Array.getElem?_eq_some_iff.1 hg).1⟩

theorem cells_two (W : World) (a b : Int) : ∀ j u, (ivs [a, b])[j]? = some u → (W.alloc (.cells #[.int .i64 a, .int .i64 b] 3)).cell? ((⟨W.heap.size, 0, none⟩ : Addr).add j) = some u := by
  intro j u h
  match j, h with
  | 0, h => simp [ivs] at h; subst h; simp [Addr.add]
  | 1, h => simp [ivs] at h; subst h; simp [Addr.add]
  | j + 2, h => simp [ivs] at h
theorem cells_one (W : World) (a : Int) : ∀ j u, (ivs [a])[j]? = some u → (W.alloc (.cells #[.int .i64 a] 3)).cell? ((⟨W.heap.size, 0, none⟩ : Addr).add j) = some u := by
  intro j u h
  match j, h with
  | 0, h => simp [ivs] at h; subst h; simp [Addr.add]
  | j + 1, h => simp [ivs] at h

/-- Block B is a range's box. -/
def Box2 (W : World) (B : Nat) (a b : Int) : Prop := W.heap[B]? = some (.cells #[.int .i64 a, .int .i64 b] 143 (0, 0))
theorem Box2.lt {W : World} {B : Nat} {a b : Int} (h : Box2 W B a b) : B < W.heap.size := (Array.getElem?_eq_some_iff.1 h).1
theorem Box2.c0 {W : World} {B : Nat} {a b : Int} (h : Box2 W B a b) : W.cell? ⟨B, 0, none⟩ = some (.int .i64 a) := by simp [World.cell?, show W.heap[B]? = _ from h]
theorem Box2.c1 {W : World} {B : Nat} {a b : Int} (h : Box2 W B a b) : W.cell? ⟨B, 1, none⟩ = some (.int .i64 b) := by simp [World.cell?, show W.heap[B]? = _ from h]
theorem Box2.f0 {W : World} {B : Nat} {a b : Int} (h : Box2 W B a b) : W.frozen? ⟨B, 0, none⟩ = false := by simp [World.frozen?, show W.heap[B]? = _ from h]
theorem Box2.f1 {W : World} {B : Nat} {a b : Int} (h : Box2 W B a b) : W.frozen? ⟨B, 1, none⟩ = false := by simp [World.frozen?, show W.heap[B]? = _ from h]
theorem Box2.kept {W W' : World} {row : Option Nat} {B : Nat} {a b : Int} (h : Box2 W B a b) (hg : W.grownBy W' row) (hne : some B ≠ row) : Box2 W' B a b := (hg.block B h.lt hne).trans h
theorem Box2.alloc {W : World} {B : Nat} {a b : Int} (h : Box2 W B a b) (o : Obj) : Box2 (W.alloc o) B a b := h.kept (World.grownBy_alloc W o none) (by simp)
theorem Box2.new (W : World) (a b : Int) : Box2 (W.alloc (.cells #[.int .i64 a, .int .i64 b] 143)) W.heap.size a b := World.alloc_heap_new W _
theorem set_block {W : World} {B : Nat} {cs : Array Value} {t : TypeId} (h : W.heap[B]? = some (.cells cs t (0, 0))) (j : Nat) (u : Value) : (W.setCell ⟨B, j, none⟩ u).heap[B]? = some (.cells (cs.setIfInBounds j u) t (0, 0)) := by
  obtain ⟨hlt, hk⟩ := Array.getElem?_eq_some_iff.1 h
  show (W.heap.modify B _)[B]? = _
  rw [Array.getElem?_eq_getElem (by rw [Array.size_modify]; exact hlt), Array.getElem_modify_self, hk]
  rfl
theorem Box2.set {W : World} {B : Nat} {a b : Int} (h : Box2 W B a b) (c d : Int) : Box2 ((W.setCell ⟨B, 0, none⟩ (.int .i64 c)).setCell ⟨B, 1, none⟩ (.int .i64 d)) B c d :=
  set_block (set_block h 0 (.int .i64 c)) 1 (.int .i64 d)

/-- Where the last of ranges begins; p if there is none. -/
def lst : Int → List R → Int
  | p, [] => p
  | _, r :: rs => lst r.1 rs
theorem lst_snoc : ∀ (xs : List R) (p : Int) (r : R), lst p (xs ++ [r]) = r.1
  | [], _, _ => rfl
  | x :: xs, _, r => lst_snoc xs x.1 r
theorem tailN_snoc : ∀ (xs : List R) (p : Int) (r : R), tailN p (xs ++ [r]) = tailN p xs ++ [lst p xs - r.2 - 2, r.2 - r.1]
  | [], _, _ => rfl
  | x :: xs, p, r => by simp only [List.cons_append, tailN, lst, tailN_snoc xs x.1 r]
theorem lst_mem : ∀ (xs : List R) (p : Int), lst p xs = p ∨ ∃ r, r ∈ xs ∧ lst p xs = r.1
  | [], _ => .inl rfl
  | x :: xs, p => by
    rcases lst_mem xs x.1 with h | ⟨r, hr, h⟩
    · exact .inr ⟨x, by simp, h⟩
    · exact .inr ⟨r, by simp [hr], h⟩
theorem take_at {zs : List R} {k : Nat} (h : k < zs.length) : zs.take (k + 1) = zs.take k ++ [at' zs k] := by
  rw [List.take_succ_eq_append_getElem h]; simp [at', h]

/-- The numbers when k ranges behind the first are told. -/
def part (r : R) (rs : List R) (k : Nat) : List Int := r.2 :: (rs.length : Int) :: (r.2 - r.1) :: tailN r.1 (rs.take k)
theorem part_all (r : R) (rs : List R) : part r rs rs.length = numsOf (r :: rs) := by simp [part, numsOf]
theorem part_zero (r : R) (rs : List R) : part r rs 0 = [r.2, (rs.length : Int), r.2 - r.1] := by simp [part, tailN]
theorem part_succ (r : R) (rs : List R) (k : Nat) (h : k < rs.length) : part r rs (k + 1) = part r rs k ++ [lst r.1 (rs.take k) - (at' rs k).2 - 2, (at' rs k).2 - (at' rs k).1] := by
  simp only [part, take_at h, tailN_snoc, List.cons_append]
theorem part_length (r : R) (rs : List R) (k : Nat) (h : k ≤ rs.length) : (part r rs k).length = 3 + 2 * k := by
  simp only [part, List.length_cons, tailN_length, List.length_take]; omega

theorem all_own (w : World) (base : Nat) (v : Value) (ns : List Int) (hF : V.Forms w) (h : OwnI w base v ns) (h0 : ns ≠ []) (hl : ns.length ≤ 40) (hm : Mays ns) :
    Calls Tryz.prog 225 #[v] w fun e w' => e = .returned (.tuple #[.string (strOfNums (ns.flatMap V.nums)), .nilIface]) ∧ Below w.heap.size w w' := by
  obtain ⟨g, cap, rfl, _, _, hg⟩ := h.form h0
  refine (V.all_some g 0 ns.length cap ns w hF rfl hl hg (fun j hj => by rw [Nat.zero_add]; exact h.cell j hj)).mono ?_
  rintro e w' ⟨⟨_, rfl⟩ | ⟨ha, _⟩, hb⟩
  · exact ⟨rfl, hb⟩
  · rw [mays_all hm] at ha; cases ha

set_option maxRecDepth 100000 in
set_option maxHeartbeats 2000000 in
theorem print_some (b off len cap : Nat) (r : R) (rs : List R) (w : World) (hF : V.Forms w) (hlen : rs.length + 1 = len) (hcap : len ≤ cap) (hg : Good (r :: rs)) (hb : b < w.heap.size) (hc : Cells w b off (r :: rs)) :
    Calls Tryz.prog 224 #[.slice (some ⟨b, off, none⟩) len cap] w fun e w' => e = .returned (.tuple #[.string (strOfNums (enc (r :: rs))), .nilIface]) ∧ Below w.heap.size w w' := by
  have hl12 : rs.length + 1 ≤ 12 := by have := hg.1; simp at this; omega
  have HC := check_calls (.slice (some ⟨b, off, none⟩) len cap) (r :: rs) w ⟨some ⟨b, off, none⟩, cap, by simp [hlen], by simp; omega, (fun h => by cases h), .inr ⟨b, off, rfl, hb, hc⟩⟩
  rw [(chk_ok _).2 hg, errV0] at HC
  have HG : Hid (Good (r :: rs)) := hg
  have HS : Hid (Cells w b off (r :: rs)) := hc
  have HL : Hid (rs.length + 1 = len) := hlen
  have hz : ((len : Int) == 0) = false := by simp; omega
  have hl1 : (1 : Int) ≤ (len : Int) := by omega
  have bd0 : 0 ≤ r.1 ∧ r.1 ≤ r.2 ∧ r.2 ≤ 1073741823 := by have := hg.2.1 r (by simp); exact ⟨this.1, hg.2.2.1, this.2⟩
  have hl0 : 0 < len := by omega
  have hl' : len ≤ 12 := by omega
  clear hg hc hlen hl12
  go_enter Tryz.func224, Tryz.ntmps224
  go_wp2_with fail
  refine HC.mono ?_
  rintro e w1 ⟨rfl, hb1⟩
  have c0 := (HS.out.below hb hb1 0 (by simp)).1
  have c1 := (HS.out.below hb hb1 0 (by simp)).2
  have hF1 := hF.below hb1
  rw [show at' (r :: rs) 0 = r from rfl] at c0 c1
  simp only [Nat.zero_mul, Nat.add_zero] at c0 c1
  clear HC
  have h1s := hb1.size
  have gL : (len : Int) ≠ 0 := by omega
  by_cases hr1 : cap = 1
  · have hl1' : len = 1 := by omega
    subst hl1'
    subst hr1
    have hrs : rs = [] := List.eq_nil_of_length_eq_zero (by have := HL.out; omega)
    subst hrs
    go_wp2_with fail
    refine wp_loop_rounds 1 ?_
    rw [rounds_succ]
    go_wp2_with fail
    have bel1 : Below w.heap.size w ((w1.alloc (.cells #[.int .i64 r.1, .int .i64 r.2] 143)).alloc (.cells #[.int .i64 r.2, .int .i64 0, .int .i64 (r.2 - r.1)] 3)) := (hb1.alloc h1s _).alloc (by simp; omega) _
    have bel2 : Below w1.heap.size w1 ((w1.alloc (.cells #[.int .i64 r.1, .int .i64 r.2] 143)).alloc (.cells #[.int .i64 r.2, .int .i64 0, .int .i64 (r.2 - r.1)] 3)) := ((Below.refl _ w1).alloc (Nat.le_refl _) _).alloc (by simp) _
    have ow : OwnI ((w1.alloc (.cells #[.int .i64 r.1, .int .i64 r.2] 143)).alloc (.cells #[.int .i64 r.2, .int .i64 0, .int .i64 (r.2 - r.1)] 3)) (w1.heap.size + 1) (.slice (some ⟨w1.heap.size + 1, 0, none⟩) 3 3) (numsOf [r]) := by
      have := World.ownsRow_lit (base := w1.heap.size + 1) (e := 3) (size := 1) (w1.alloc (.cells #[.int .i64 r.1, .int .i64 r.2] 143)) #[.int .i64 r.2, .int .i64 0, .int .i64 (r.2 - r.1)] 3 (by simp) (by decide) rfl
      rw [World.size_alloc] at this
      exact this
    refine (all_own _ _ _ _ (hF1.below bel2) ow (by simp [numsOf]) (by have := numsOf_length HG.out; omega) (mays_nums HG.out)).mono ?_
    rintro e w2 ⟨rfl, hb2⟩
    have hB := bel1.trans (hb2.mono bel1.size)
    go_wp2_with fail
    go_ret2
    exact ⟨rfl, hB⟩
  · have hcz : ¬ cap = 1 := hr1
    go_wp2_with fail
    have bel1 : Below w.heap.size w ((w1.alloc (.cells #[.int .i64 r.1, .int .i64 r.2] 143)).alloc (.cells #[.int .i64 r.2, .int .i64 ((len : Int) - 1), .int .i64 (r.2 - r.1)] 3)) := (hb1.alloc h1s _).alloc (by simp; omega) _
    have bel2 : Below w1.heap.size w1 ((w1.alloc (.cells #[.int .i64 r.1, .int .i64 r.2] 143)).alloc (.cells #[.int .i64 r.2, .int .i64 ((len : Int) - 1), .int .i64 (r.2 - r.1)] 3)) := ((Below.refl _ w1).alloc (Nat.le_refl _) _).alloc (by simp) _
    have ow : OwnI ((w1.alloc (.cells #[.int .i64 r.1, .int .i64 r.2] 143)).alloc (.cells #[.int .i64 r.2, .int .i64 ((len : Int) - 1), .int .i64 (r.2 - r.1)] 3)) (w1.heap.size + 1) (.slice (some ⟨w1.heap.size + 1, 0, none⟩) 3 3) (part r rs 0) := by
      have := World.ownsRow_lit (base := w1.heap.size + 1) (e := 3) (size := 1) (w1.alloc (.cells #[.int .i64 r.1, .int .i64 r.2] 143)) #[.int .i64 r.2, .int .i64 ((len : Int) - 1), .int .i64 (r.2 - r.1)] 3 (by simp) (by decide) rfl
      rw [World.size_alloc] at this
      rw [part_zero, show ((rs.length : Nat) : Int) = (len : Int) - 1 by have := HL.out; omega]
      exact this
    have bx : Box2 ((w1.alloc (.cells #[.int .i64 r.1, .int .i64 r.2] 143)).alloc (.cells #[.int .i64 r.2, .int .i64 ((len : Int) - 1), .int .i64 (r.2 - r.1)] 3)) w1.heap.size (lst r.1 (rs.take 0)) r.2 := (Box2.new w1 r.1 r.2).alloc _
    have hsz : ((w1.alloc (.cells #[.int .i64 r.1, .int .i64 r.2] 143)).alloc (.cells #[.int .i64 r.2, .int .i64 ((len : Int) - 1), .int .i64 (r.2 - r.1)] 3)).heap.size = w1.heap.size + 2 := by simp
    generalize (w1.alloc (.cells #[.int .i64 r.1, .int .i64 r.2] 143)).alloc (.cells #[.int .i64 r.2, .int .i64 ((len : Int) - 1), .int .i64 (r.2 - r.1)] 3) = W0 at *
    clear c0 c1
    generalize hm : len - 1 = m
    have HM : Hid (rs.length = m) := by show _ = _; have := HL.out; omega
    have hml : m + 1 = len := by omega
    clear hm hz hl1 gL
    go_loopw [6, 35] (fun v i wr => ∃ (k : Nat) (ah : Int), k ≤ m ∧ i = .int .i64 k ∧ OwnI wr (w1.heap.size + 1) v (part r rs k) ∧ Box2 wr w1.heap.size (lst r.1 (rs.take k)) ah ∧ Below w.heap.size w wr ∧ Below w1.heap.size w1 wr) (fun _ i _ => m - (intOf i).toNat)
    case atStart => exact ⟨0, r.2, Nat.zero_le _, rfl, ow, bx, bel1, bel2⟩
    case round =>
      obtain ⟨k, ah, hk, rfl, hown, hbx, hB, hB1⟩ := hrel
      by_cases hlt : k < m
      · have g1 : (k : Int) < (m : Int) := by omega
        have hkr : k < rs.length := by have := HM.out; omega
        have cc := HS.out.below hb hB (k + 1) (by simp; omega)
        rw [show at' (r :: rs) (k + 1) = at' rs k by simp [at']] at cc
        have e0 : off + (k + 1) * 2 = off + 2 + k * 2 := by omega
        rw [e0] at cc
        obtain ⟨c0, c1⟩ := cc
        have HP : Hid (part r rs (k + 1) = part r rs k ++ [lst r.1 (rs.take k) - (at' rs k).2 - 2, (at' rs k).2 - (at' rs k).1]) := part_succ r rs k hkr
        have HQ : Hid (lst r.1 (rs.take (k + 1)) = (at' rs k).1) := by show _ = _; rw [take_at hkr, lst_snoc]
        have bd : 0 ≤ (at' rs k).1 ∧ (at' rs k).1 ≤ (at' rs k).2 ∧ (at' rs k).2 ≤ 1073741823 := by
          have hm := at_mem hkr
          have := HG.out.2.1 _ (List.mem_cons_of_mem _ hm)
          exact ⟨this.1, norm_le HG.out.2.2.2.2 _ hm, this.2⟩
        have bq : 0 ≤ lst r.1 (rs.take k) ∧ lst r.1 (rs.take k) ≤ 1073741823 := by
          rcases lst_mem (rs.take k) r.1 with h | ⟨s, hs, h⟩
          · rw [h]; omega
          · have hm := List.mem_of_mem_take hs
            have := HG.out.2.1 _ (List.mem_cons_of_mem _ hm)
            have := norm_le HG.out.2.2.2.2 _ hm
            omega
        have HN : Hid ((part r rs k).length = 3 + 2 * k) := part_length r rs k (by omega)
        clear hkr e0
        generalize lst r.1 (rs.take k) = q at *
        generalize hrr : at' rs k = x at *
        clear hrr
        obtain ⟨lo, hi⟩ := x
        simp only at c0 c1 HP HQ bd
        have d0 := hbx.c0
        have d1 := hbx.c1
        have hbr : b < wr.heap.size := Nat.lt_of_lt_of_le hb hB.size
        have hs1 := hB1.size
        have hlx := hbx.lt
        have own1 := (hown.alloc (.cells #[.int .i64 lo, .int .i64 hi] 143)).alloc (.cells #[.int .i64 (q - hi - 2), .int .i64 (hi - lo)] 3)
        have hlo := hown.lt
        have cs2 := cells_two (wr.alloc (.cells #[.int .i64 lo, .int .i64 hi] 143)) (q - hi - 2) (hi - lo)
        rw [World.size_alloc] at cs2
        have CS : Hid (∀ j u, (ivs [q - hi - 2, hi - lo])[j]? = some u → ((wr.alloc (.cells #[.int .i64 lo, .int .i64 hi] 143)).alloc (.cells #[.int .i64 (q - hi - 2), .int .i64 (hi - lo)] 3)).cell? ((⟨wr.heap.size + 1, 0, none⟩ : Addr).add j) = some u) := cs2
        clear cs2
        go_wp2_with (at_builtin; refine append_ints rfl (.tmp 39) (.tmp 51) rfl (w1.heap.size + 1) _ (part r rs k) rfl own1 ⟨wr.heap.size + 1, 0, none⟩ 2 2 [q - hi - 2, hi - lo] rfl rfl CS.out (by rw [HN.out]; simp; omega) (by simp; omega) ?_; intro v2 w2 hown2 hg2; have bx2 := ((hbx.alloc _).alloc _).kept hg2 (fun e => by have := (hlo _ e.symm).1; omega); have rb2 := ((Box2.new wr lo hi).alloc _).kept hg2 (fun e => by have := (hlo _ e.symm).2; omega); have z0 := bx2.c0; have z1 := bx2.c1; have z2 := bx2.f0; have z3 := bx2.f1; have y0 := rb2.c0; have y1 := rb2.c1)
        have hB2 : Below w.heap.size w w2 := ((hB.alloc hB.size _).alloc (by simp; have := hB.size; omega) _).grown hg2 (by simp; have := hB.size; omega) (fun j e => by have := (hlo j e).1; omega)
        have hB3 : Below w1.heap.size w1 w2 := ((hB1.alloc hB1.size _).alloc (by simp; omega) _).grown hg2 (by simp; omega) (fun j e => by have := (hlo j e).1; omega)
        have hov := hown2.lt
        have hne : v2.ownBlock ≠ some w1.heap.size := fun e => by have := (hov _ e).1; omega
        refine ⟨⟨k + 1, hi, by omega, by go_num, ?_, ?_, ?_, ?_⟩, by simp [intOf]; omega⟩
        · rw [HP.out]; exact ownsRow_setCell_other (ownsRow_setCell_other hown2 hne _) hne _
        · rw [HQ.out]; exact bx2.set lo hi
        · exact (hB2.setCell (p := ⟨w1.heap.size, 0, none⟩) h1s _).setCell (p := ⟨w1.heap.size, 1, none⟩) h1s _
        · exact (hB3.setCell (p := ⟨w1.heap.size, 0, none⟩) (Nat.le_refl _) _).setCell (p := ⟨w1.heap.size, 1, none⟩) (Nat.le_refl _) _
      · obtain rfl : k = m := by omega
        have hP : part r rs k = numsOf (r :: rs) := by rw [← HM.out]; exact part_all r rs
        rw [hP] at hown
        clear hP
        have HO : Hid (OwnI wr (w1.heap.size + 1) u6 (numsOf (r :: rs))) := hown
        obtain ⟨g, cp, rfl, _⟩ := hown.form (by simp [numsOf])
        clear hown
        go_wp2_with fail
        refine (all_own _ _ _ _ (hF1.below hB1) HO.out (by simp [numsOf]) (by have := numsOf_length HG.out; omega) (mays_nums HG.out)).mono ?_
        rintro e w2 ⟨rfl, hb2⟩
        have hB2 := hB.trans (hb2.mono hB.size)
        go_wp2_with fail
        go_ret2
        exact ⟨rfl, hB2⟩

/-- A slice's capacity is no less than its length. -/
def Fits (v : Value) : Prop := ∀ a l c, v = .slice a l c → l ≤ c
theorem print_ok (v : Value) (zs : List R) (w : World) (hF : V.Forms w) (hR : Row w v zs) (hf : Fits v) (hg : Good zs) (h0 : zs ≠ []) :
    Calls Tryz.prog 224 #[v] w fun e w' => e = .returned (.tuple #[.string (strOfNums (enc zs)), .nilIface]) ∧ Below w.heap.size w w' := by
  obtain ⟨ao, c, rfl, hl, hn, h⟩ := hR
  rcases h with h | ⟨b, off, rfl, hb, hc⟩
  · exact absurd h h0
  · cases zs with
    | nil => exact absurd rfl h0
    | cons r rs => exact print_some b off _ c r rs w hF rfl (hf _ _ _ rfl) hg hb hc
theorem fits_own {w : World} {base e size n : Nat} {v : Value} {xs : List Value} (h : w.ownsRow base e size v n xs) : Fits v := by
  rcases h.2 with ⟨rfl, _⟩ | ⟨g, cap, cur, rfl, hb, hg, hl, _⟩
  · intro a l c e; cases e; exact Nat.le_refl _
  · intro a l c e; cases e; exact hl

def strLen : Value → Nat
  | .string s => s.size
  | _ => 0
theorem strLen_eq (s : ByteArray) : strLen (.string s) = s.size := rfl
theorem ints_length (s : ByteArray) : (V.ints s).length = s.size := by
  simp [V.ints]
theorem ints_drop (s : ByteArray) (k : Nat) (hk : k ≤ s.size) : V.ints (s.extract k s.size) = (V.ints s).drop k := by
  obtain ⟨⟨l⟩⟩ := s
  have e : (⟨⟨l⟩⟩ : ByteArray).size = l.length := rfl
  rw [e] at hk ⊢
  simp only [V.ints, ByteArray.extract, ByteArray.copySlice, ByteArray.empty]
  simp [List.map_drop]
  rw [List.take_of_length_le (by simp)]
theorem ints_inj {s t : ByteArray} (h : V.ints s = V.ints t) : s = t := by
  rw [← V.str_ints s, ← V.str_ints t]; exact congrArg _ h
theorem OwnI.shape {w : World} {base : Nat} {v : Value} {xs : List Int} (h : OwnI w base v xs) : ∃ a c, v = .slice a xs.length c := by
  rcases h.2 with ⟨rfl, h1⟩ | ⟨g, cap, cur, rfl, _⟩
  · exact ⟨none, 0, by rw [h1]⟩
  · exact ⟨_, cap, rfl⟩
def errS : Value := .iface 133 (.int .i64 2)

set_option maxRecDepth 100000 in
set_option maxHeartbeats 2000000 in
theorem numbers_calls (s : ByteArray) (w : World) (hF : V.Forms w) (hl : s.size ≤ maxLen) :
    Calls Tryz.prog 246 #[.string s] w fun e w' => ((rd 25 (V.ints s) = none ∧ e = .returned (.tuple #[.slice none 0 0, errS])) ∨ (∃ ns v, rd 25 (V.ints s) = some ns ∧ e = .returned (.tuple #[v, .nilIface]) ∧ OwnI w' w.heap.size v ns)) ∧ Below w.heap.size w w' := by
  unfold maxLen at hl
  go_enter Tryz.func246, Tryz.ntmps246
  go_wp2_with fail
  go_loopw [0, 4] (fun u v wr => ∃ (t : ByteArray) (ns : List Int), u = .string t ∧ OwnI wr w.heap.size v ns ∧ Hid (rd 25 (V.ints s) = (rd (25 - ns.length) (V.ints t)).map (ns ++ ·)) ∧ ns.length ≤ 25 ∧ t.size ≤ 9223372036854775807 ∧ Below w.heap.size w wr) (fun u _ _ => strLen u)
  case atStart => exact ⟨s, [], rfl, World.ownsRow_nil _ _ _ _, (show rd 25 (V.ints s) = (rd 25 (V.ints s)).map ([] ++ ·) by simp), by simp, hl, Below.refl _ _⟩
  case round =>
    obtain ⟨t, ns, rfl, hown, hE, hn, hts, hB⟩ := hrel
    by_cases h0 : t.size = 0
    · have e1 : V.ints t = [] := List.eq_nil_of_length_eq_zero (by rw [ints_length]; exact h0)
      have HE : Hid (rd 25 (V.ints s) = some ns) := by show _ = _; rw [hE.out, e1, rd_nil]; simp
      have g0 : ¬ (0 : Int) < (t.size : Int) := by omega
      obtain ⟨a4, c4, rfl⟩ := hown.shape
      clear hE e1
      go_wp2_with fail
      go_ret2
      exact ⟨.inr ⟨ns, HE.out, _, rfl, hown⟩, hB⟩
    · have g0 : (0 : Int) < (t.size : Int) := by omega
      have hne : V.ints t ≠ [] := fun e => h0 (by rw [← ints_length, e]; rfl)
      obtain ⟨a4, c4, rfl⟩ := hown.shape
      by_cases h25 : ns.length = 25
      · have HE : Hid (rd 25 (V.ints s) = none) := by
          show _ = _
          rw [hE.out, h25]
          cases he : V.ints t with
          | nil => exact absurd he hne
          | cons b l => rfl
        have g25 : ((ns.length : Nat) : Int) = 25 := by omega
        clear hE hne
        go_wp2_with fail
        go_ret2
        exact ⟨.inl ⟨HE.out, rfl⟩, hB⟩
      · have g25 : (((ns.length : Nat) : Int) == 25) = false := by simp; omega
        have HG := V.get_all t wr (hF.below hB) (by unfold maxLen; exact hts)
        cases hg : V.getI (V.ints t) with
        | none =>
          rw [hg] at HG
          have HE : Hid (rd 25 (V.ints s) = none) := by show _ = _; rw [hE.out, rd_none hne hg]; rfl
          clear hE hne hg
          simp only [V.getV] at HG
          go_wp2_with fail
          refine HG.mono ?_
          rintro e w1 ⟨rfl, hb1⟩
          have hB1 := hB.trans (hb1.mono hB.size)
          go_wp2_with fail
          go_ret2
          exact ⟨.inl ⟨HE.out, rfl⟩, hB1⟩
        | some p =>
          obtain ⟨n, c⟩ := p
          rw [hg] at HG
          obtain ⟨hm, hc, he⟩ := getI_inv (bytes_ints t) hg
          have hcl := V.lng_bd n
          have hle : c.toNat ≤ t.size := by
            have := congrArg List.length he
            rw [List.length_append, List.length_drop, ints_length] at this
            have := nums_lng n
            omega
          have hk : 25 - ns.length = (25 - (ns ++ [n]).length) + 1 := by simp; omega
          have HE : Hid (rd 25 (V.ints s) = (rd (25 - (ns ++ [n]).length) (V.ints (t.extract c.toNat t.size))).map ((ns ++ [n]) ++ ·)) := by
            show _ = _
            rw [hE.out, hk, rd_some hne hg, ints_drop t _ hle]
            cases rd (25 - (ns ++ [n]).length) ((V.ints t).drop c.toNat) <;> simp
          have gc0 : 0 ≤ c := by omega
          have gc1 : c ≤ (t.size : Int) := by omega
          have hts2 : (t.extract c.toNat t.size).size = t.size - c.toNat := by simp
          have hn2 : (ns ++ [n]).length ≤ 25 := by simp; omega
          have hc1 : 1 ≤ c.toNat := by omega
          clear hE hne hg hm hc he hk
          simp only [V.getV] at HG
          go_wp2_with fail
          refine HG.mono ?_
          rintro e w1 ⟨rfl, hb1⟩
          have hB1 := hB.trans (hb1.mono hB.size)
          have hs1 := hB1.size
          have own1 := (hown.below hb1).alloc (.cells #[.int .i64 n] 3)
          have hlo := (hown.below hb1).lt
          clear HG
          go_wp2_with (at_builtin; refine append_ints rfl (.tmp 24) (.tmp 26) rfl w.heap.size _ ns rfl own1 ⟨w1.heap.size, 0, none⟩ 1 1 [n] rfl rfl (cells_one w1 n) (by simp at hn2 ⊢; omega) (by simp; omega) ?_; intro v2 w2 hown2 hg2)
          have hB2 : Below w.heap.size w w2 := (hB1.alloc hs1 _).grown hg2 (by simp; omega) (fun j e => (hlo j e).1)
          exact ⟨⟨_, ns ++ [n], rfl, hown2, HE, hn2, by rw [hts2]; omega, hB2⟩, by rw [strLen_eq, strLen_eq, hts2]; omega⟩
end Go.Proofs.YtdokgalidhmbbaaGreatDoor
namespace Go.Proofs.YtdokgalidhmbbaaGreatDoor
open Go.RowKit Go.Shelf
attribute [local go_sem] Oper.semAt_some

/-- The iterator's two boxes: the slice, and by how many. -/
structure Hdr (b off L cap Bs Bn : Nat) (W : World) : Prop where
  head : W.cell? ⟨Bs, 0, none⟩ = some (.slice (some ⟨b, off, none⟩) L cap)
  two : W.cell? ⟨Bn, 0, none⟩ = some (.int .i64 2)
def KpH (b off L cap Bs Bn : Nat) (W W' : World) : Prop := Hdr b off L cap Bs Bn W → Hdr b off L cap Bs Bn W'
abbrev Ix (m : Nat) := { k : Nat // k < m }
theorem range_snoc (k : Nat) : List.range (k + 1) = List.range k ++ [k] := List.range_succ

set_option maxRecDepth 100000 in
set_option maxHeartbeats 2000000 in
theorem chunk1_in (n : Nat) (hn : 1 ≤ n) (l b off m L cap Bs Bn : Nat) (hL : Hid (L = 2 * m)) (hm : m ≤ 1000) (hcap : L ≤ cap) (J Jx : List (Ix m) → World → Prop)
    (hY : ∀ pre x W, J pre W → pre.length < m → YieldAt Fence.wide (n - 1) Tryz.prog l #[.slice (some ⟨b, off + 2 * x.1, none⟩) 2 2] W fun e W' =>
      (e = .returned (.bool true) ∧ J (pre ++ [x]) W' ∧ KpH b off L cap Bs Bn W W') ∨ (e = .returned (.bool false) ∧ Jx (pre ++ [x]) W'))
    (W : World) (hR : Hdr b off L cap Bs Bn W) (h0 : J [] W) (hJd : ∀ pre W q, J pre W → J pre (W.drewN q)) :
    CallsIn Fence.wide n Tryz.prog 211 #[.func (.yield l) #[] #[], .pointer (some ⟨Bs, 0, none⟩), .pointer (some ⟨Bn, 0, none⟩)] W fun e W' => (∃ v, e = .returned v) ∧
      ((∃ ys, ys.map (fun x => x.1) = List.range m ∧ J ys W') ∨ (∃ pre, True ∧ Jx pre W')) := by
  refine callsIn_of_wp Tryz.func211 rfl trivial ?_ rfl
  simp only [Tryz.ntmps211, List.size_toArray, List.length_cons, List.length_nil, Nat.reduceAdd, Nat.reduceSub, Array.replicate_succ, Array.replicate_zero, List.push_toArray, List.append_toArray, List.nil_append, List.cons_append]
  have hh := hR.head
  have h2 := hR.two
  gi_wp2
  gi_loopw [4] (fun i wr => ∃ k j : Nat, k ≤ m ∧ j = 2 * k ∧ i = .int .i64 (j : Int) ∧ (∃ ys, ys.map (fun x => x.1) = List.range k ∧ J ys wr) ∧ Hdr b off L cap Bs Bn wr)
    (fun i _ => L - (intOf i).toNat)
  case atStart => exact ⟨0, 0, Nat.zero_le _, rfl, rfl, ⟨[], rfl, h0⟩, hR⟩
  case round =>
    obtain ⟨k, j, hk, hj, rfl, ⟨ys, hys, hJs⟩, hRr⟩ := hrel
    have hyl : ys.length = k := by have := congrArg List.length hys; simpa using this
    have hhr := hRr.head
    have h2r := hRr.two
    have HY : Hid (ys.map (fun x => x.1) = List.range k) := hys
    clear hys
    by_cases hlt : k < m
    · have hL' := hL.out
      have g1 : (j : Int) < (L : Int) := by omega
      have gc : ¬ cap = j := by omega
      have gl : j + 2 ≤ L := by omega
      have hjb : j ≤ 2000 := by omega
      have HJ : Hid (j = 2 * k) := hj
      have HE : Hid (∀ W, J ys W → YieldAt Fence.wide (n - 1) Tryz.prog l #[.slice (some ⟨b, off + j, none⟩) 2 2] W fun e W' =>
          (e = .returned (.bool true) ∧ J (ys ++ [⟨k, hlt⟩]) W' ∧ KpH b off L cap Bs Bn W W') ∨ (e = .returned (.bool false) ∧ Jx (ys ++ [⟨k, hlt⟩]) W')) := by
        show ∀ W, _
        intro W hW
        have := hY ys ⟨k, hlt⟩ W hW (by omega)
        rw [← hj] at this
        exact this
      clear hj hL' hY hR h0 hh h2
      gi_wp2
      gi_quiet (fail)
      obtain ⟨fn, tmps, assign, body, hy, hR'⟩ := HE.out (wr.drewN nq) (hJd _ _ nq hJs)
      have hw2 : wrap64 ((j : Int) + 2) = (j : Int) + 2 := by unfold wrap64; omega
      have hw3 : ((j : Int) + 2).toNat - j = 2 := by omega
      have hw4 : ((j : Int) + 2).toNat = j + 2 := by omega
      have g3 : (j : Int) + 2 ≤ (cap : Int) := by omega
      have g4 : ¬ j + 2 = j := by omega
      gi_wp2
      refine hR'.mono ?_
      rintro e W3 (⟨rfl, hJ3, hk3⟩ | ⟨rfl, hJx3⟩)
      · have hH3 : Hdr b off L cap Bs Bn W3 := hk3 ⟨hRr.head, hRr.two⟩
        have h23 := hH3.two
        gi_wp2
        go_roundw
        case rel => exact ⟨k + 1, j + 2, by omega, by have := HJ.out; omega, by simp, ⟨_, by rw [List.map_append, HY.out, range_snoc]; rfl, hJ3⟩, hH3⟩
        case measure => simp [intOf]; omega
      · gi_wp2
        refine bodyPost_ret (results_none rfl _ _ _) rfl ?_
        exact ⟨⟨_, rfl⟩, .inr ⟨_, trivial, hJx3⟩⟩
    · obtain rfl : k = m := by omega
      have g1 : ¬ (j : Int) < (L : Int) := by have := hL.out; omega
      clear hj
      gi_wp2
      go_end0
      exact ⟨⟨_, rfl⟩, .inl ⟨_, HY.out, hJs⟩⟩

set_option maxHeartbeats 1000000 in
theorem chunk_in (n : Nat) (a : Option Addr) (len cap : Nat) (w : World) :
    CallsIn Fence.wide n Tryz.prog 183 #[.slice a len cap, .int .i64 2] w fun e w' => e = .returned (.func (.func 211) #[] #[.pointer (some ⟨w.heap.size, 0, none⟩), .pointer (some ⟨w.heap.size + 1, 0, none⟩)]) ∧ w' = (w.alloc (.cells #[.slice a len cap] 54)).alloc (.cells #[.int .i64 2] 3) := by
  refine callsIn_of_wp Tryz.func183 rfl trivial ?_ rfl
  simp only [Tryz.ntmps183, List.size_toArray, List.length_cons, List.length_nil, Nat.reduceAdd, Nat.reduceSub, Array.replicate_succ, Array.replicate_zero, List.push_toArray, List.append_toArray, List.nil_append, List.cons_append]
  gi_wp2
  go_ret
  exact ⟨rfl, rfl⟩

theorem chunk_stops (n : Nat) (hn : 1 ≤ n) (b off m L cap Bs Bn : Nat) (hL : L = 2 * m) (hm : m ≤ 1000) (hcap : L ≤ cap) (w : World) (hBs : Bs < w.heap.size) (hBn : Bn < w.heap.size) (hR : Hdr b off L cap Bs Bn w) :
    SeqStopsK Fence.wide n Tryz.prog 211 #[.pointer (some ⟨Bs, 0, none⟩), .pointer (some ⟨Bn, 0, none⟩)] (fun x : Ix m => #[.slice (some ⟨b, off + 2 * x.1, none⟩) 2 2]) (KpH b off L cap Bs Bn)
      (fun ys => ys.map (fun x => x.1) = List.range m) (fun _ => True) m w := fun l J Jx W hW hJ _ hY h0 =>
  chunk1_in n hn l b off m L cap Bs Bn hL hm hcap J Jx hY W ⟨(hW.cell (p := ⟨Bs, 0, none⟩) hBs).trans hR.head, (hW.cell (p := ⟨Bn, 0, none⟩) hBn).trans hR.two⟩ h0
    (fun pre W' q h => hJ pre W' (W'.drewN q) none h ⟨rfl, rfl, rfl, Nat.le_refl _, fun _ _ _ => rfl⟩ (fun r e => by cases e))
end Go.Proofs.YtdokgalidhmbbaaGreatDoor
namespace Go.Proofs.YtdokgalidhmbbaaGreatDoor
open Go.RowKit Go.Shelf Go.Lib
attribute [local go_sem] Oper.semAt_some

theorem numbers_no (s : ByteArray) (w : World) (hF : V.Forms w) (hl : s.size ≤ maxLen) (h : rd 25 (V.ints s) = none) :
    Calls Tryz.prog 246 #[.string s] w fun e w' => e = .returned (.tuple #[.slice none 0 0, errS]) ∧ Below w.heap.size w w' := by
  refine (numbers_calls s w hF hl).mono ?_
  rintro e w' ⟨⟨_, he⟩ | ⟨ns, v, h1, _⟩, hb⟩
  · exact ⟨he, hb⟩
  · rw [h] at h1; cases h1
theorem numbers_yes (s : ByteArray) (w : World) (hF : V.Forms w) (hl : s.size ≤ maxLen) (ns : List Int) (h : rd 25 (V.ints s) = some ns) :
    Calls Tryz.prog 246 #[.string s] w fun e w' => ∃ v, e = .returned (.tuple #[v, .nilIface]) ∧ OwnI w' w.heap.size v ns ∧ Below w.heap.size w w' := by
  refine (numbers_calls s w hF hl).mono ?_
  rintro e w' ⟨⟨h1, _⟩ | ⟨ms, v, h1, he, ho⟩, hb⟩
  · rw [h] at h1; cases h1
  · rw [h] at h1; cases h1; exact ⟨v, he, ho, hb⟩

set_option maxRecDepth 100000 in
set_option maxHeartbeats 4000000 in
theorem parse_rd (s : ByteArray) (w : World) (hF : V.Forms w) (hl : s.size ≤ maxLen) (h : rd 25 (V.ints s) = none) :
    Calls Tryz.prog 239 #[.string s] w fun e w' => e = .returned (.tuple #[.slice none 0 0, errS]) ∧ Below w.heap.size w w' := by
  have HC := numbers_no s w hF hl h
  simp only [errS] at HC ⊢
  refine (callsIn_wide (n := 5)).1 ?_
  have hfn : Fence.wide.fn 246 := trivial
  refine callsIn_of_wp_marks Tryz.func239 rfl trivial ?_ rfl
  simp only [Tryz.ntmps239, List.size_toArray, List.length_cons, List.length_nil, Nat.reduceAdd, Nat.reduceSub, Array.replicate_succ, Array.replicate_zero, List.push_toArray, List.append_toArray, List.nil_append, List.cons_append]
  gi_wp2_with (gi_at_call 246; refine (callsIn_wide.2 HC).mono ?_; rintro e w1 ⟨rfl, hb1⟩)
  exact ⟨_, results_tmp2 rfl _ _ _, rfl, hb1⟩

set_option maxRecDepth 100000 in
set_option maxHeartbeats 4000000 in
theorem parse_few (s : ByteArray) (w : World) (hF : V.Forms w) (hl : s.size ≤ maxLen) (ns : List Int) (h : rd 25 (V.ints s) = some ns) (h3 : ns.length < 3) :
    Calls Tryz.prog 239 #[.string s] w fun e w' => e = .returned (.tuple #[.slice none 0 0, errS]) ∧ Below w.heap.size w w' := by
  have HC := numbers_yes s w hF hl ns h
  simp only [errS] at HC ⊢
  have g3 : ((ns.length : Nat) : Int) < 3 := by omega
  refine (callsIn_wide (n := 5)).1 ?_
  have hfn : Fence.wide.fn 246 := trivial
  refine callsIn_of_wp_marks Tryz.func239 rfl trivial ?_ rfl
  simp only [Tryz.ntmps239, List.size_toArray, List.length_cons, List.length_nil, Nat.reduceAdd, Nat.reduceSub, Array.replicate_succ, Array.replicate_zero, List.push_toArray, List.append_toArray, List.nil_append, List.cons_append]
  gi_wp2_with (gi_at_call 246; refine (callsIn_wide.2 HC).mono ?_; rintro e w1 ⟨v, rfl, ho, hb1⟩; obtain ⟨a4, c4, rfl⟩ := ho.shape)
  exact ⟨_, results_tmp2 rfl _ _ _, rfl, hb1⟩

set_option maxRecDepth 100000 in
set_option maxHeartbeats 4000000 in
theorem parse_odd (s : ByteArray) (w : World) (hF : V.Forms w) (hl : s.size ≤ maxLen) (hi m d : Int) (rest : List Int) (h : rd 25 (V.ints s) = some (hi :: m :: d :: rest)) (hm : 0 ≤ m ∧ m < 1073741824) (hne : ¬ (rest.length : Int) = 2 * m) :
    Calls Tryz.prog 239 #[.string s] w fun e w' => e = .returned (.tuple #[.slice none 0 0, errS]) ∧ Below w.heap.size w w' := by
  have HC := numbers_yes s w hF hl _ h
  have hlen : (hi :: m :: d :: rest).length ≤ 25 := (rd_inv 25 _ _ (bytes_ints s) h).2.2
  simp only [errS] at HC ⊢
  refine (callsIn_wide (n := 5)).1 ?_
  have hfn : Fence.wide.fn 246 := trivial
  have g3 : ¬ (((hi :: m :: d :: rest).length : Nat) : Int) < 3 := by simp; omega
  have g4 : ¬ (((hi :: m :: d :: rest).length : Nat) : Int) = 3 + 2 * m := by simp; omega
  have g5 : (1 : Int) < (((hi :: m :: d :: rest).length : Nat) : Int) := by simp; omega
  generalize hL : (hi :: m :: d :: rest).length = len at *
  have HL : Hid ((hi :: m :: d :: rest).length = len) := hL
  clear hL
  refine callsIn_of_wp_marks Tryz.func239 rfl trivial ?_ rfl
  simp only [Tryz.ntmps239, List.size_toArray, List.length_cons, List.length_nil, Nat.reduceAdd, Nat.reduceSub, Array.replicate_succ, Array.replicate_zero, List.push_toArray, List.append_toArray, List.nil_append, List.cons_append]
  gi_wp2_with (gi_at_call 246; refine (callsIn_wide.2 HC).mono ?_; rintro e w1 ⟨v, rfl, ho, hb1⟩; obtain ⟨g, cp, rfl, hcp, _, hg⟩ := ho.form (by simp); have q1 := ho.cell 1 (by simp); simp only [HL.out, List.getElem?_cons_succ, List.getElem?_cons_zero, Option.getD_some] at q1 ⊢)
  exact ⟨_, results_tmp2 rfl _ _ _, rfl, hb1⟩

/-- One round: two numbers more. -/
def stp (rest : List Int) (st : Int × List R) (k : Nat) : Int × List R :=
  (st.1 - rest[2 * k]?.getD 0 - 2 - rest[2 * k + 1]?.getD 0, st.2 ++ [(st.1 - rest[2 * k]?.getD 0 - 2 - rest[2 * k + 1]?.getD 0, st.1 - rest[2 * k]?.getD 0 - 2)])
def aft (rest : List Int) (st : Int × List R) (ks : List Nat) : Int × List R := ks.foldl (stp rest) st
theorem aft_snoc (rest : List Int) (st : Int × List R) (ks : List Nat) (k : Nat) : aft rest st (ks ++ [k]) = stp rest (aft rest st ks) k := by simp [aft]
theorem aft_len (rest : List Int) : ∀ (ks : List Nat) (st : Int × List R), (aft rest st ks).2.length = st.2.length + ks.length
  | [], st => rfl
  | k :: ks, st => by
    show (aft rest (stp rest st k) ks).2.length = _
    rw [aft_len rest ks]; simp [stp]; omega
theorem getD_mays {rest : List Int} (h : Mays rest) (j : Nat) : 0 ≤ rest[j]?.getD 0 ∧ rest[j]?.getD 0 < 1073741824 := by
  by_cases hj : j < rest.length
  · simp only [List.getElem?_eq_getElem hj, Option.getD_some]; exact h _ (List.getElem_mem hj)
  · simp [List.getElem?_eq_none (Nat.le_of_not_lt hj)]
theorem aft_bd {rest : List Int} (h : Mays rest) : ∀ (ks : List Nat) (st : Int × List R), (aft rest st ks).1 ≤ st.1 ∧ st.1 - 4294967296 * ks.length ≤ (aft rest st ks).1
  | [], st => by simp [aft]
  | k :: ks, st => by
    have i := aft_bd h ks (stp rest st k)
    have a := getD_mays h (2 * k)
    have b := getD_mays h (2 * k + 1)
    have e : (stp rest st k).1 = st.1 - rest[2 * k]?.getD 0 - 2 - rest[2 * k + 1]?.getD 0 := rfl
    rw [e] at i
    show (aft rest (stp rest st k) ks).1 ≤ _ ∧ _ ≤ (aft rest (stp rest st k) ks).1
    simp only [List.length_cons]
    omega
theorem aft_shift (a b : Int) (rest : List Int) : ∀ (ks : List Nat) (st : Int × List R), aft (a :: b :: rest) st (ks.map (· + 1)) = aft rest st ks
  | [], st => rfl
  | k :: ks, st => by
    have e : stp (a :: b :: rest) st (k + 1) = stp rest st k := by
      have e1 : 2 * (k + 1) = 2 * k + 1 + 1 := by omega
      simp only [stp, e1, List.getElem?_cons_succ]
    show aft (a :: b :: rest) (stp (a :: b :: rest) st (k + 1)) (ks.map (· + 1)) = aft rest (stp rest st k) ks
    rw [e, aft_shift a b rest ks]
theorem aft_all : ∀ (k : Nat) (rest : List Int) (lo : Int) (zs : List R), rest.length = 2 * k → aft rest (lo, zs) (List.range k) = (lastLo lo rest, zs ++ pairs lo rest) := by
  intro k
  induction k with
  | zero =>
    intro rest lo zs hl
    obtain rfl : rest = [] := List.eq_nil_of_length_eq_zero (by omega)
    simp [aft, lastLo, pairs]
  | succ k ih =>
    intro rest lo zs hl
    match rest, hl with
    | [], hl => simp at hl
    | [a], hl => simp at hl; omega
    | a :: b :: rest, hl =>
      rw [List.range_succ_eq_map]
      show aft (a :: b :: rest) (stp (a :: b :: rest) (lo, zs) 0) ((List.range k).map (· + 1)) = _
      rw [aft_shift]
      have e : stp (a :: b :: rest) (lo, zs) 0 = (lo - a - 2 - b, zs ++ [(lo - a - 2 - b, lo - a - 2)]) := rfl
      rw [e, ih rest _ _ (by simp at hl; omega)]
      simp [lastLo, pairs]
end Go.Proofs.YtdokgalidhmbbaaGreatDoor
namespace Go.Proofs.YtdokgalidhmbbaaGreatDoor
open Go

def defers : Op → Bool
  | .defer _ => true
  | _ => false
theorem oper_round {F : Fence} {n : Nat} {P : Program} {l : Nat} {o : Oper} {a : Act} {w : World} {K : Act → World → Prop} {Q : Exit → Act → World → Prop} (hro : F.round = none) (hd : ∀ c, o.op ≠ .defer c)
    (h : o.wpIn F n P a w K Q) : o.wpIn (F.inRound l) n P a w K Q := by
  unfold Oper.wpIn at *
  rw [Oper.semAt_eq _ _ _ hd] at h ⊢
  refine ⟨h.1, ?_⟩
  have hh := h.2
  generalize (execOp a.eval o).run P w = r at *
  cases r with
  | ok x w' => cases x <;> exact hh
  | halt x w' => cases x <;> exact hh
theorem wpOp_round {F : Fence} {n : Nat} {P : Program} {ops : Array Oper} {l i : Nat} {a : Act} {w : World} {K : Act → World → Prop} {Q : Exit → Act → World → Prop} (hro : F.round = none) (hd : ∀ (i : Nat) (o : Oper), ops[i]? = some o → ∀ c, o.op ≠ .defer c)
    (h : wpOpIn F n P ops Q i K a w) : wpOpIn (F.inRound l) n P ops Q i K a w := by
  unfold wpOpIn at *
  cases ho : ops[i]? with
  | none => simp only [ho] at h; exact h
  | some o =>
    simp only [ho] at h
    dsimp only
    by_cases hw : Region.wanted o (yielded ops a.tmps)
    · simp only [hw, if_true] at h ⊢
      exact oper_round hro (hd i o ho) h
    · simp only [hw] at h ⊢
      exact h
theorem wpAny_round {F : Fence} {n : Nat} {P : Program} {md : Region.Mode} {ops : Array Oper} {l : Nat} {Q : Exit → Act → World → Prop} (hro : F.round = none) (hd : ∀ (i : Nat) (o : Oper), ops[i]? = some o → ∀ c, o.op ≠ .defer c) :
    ∀ (fuel : Nat) (listed : Array Bool) (a : Act) (w : World), wpAnyIn F n P md ops Q fuel listed a w → wpAnyIn (F.inRound l) n P md ops Q fuel listed a w
  | 0, _, _, _, h => h
  | fuel + 1, listed, a, w, h => ⟨h.1, fun i hi => wpOp_round hro hd (wpOpIn_mono (fun a' w' h' => wpAny_round hro hd fuel _ a' w' h') (h.2 i hi))⟩
theorem region_round_quiet {F : Fence} {n : Nat} {P : Program} {l id : Nat} {Q : Exit → Act → World → Prop} {a : Act} {w : World} {ops : List Oper} (hro : F.round = none) (hm : P.follows .mixedOrders = true) (hB : Region.lexB .any ops.toArray = true)
    (hd : (ops.all fun o => !defers o.op) = true)
    (h : wpQuietIn F n P ops.toArray (fun w' => ∃ n, w' = w.drewN n) (fun a' => ∀ w', (∃ n, w' = w.drewN n) → Q .normal a' w') ops a) : (Code.region id ops.toArray true).wpIn (F.inRound l) n P Q a w := by
  have hB' := hB
  simp only [Region.lexB, Bool.and_eq_true] at hB'
  refine wpIn_region_any hm (wpAny_round hro (fun i o ho c e => ?_) _ _ _ _ (wpAnyIn_of_quiet (C := fun w' => ∃ n, w' = w.drewN n) (Q := fun a' => ∀ w', (∃ n, w' = w.drewN n) → Q .normal a' w') hro (fun _ w' hw' h => h w' hw') _ _ _ _ ⟨1, rfl⟩ ?_))
  · have hmem : o ∈ ops := by
      have := Array.mem_of_getElem? ho
      simpa using this
    have := List.all_eq_true.1 hd o hmem
    rw [e] at this
    simp [defers] at this
  · have := wpAnyQIn_lex (F := F) (n := n) (P := P) (C := fun w' => ∃ n, w' = w.drewN n) (md := .any) hB'.1 ops.toArray.toList 0 (Array.replicate ops.toArray.size false) a (by simp) (by simpa using hB'.2) (by simpa using h)
    simpa using this
end Go.Proofs.YtdokgalidhmbbaaGreatDoor
namespace Go.Proofs.YtdokgalidhmbbaaGreatDoor
open Go.RowKit Go.Shelf Go.Lib
attribute [local go_sem] Oper.semAt_some

theorem KpH.put {w : World} {b off L cap Bs Bn : Nat} (W : World) (l : Nat) (o o' : Obj) (_ : w.heap.size ≤ l) (h : W.heap[l]? = some o) (hc : o.isCells = false) (_ : o.isWalk = false) : KpH b off L cap Bs Bn W (W.putObj l o') := fun hR =>
  ⟨cell_kept hR.head (grownBy_putObj' W l o') (fun r e => by cases e; exact ⟨o, h, hc⟩), cell_kept hR.two (grownBy_putObj' W l o') (fun r e => by cases e; exact ⟨o, h, hc⟩)⟩
theorem V.below_dn {B : Nat} {a w : World} (h : Below B a w) (q : Nat) : Below B a (w.drewN q) := ⟨h.os, h.tape, h.output, h.size, h.block⟩
theorem cells_rng (W : World) (a b : Int) : ∀ j u, [Value.int .i64 a, Value.int .i64 b][j]? = some u → (W.alloc (.cells #[.int .i64 a, .int .i64 b] 143)).cell? ((⟨W.heap.size, 0, none⟩ : Addr).add j) = some u := by
  intro j u h
  match j, h with
  | 0, h => simp at h; subst h; simp [Addr.add]
  | 1, h => simp at h; subst h; simp [Addr.add]
  | j + 2, h => simp at h
def offOf (cp : Nat) : Nat := if cp = 3 then 0 else 3
theorem run_slice3 (g len cp : Nat) (h3 : 3 ≤ len) (w : World) : (Instr.slice 54 (.slice (some ⟨g, 0, none⟩) len cp) (some (.int .i64 3)) none none).run Tryz.prog w = .ok (.slice (some ⟨g, offOf cp, none⟩) (len - 3) (cp - 3)) w := by
  have h' : (3 : Int) ≤ (len : Int) := by omega
  have e := Tryz.underlying54
  unfold offOf
  by_cases h : cp = 3
  · rw [if_pos h]; go_simp
  · rw [if_neg h]; go_simp

set_option maxRecDepth 100000 in
set_option maxHeartbeats 4000000 in
theorem parse_go (s : ByteArray) (w : World) (hF : V.Forms w) (hl : s.size ≤ maxLen) (hi m d : Int) (rest : List Int) (h : rd 25 (V.ints s) = some (hi :: m :: d :: rest)) (hm : Mays (hi :: m :: d :: rest)) (he : (rest.length : Int) = 2 * m) :
    Calls Tryz.prog 239 #[.string s] w fun e w' => ((lastLo (hi - d) rest < 0 ∧ e = .returned (.tuple #[.slice none 0 0, errS])) ∨ (0 ≤ lastLo (hi - d) rest ∧ ∃ v, e = .returned (.tuple #[v, .nilIface]) ∧ Row w' v ((hi - d, hi) :: pairs (hi - d) rest) ∧ Fits v)) ∧ Below w.heap.size w w' := by
  have HC := numbers_yes s w hF hl _ h
  have hlen : (hi :: m :: d :: rest).length ≤ 25 := (rd_inv 25 _ _ (bytes_ints s) h).2.2
  have m0 := hm hi (by simp)
  have m1 := hm m (by simp)
  have m2 := hm d (by simp)
  simp only [errS] at HC ⊢
  refine (callsIn_wide (n := 5)).1 ?_
  have hfn : Fence.wide.fn 246 := trivial
  have hfc : Fence.wide.fn 183 := trivial
  have g3 : ¬ (((hi :: m :: d :: rest).length : Nat) : Int) < 3 := by simp; omega
  have g4 : (((hi :: m :: d :: rest).length : Nat) : Int) = 3 + 2 * m := by simp; omega
  have g5 : (1 : Int) < (((hi :: m :: d :: rest).length : Nat) : Int) := by simp; omega
  have g6 : (2 : Int) < (((hi :: m :: d :: rest).length : Nat) : Int) := by simp; omega
  have g7 : (3 : Int) ≤ (((hi :: m :: d :: rest).length : Nat) : Int) := by simp; omega
  obtain ⟨M, hMm'⟩ : ∃ M : Nat, (M : Int) = m := ⟨m.toNat, by omega⟩
  have hMm : Hid ((M : Int) = m) := hMm'
  have hRl : Hid (rest.length = 2 * M) := by show _ = _; omega
  generalize hL : (hi :: m :: d :: rest).length = len at *
  have HL : Hid ((hi :: m :: d :: rest).length = len) := hL
  clear hL hMm'
  have HM : Hid (Mays (hi :: m :: d :: rest)) := hm
  clear hm he h
  have G4 : Hid ((len : Int) = 3 + 2 * m) := g4
  have gd : decide ((3 : Int) + 2 * m < 3) = false := by simp; omega
  refine callsIn_of_wp_marks Tryz.func239 rfl trivial ?_ rfl
  simp only [Tryz.ntmps239, List.size_toArray, List.length_cons, List.length_nil, Nat.reduceAdd, Nat.reduceSub, Array.replicate_succ, Array.replicate_zero, List.push_toArray, List.append_toArray, List.nil_append, List.cons_append]
  gi_wp2_with (gi_at_call 246; refine (callsIn_wide.2 HC).mono ?_; rintro e w1 ⟨v, rfl, ho, hb1⟩; obtain ⟨g, cp, rfl, hcp, _, hg⟩ := ho.form (by simp); have q0 := ho.cell 0 (by simp); have q1 := ho.cell 1 (by simp); have q2 := ho.cell 2 (by simp); simp only [HL.out, List.getElem?_cons_succ, List.getElem?_cons_zero, Option.getD_some] at q0 q1 q2 hcp ⊢)
  gi_region
  have bx : Boxed (w1.alloc (.cells #[.int .i64 (hi - d)] 3)).drew w1.heap.size 3 (.int .i64 (hi - d)) := Boxed.new w1 3 _
  have sz1 : (w1.alloc (.cells #[.int .i64 (hi - d)] 3)).drew.heap.size = w1.heap.size + 1 := by simp [World.drew]
  have hB1 : Below w1.heap.size w1 (w1.alloc (.cells #[.int .i64 (hi - d)] 3)).drew := ((Below.refl _ w1).alloc (Nat.le_refl _) _).drew
  have q0' := (hB1.cell (p := ⟨g, 0, none⟩) hg).trans q0
  generalize (w1.alloc (.cells #[.int .i64 (hi - d)] 3)).drew = W1 at *
  have bc := bx.cell
  gi_wp2
  rename_i K hK
  have KEY : ∀ (Bo Br : Nat) (W2 : World), Boxed W2 w1.heap.size 3 (.int .i64 (hi - d)) → Boxed W2 Bo 88 (.slice (some ⟨Br, 0, none⟩) 1 1) → W2.ownsRow w1.heap.size 143 2 (.slice (some ⟨Br, 0, none⟩) 1 1) 1 (flat [(hi - d, hi)]) → Below w1.heap.size w1 W2 → W2.heap.size = w1.heap.size + 3 → w1.heap.size < Bo → Bo < W2.heap.size → K { tmps := #[.string s, undef, .slice none 0 0, .nilIface, (.slice (some ⟨g, 0, none⟩) len cp), .nilIface, .pointer (some ⟨w1.heap.size, 0, none⟩), .pointer (some ⟨Bo, 0, none⟩), undef, undef, .tuple #[(.slice (some ⟨g, 0, none⟩) len cp), .nilIface], .string s, .tuple #[(.slice (some ⟨g, 0, none⟩) len cp), .nilIface], (.slice (some ⟨g, 0, none⟩) len cp), .nilIface, .nilIface, .bool false, undef, (.slice (some ⟨g, 0, none⟩) len cp), .int .i64 (3 + 2 * m), .bool false, .bool false, (.slice (some ⟨g, 0, none⟩) len cp), .int .i64 (3 + 2 * m), (.slice (some ⟨g, 0, none⟩) len cp), .pointer (some ⟨g, 1, none⟩), .int .i64 m, .int .i64 (2 * m), .int .i64 (3 + 2 * m), .bool false, .bool false, undef, (.slice (some ⟨g, 0, none⟩) len cp), .pointer (some ⟨g, 0, none⟩), .int .i64 hi, (.slice (some ⟨g, 0, none⟩) len cp), .pointer (some ⟨g, 2, none⟩), .int .i64 d, .int .i64 (hi - d), .int .i64 (hi - d), (.slice (some ⟨g, 0, none⟩) len cp), .pointer (some ⟨g, 0, none⟩), .int .i64 hi, .agg #[.int .i64 (hi - d), .int .i64 hi], .slice (some ⟨Br, 0, none⟩) 1 1, undef, undef, undef, undef, undef, undef, undef, undef, undef, undef, undef, undef, undef, undef, undef, undef, undef, undef, undef, undef, undef, undef, undef, undef, undef], defers := [] } W2 := by
    intro Bo Br W2 bL bO oR hB2 sz2 hBo1 hBo2
    have SZ2 : Hid (W2.heap.size = w1.heap.size + 3) := sz2
    have HBo2 : Hid (Bo < W2.heap.size) := hBo2
    clear bx bc q0' hB1 sz1 sz2 hBo2
    refine hK _ _ ?_
    clear hK
    obtain ⟨off, hoff⟩ : ∃ off : Nat, offOf cp = off := ⟨_, rfl⟩
    obtain ⟨L, hL⟩ : ∃ L : Nat, len - 3 = L := ⟨_, rfl⟩
    obtain ⟨C, hC⟩ : ∃ C : Nat, cp - 3 = C := ⟨_, rfl⟩
    have hLM : L = 2 * M := by have := G4.out; have := hMm.out; omega
    have hLC : L ≤ C := by omega
    have hM12 : M ≤ 11 := by omega
    have hsl := run_slice3 g len cp (by omega)
    rw [hoff, hL, hC] at hsl
    have cl : Hid (∀ x, x < M → w1.cell? ⟨g, off + 2 * x, none⟩ = some (.int .i64 (rest[2 * x]?.getD 0)) ∧ w1.cell? ⟨g, off + 2 * x + 1, none⟩ = some (.int .i64 (rest[2 * x + 1]?.getD 0))) := by
      show ∀ x, _
      intro x hx
      have l0 := ho.cell (3 + 2 * x) (by have := hRl.out; simp; omega)
      have l1 := ho.cell (3 + 2 * x + 1) (by have := hRl.out; simp; omega)
      have e2 : off = 3 := by rw [← hoff]; unfold offOf; rw [if_neg (by omega)]
      subst e2
      rw [l0, l1]
      have e0 : 3 + 2 * x = 2 * x + 1 + 1 + 1 := by omega
      have e1 : 3 + 2 * x + 1 = 2 * x + 1 + 1 + 1 + 1 := by omega
      rw [e1, e0]
      simp only [List.getElem?_cons_succ]
      exact ⟨trivial, trivial⟩
    have HLM : Hid (L = 2 * M) := hLM
    have HLC : Hid (L ≤ C) := hLC
    have HM12 : Hid (M ≤ 11) := hM12
    have Hg : Hid (g < w1.heap.size) := hg
    have HB1 : Hid (Below w.heap.size w w1) := hb1
    clear hLM hLC hM12 hoff hL hC q0 q1 q2 g4 g5 g6 g7 gd HC ho hcp hlen hF hl hb1 hg HL G4 hMm
    gi_wp2_with (gi_at_call 183; refine (chunk_in 4 _ _ _ _).mono ?_; rintro e w' ⟨rfl, rfl⟩)
    have sz2 := SZ2.out
    have hBo2 := HBo2.out
    have hLM := HLM.out
    have hLC := HLC.out
    have hM12 := HM12.out
    have bS : Boxed ((W2.alloc (.cells #[.slice (some ⟨g, off, none⟩) L C] 54)).alloc (.cells #[.int .i64 2] 3)) W2.heap.size 54 (.slice (some ⟨g, off, none⟩) L C) := (Boxed.new W2 54 _).alloc _
    have bN : Boxed ((W2.alloc (.cells #[.slice (some ⟨g, off, none⟩) L C] 54)).alloc (.cells #[.int .i64 2] 3)) (W2.heap.size + 1) 3 (.int .i64 2) := by
      have := Boxed.new (W2.alloc (.cells #[.slice (some ⟨g, off, none⟩) L C] 54)) 3 (.int .i64 2)
      rwa [World.size_alloc] at this
    have kL0 := (bL.alloc (.cells #[.slice (some ⟨g, off, none⟩) L C] 54)).alloc (.cells #[.int .i64 2] 3)
    have kO0 := (bO.alloc (.cells #[.slice (some ⟨g, off, none⟩) L C] 54)).alloc (.cells #[.int .i64 2] 3)
    have kr0 := (oR.alloc (.cells #[.slice (some ⟨g, off, none⟩) L C] 54)).alloc (.cells #[.int .i64 2] 3)
    have hB30 : Below w1.heap.size w1 ((W2.alloc (.cells #[.slice (some ⟨g, off, none⟩) L C] 54)).alloc (.cells #[.int .i64 2] 3)) := (hB2.alloc hB2.size _).alloc (by simp; omega) _
    have sz3 : ((W2.alloc (.cells #[.slice (some ⟨g, off, none⟩) L C] 54)).alloc (.cells #[.int .i64 2] 3)).heap.size = W2.heap.size + 2 := by simp
    generalize (W2.alloc (.cells #[.slice (some ⟨g, off, none⟩) L C] 54)).alloc (.cells #[.int .i64 2] 3) = W3 at *
    refine wpIn_rangeFunc_ownG rfl (by decide) (gf := 211) (lb := #[.pointer (some ⟨W2.heap.size, 0, none⟩), .pointer (some ⟨W2.heap.size + 1, 0, none⟩)]) rfl trivial (enters_of Tryz.func211 (by kernel_rfl) rfl)
      (chunk_stops (5 - 1) (by decide) g off M L C W2.heap.size (W2.heap.size + 1) hLM (by omega) hLC W3 (by omega) (by omega) ⟨bS.cell, bN.cell⟩)
      (fun h k hR => k (h hR)) (KpH.put (w := W3)) (Below.refl _ _) (fun _ => rfl)
      (fun (pre : List (Ix M)) W => Boxed W w1.heap.size 3 (.int .i64 (aft rest (hi - d, [(hi - d, hi)]) (pre.map fun x => x.1)).1) ∧ (∃ v, Boxed W Bo 88 v ∧ W.ownsRow w1.heap.size 143 2 v (pre.length + 1) (flat (aft rest (hi - d, [(hi - d, hi)]) (pre.map fun x => x.1)).2) ∧ True) ∧ Boxed W W2.heap.size 54 (.slice (some ⟨g, off, none⟩) L C) ∧ Boxed W (W2.heap.size + 1) 3 (.int .i64 2) ∧ Below w1.heap.size w1 W)
      (fun _ _ _ => False)
      (OwnFrom.and (Own.from (boxed_own _ _ _) _) (OwnFrom.and (Own.from (holdsRow_own w1.heap.size Bo 88 143 2 (fun pre : List (Ix M) => pre.length + 1) (fun pre : List (Ix M) => flat (aft rest (hi - d, [(hi - d, hi)]) (pre.map fun x => x.1)).2) (fun _ _ => True)) _) (OwnFrom.and (Own.from (boxed_own _ _ _) _) (OwnFrom.and (Own.from (boxed_own _ _ _) _) (ownFrom_below (Nat.le_refl _) (by omega))))))
      (fun _ _ _ _ _ hs _ _ => hs)
      ⟨kL0, ⟨_, kO0, kr0, trivial⟩, bS, bN, hB30⟩
      (fun x => { tmps := #[.string s, undef, .slice none 0 0, .nilIface, (.slice (some ⟨g, 0, none⟩) len cp), .nilIface, .pointer (some ⟨w1.heap.size, 0, none⟩), .pointer (some ⟨Bo, 0, none⟩), .slice (some ⟨g, off + 2 * x.1, none⟩) 2 2, undef, .tuple #[(.slice (some ⟨g, 0, none⟩) len cp), .nilIface], .string s, .tuple #[(.slice (some ⟨g, 0, none⟩) len cp), .nilIface], (.slice (some ⟨g, 0, none⟩) len cp), .nilIface, .nilIface, .bool false, undef, (.slice (some ⟨g, 0, none⟩) len cp), .int .i64 (3 + 2 * m), .bool false, .bool false, (.slice (some ⟨g, 0, none⟩) len cp), .int .i64 (3 + 2 * m), (.slice (some ⟨g, 0, none⟩) len cp), .pointer (some ⟨g, 1, none⟩), .int .i64 m, .int .i64 (2 * m), .int .i64 (3 + 2 * m), .bool false, .bool false, undef, (.slice (some ⟨g, 0, none⟩) len cp), .pointer (some ⟨g, 0, none⟩), .int .i64 hi, (.slice (some ⟨g, 0, none⟩) len cp), .pointer (some ⟨g, 2, none⟩), .int .i64 d, .int .i64 (hi - d), .int .i64 (hi - d), (.slice (some ⟨g, 0, none⟩) len cp), .pointer (some ⟨g, 0, none⟩), .int .i64 hi, .agg #[.int .i64 (hi - d), .int .i64 hi], .slice (some ⟨Br, 0, none⟩) 1 1, (.slice (some ⟨g, 0, none⟩) len cp), .slice (some ⟨g, off, none⟩) L C, .func (.func 211) #[] #[.pointer (some ⟨W2.heap.size, 0, none⟩), .pointer (some ⟨W2.heap.size + 1, 0, none⟩)], .slice (some ⟨g, off + 2 * x.1, none⟩) 2 2, undef, undef, undef, undef, undef, undef, undef, undef, undef, undef, undef, undef, undef, undef, undef, undef, undef, undef, undef, undef, undef], defers := [] }) ?assign ?body ?done ?stop
    all_goals clear bL bO oR hB2 bS bN kL0 kO0 kr0 hB30 hsl hLM hLC sz2
    case assign =>
      intro l x W K hK
      clear sz3 hM12
      gi_wp2
      exact hK
    case body =>
      rintro l pre ⟨x, hx⟩ W ⟨kL, ⟨v, kO, kr, _⟩, kS, kN, hB⟩ hpl
      have hx : x < M := hx
      obtain ⟨cx0, cx1⟩ := cl.out x hx
      have z0 := (hB.cell (p := ⟨g, off + 2 * x, none⟩) Hg.out).trans cx0
      have z1 := (hB.cell (p := ⟨g, off + 2 * x + 1, none⟩) Hg.out).trans cx1
      have hbd := aft_bd (rest := rest) (fun z hz => HM.out z (by simp [hz])) (pre.map fun x => x.1) (hi - d, [(hi - d, hi)])
      have hal := aft_len rest (pre.map fun x => x.1) (hi - d, [(hi - d, hi)])
      rw [List.length_map] at hbd hal
      have na := getD_mays (rest := rest) (fun z hz => HM.out z (by simp [hz])) (2 * x)
      have nb := getD_mays (rest := rest) (fun z hz => HM.out z (by simp [hz])) (2 * x + 1)
      have HS : Hid (aft rest (hi - d, [(hi - d, hi)]) ((pre ++ [(⟨x, hx⟩ : Ix M)]).map fun x => x.1) = stp rest (aft rest (hi - d, [(hi - d, hi)]) (pre.map fun x => x.1)) x) := by
        show _ = _
        rw [List.map_append]; exact aft_snoc _ _ _ _
      simp only at hbd hal
      generalize aft rest (hi - d, [(hi - d, hi)]) (pre.map fun x => x.1) = st at *
      have hSt : Hid (stp rest st x = (st.1 - rest[2 * x]?.getD 0 - 2 - rest[2 * x + 1]?.getD 0, st.2 ++ [(st.1 - rest[2 * x]?.getD 0 - 2 - rest[2 * x + 1]?.getD 0, st.1 - rest[2 * x]?.getD 0 - 2)])) := rfl
      generalize rest[2 * x]?.getD 0 = na' at *
      generalize rest[2 * x + 1]?.getD 0 = nb' at *
      have hpl' : pre.length < 12 := by omega
      have bd1 : st.1 ≤ 1073741824 ∧ -60000000000 ≤ st.1 := by omega
      have HPL : Hid (pre.length < 12) := hpl'
      have kLc := kL.cell
      have kLf := kL.frozen
      have kOc := kO.cell
      have kOf := kO.frozen
      obtain ⟨gr, capr, rfl⟩ := ownsRow_succ kr
      have SZ3 : Hid (W3.heap.size = W2.heap.size + 2) := sz3
      clear cx0 cx1 cl hbd hal hpl hpl' m0 m1 m2 hM12 sz3
      gi_wp2
      refine region_round_quiet (F := Fence.wide) rfl (by kernel_rfl) (by kernel_rfl) rfl ?_
      repeat (gi_big_quiet_step (fail))
      refine wpQuietIn_nil ?_
      intro _ hw'
      obtain ⟨nq, hw''⟩ := hw'
      subst hw''
      have kLq : Boxed (W.drewN nq) w1.heap.size 3 (.int .i64 st.1) := kL
      have kOq : Boxed (W.drewN nq) Bo 88 (.slice (some ⟨gr, 0, none⟩) (pre.length + 1) capr) := kO
      have kSq : Boxed (W.drewN nq) W2.heap.size 54 (.slice (some ⟨g, off, none⟩) L C) := kS
      have kNq : Boxed (W.drewN nq) (W2.heap.size + 1) 3 (.int .i64 2) := kN
      have krq : (W.drewN nq).ownsRow w1.heap.size 143 2 (.slice (some ⟨gr, 0, none⟩) (pre.length + 1) capr) (pre.length + 1) (flat st.2) := kr
      have kLS := kLq.set (.int .i64 (st.1 - na' - 2 - nb'))
      have kOS := kOq.other (B' := w1.heap.size) (by omega) (.int .i64 (st.1 - na' - 2 - nb'))
      have kSS := kSq.other (B' := w1.heap.size) (by have := SZ2.out; omega) (.int .i64 (st.1 - na' - 2 - nb'))
      have kNS := kNq.other (B' := w1.heap.size) (by have := SZ2.out; omega) (.int .i64 (st.1 - na' - 2 - nb'))
      have krS := ownsRow_setCell_other (a := ⟨w1.heap.size, 0, none⟩) krq (fun e => (kLq.not_row (by decide) krq) e.symm) (.int .i64 (st.1 - na' - 2 - nb'))
      have hBS := (V.below_dn hB nq).setCell (p := ⟨w1.heap.size, 0, none⟩) (Nat.le_refl _) (.int .i64 (st.1 - na' - 2 - nb'))
      have KO : KeepsOthers W ((W.drewN nq).setCell ⟨w1.heap.size, 0, none⟩ (.int .i64 (st.1 - na' - 2 - nb'))) := ⟨(KeepsOthers.setCell (W.drewN nq) ⟨w1.heap.size, 0, none⟩ (.int .i64 (st.1 - na' - 2 - nb'))).size, (KeepsOthers.setCell (W.drewN nq) ⟨w1.heap.size, 0, none⟩ (.int .i64 (st.1 - na' - 2 - nb'))).same⟩
      have hszS : ((W.drewN nq).setCell ⟨w1.heap.size, 0, none⟩ (.int .i64 (st.1 - na' - 2 - nb'))).heap.size = W.heap.size := by simp
      have cs2 := cells_rng ((W.drewN nq).setCell ⟨w1.heap.size, 0, none⟩ (.int .i64 (st.1 - na' - 2 - nb'))) (st.1 - na' - 2 - nb') (st.1 - na' - 2)
      rw [hszS] at cs2
      have CS : Hid (∀ j u, [Value.int .i64 (st.1 - na' - 2 - nb'), Value.int .i64 (st.1 - na' - 2)][j]? = some u → (((W.drewN nq).setCell ⟨w1.heap.size, 0, none⟩ (.int .i64 (st.1 - na' - 2 - nb'))).alloc (.cells #[.int .i64 (st.1 - na' - 2 - nb'), .int .i64 (st.1 - na' - 2)] 143)).cell? ((⟨W.heap.size, 0, none⟩ : Addr).add j) = some u) := cs2
      have hszW : w1.heap.size ≤ W.heap.size := hB.size
      have HK1 : Hid (((W.drewN nq).setCell ⟨w1.heap.size, 0, none⟩ (.int .i64 (st.1 - na' - 2 - nb'))).ownsRow w1.heap.size 143 2 (.slice (some ⟨gr, 0, none⟩) (pre.length + 1) capr) (pre.length + 1) (flat st.2)) := krS
      clear cs2 krq kLq kOq kSq kNq
      obtain ⟨i0, hi0, hz0, hz1, hz2⟩ := info_parts infoR
      have HI : Hid (Tryz.prog.info? 143 = some i0 ∧ i0.zero = some (.agg #[.int .i64 0, .int .i64 0]) ∧ i0.size = 2 ∧ i0.bytes = 16) := ⟨hi0, hz0, hz1, hz2⟩
      clear hi0 hz0 hz1 hz2 krS
      gi_wp2_with (gi_at_builtin; refine wpListIn_append_own _ rfl _ _ 88 rfl w1.heap.size 143 i0 _ 2 16 Tryz.underlying88 HI.out.1 HI.out.2.1 HI.out.2.2.1 HI.out.2.2.2 rfl (by decide) _ _ _ rfl (HK1.out.alloc _) ⟨W.heap.size, 0, none⟩ 1 1 [Value.int .i64 (st.1 - na' - 2 - nb'), Value.int .i64 (st.1 - na' - 2)] rfl rfl CS.out (by intro u hu; simp at hu; rcases hu with rfl | rfl <;> rfl) (by have := HPL.out; unfold maxLen; omega) (by have := HPL.out; omega) (by simp; omega) ?_; intro v' w4 hown' hgrow _; obtain ⟨g', cap', rfl⟩ := ownsRow_succ hown'; obtain ⟨hv1, hv2, hr2, hk2, hb2⟩ := kOS.appended (by decide) HK1.out (by rw [hszS]; exact hszW) (Nat.le_of_lt hBo1) hown' hgrow; have hc1 := hv1.cell; have hf1 := hv1.frozen)
      have kL4 := ((kLS.alloc _).kept hgrow (kLS.not_row (by decide) HK1.out)).other (B' := Bo) (by omega) (.slice (some ⟨g', 0, none⟩) (pre.length + 1 + 1) cap')
      have kS4 := ((kSS.alloc _).kept hgrow (kSS.not_row (by decide) HK1.out)).other (B' := Bo) (by have := HBo2.out; omega) (.slice (some ⟨g', 0, none⟩) (pre.length + 1 + 1) cap')
      have kN4 := ((kNS.alloc _).kept hgrow (kNS.not_row (by decide) HK1.out)).other (B' := Bo) (by have := HBo2.out; omega) (.slice (some ⟨g', 0, none⟩) (pre.length + 1 + 1) cap')
      refine ⟨(KO.trans hk2).from _, fun _ => ⟨kS4.cell, kN4.cell⟩, ?_, ⟨_, hv2, ?_, trivial⟩, kS4, kN4, hBS.trans hb2⟩
      · rw [HS.out, hSt.out]; exact kL4
      · rw [HS.out, hSt.out, List.length_append, flat_append]; exact hr2
    case done =>
      rintro D ys W hD hys ⟨kL, ⟨v, kO, kr, _⟩, kS, kN, hB⟩ hK
      have hal := aft_all M rest (hi - d) [(hi - d, hi)] hRl.out
      rw [hys, hal] at kL kr
      have hyl : ys.length = M := by have := congrArg List.length hys; simpa using this
      rw [hyl] at kr
      have HKR : Hid (W.ownsRow w1.heap.size 143 2 v (M + 1) (flat ((hi - d, hi) :: pairs (hi - d) rest))) := kr
      obtain ⟨gr, capr, rfl⟩ := ownsRow_succ kr
      simp only at kL
      have kLc := kL.cell
      have kOc := kO.cell
      have hBw : Hid (Below w.heap.size w W) := HB1.out.trans (hB.mono HB1.out.size)
      have hDw : Hid (w.heap.size ≤ D) := by
        show _ ≤ _
        have := SZ2.out
        have := HB1.out.size
        omega
      have hRow : Hid (Row (W.putObj D (.deferred none)) (.slice (some ⟨gr, 0, none⟩) (M + 1) capr) ((hi - d, hi) :: pairs (hi - d) rest)) := row_of_own (ownsRow_putObj kr _ hK rfl) (by
        have := own_length (zs := (hi - d, hi) :: pairs (hi - d) rest) HKR.out
        omega)
      have hFit : Hid (Fits (.slice (some ⟨gr, 0, none⟩) (M + 1) capr)) := fits_own kr
      clear hal hys kr kS kN hyl hM12 sz3 hB
      by_cases hneg : lastLo (hi - d) rest < 0
      · gi_wp2
        refine ⟨by simp, .inl ⟨_, _, rfl, run_takeDeferred hK, ?_⟩⟩
        exact ⟨_, results_tmp2 rfl _ _ _, .inl ⟨hneg, rfl⟩, hBw.out.trans (belowK_b (w := w) (Nat.le_refl _) W D _ _ hDw.out hK rfl rfl)⟩
      · have hpos : 0 ≤ lastLo (hi - d) rest := by omega
        gi_wp2
        refine ⟨by simp, .inl ⟨_, _, rfl, run_takeDeferred hK, ?_⟩⟩
        exact ⟨_, results_tmp2 rfl _ _ _, .inr ⟨_, rfl, hRow.out, hFit.out⟩, hBw.out.trans (belowK_b (w := w) (Nat.le_refl _) W D _ _ hDw.out hK rfl rfl)⟩
    case stop =>
      rintro D c pre W _ _ h _
      exact h.elim
  gi_region
  · refine KEY (w1.heap.size + 1 + 1) (w1.heap.size + 1) _ ((bx.alloc _).alloc _) ?_ ?_ (((hB1.alloc (by omega) _).alloc (by simp; omega) _).drew) (by simp [World.drew]; omega) (by omega) (by simp [World.drew]; omega)
    · have := Boxed.new (W1.alloc (.cells #[.int .i64 (hi - d), .int .i64 hi] 143)) 88 (.slice (some ⟨w1.heap.size + 1, 0, none⟩) 1 1)
      rw [World.size_alloc, sz1] at this
      exact this
    · have := (World.ownsRow_lit (base := w1.heap.size) (e := 143) (size := 2) W1 #[.int .i64 (hi - d), .int .i64 hi] 1 (by omega) (by decide) rfl).alloc (.cells #[.slice (some ⟨w1.heap.size + 1, 0, none⟩) 1 1] 88)
      rw [sz1] at this
      exact this
  · refine KEY (w1.heap.size + 1) (w1.heap.size + 1 + 1) _ ((bx.alloc _).alloc _) ?_ ?_ (((hB1.alloc (by omega) _).alloc (by simp; omega) _).drew) (by simp [World.drew]; omega) (by omega) (by simp [World.drew]; omega)
    · have := (Boxed.new W1 88 (.slice (some ⟨w1.heap.size + 1 + 1, 0, none⟩) 1 1)).alloc (.cells #[.int .i64 (hi - d), .int .i64 hi] 143)
      rw [sz1] at this
      exact this
    · have := World.ownsRow_lit (base := w1.heap.size) (e := 143) (size := 2) (W1.alloc (.cells #[.slice (some ⟨w1.heap.size + 1 + 1, 0, none⟩) 1 1] 88)) #[.int .i64 (hi - d), .int .i64 hi] 1 (by simp; omega) (by decide) rfl
      rw [World.size_alloc, sz1] at this
      exact this
end Go.Proofs.YtdokgalidhmbbaaGreatDoor
namespace Go.Proofs.YtdokgalidhmbbaaGreatDoor
open Go.RowKit Go.Lib Go.Sort

theorem parse_calls (s : ByteArray) (w : World) (hF : V.Forms w) (hl : s.size ≤ maxLen) :
    Calls Tryz.prog 239 #[.string s] w fun e w' => ((parse (V.ints s) = none ∧ e = .returned (.tuple #[.slice none 0 0, errS])) ∨ (∃ zs v, parse (V.ints s) = some zs ∧ e = .returned (.tuple #[v, .nilIface]) ∧ Row w' v zs ∧ Fits v)) ∧ Below w.heap.size w w' := by
  cases hr : rd 25 (V.ints s) with
  | none =>
    refine (parse_rd s w hF hl hr).mono fun e w' ⟨he, hb⟩ => ⟨.inl ⟨?_, he⟩, hb⟩
    simp [parse, hr]
  | some ns =>
    obtain ⟨_, hm, hlen⟩ := rd_inv 25 _ _ (bytes_ints s) hr
    have hp : parse (V.ints s) = parseN ns := by simp [parse, hr]
    rw [hp]
    match ns, hr, hm, hlen with
    | [], hr, _, _ => exact (parse_few s w hF hl _ hr (by simp)).mono fun e w' ⟨he, hb⟩ => ⟨.inl ⟨rfl, he⟩, hb⟩
    | [_], hr, _, _ => exact (parse_few s w hF hl _ hr (by simp)).mono fun e w' ⟨he, hb⟩ => ⟨.inl ⟨rfl, he⟩, hb⟩
    | [_, _], hr, _, _ => exact (parse_few s w hF hl _ hr (by simp)).mono fun e w' ⟨he, hb⟩ => ⟨.inl ⟨rfl, he⟩, hb⟩
    | hi :: m :: d :: rest, hr, hm, hlen =>
      by_cases hc : (rest.length : Int) = 2 * m
      · refine (parse_go s w hF hl hi m d rest hr hm hc).mono ?_
        rintro e w' ⟨⟨h1, he⟩ | ⟨h1, v, he, hR, hf⟩, hb⟩
        · exact ⟨.inl ⟨by simp only [parseN]; rw [if_neg (by omega)], he⟩, hb⟩
        · exact ⟨.inr ⟨_, v, by simp only [parseN]; rw [if_pos ⟨hc, h1⟩], he, hR, hf⟩, hb⟩
      · refine (parse_odd s w hF hl hi m d rest hr (hm m (by simp)) hc).mono fun e w' ⟨he, hb⟩ => ⟨.inl ⟨?_, he⟩, hb⟩
        simp only [parseN]; rw [if_neg (by omega)]
theorem parse_no (s : ByteArray) (w : World) (hF : V.Forms w) (hl : s.size ≤ maxLen) (h : parse (V.ints s) = none) :
    Calls Tryz.prog 239 #[.string s] w fun e w' => e = .returned (.tuple #[.slice none 0 0, .iface 133 (.int .i64 2)]) ∧ Below w.heap.size w w' := by
  refine (parse_calls s w hF hl).mono ?_
  rintro e w' ⟨⟨_, he⟩ | ⟨zs, v, h1, _⟩, hb⟩
  · exact ⟨he, hb⟩
  · rw [h] at h1; cases h1
theorem parse_yes (s : ByteArray) (w : World) (hF : V.Forms w) (hl : s.size ≤ maxLen) (zs : List R) (h : parse (V.ints s) = some zs) :
    Calls Tryz.prog 239 #[.string s] w fun e w' => ∃ v, e = .returned (.tuple #[v, .nilIface]) ∧ Row w' v zs ∧ Fits v ∧ Below w.heap.size w w' := by
  refine (parse_calls s w hF hl).mono ?_
  rintro e w' ⟨⟨h1, _⟩ | ⟨ys, v, h1, he, hR, hf⟩, hb⟩
  · rw [h] at h1; cases h1
  · rw [h] at h1; cases h1; exact ⟨v, he, hR, hf, hb⟩

end Go.Proofs.YtdokgalidhmbbaaGreatDoor
