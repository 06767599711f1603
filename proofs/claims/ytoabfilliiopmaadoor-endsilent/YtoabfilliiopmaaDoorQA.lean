/- Frames one behind the other, and a packet: what is wrong with it, its bytes, and what bytes read as. No program stands here. -/
import Derived.Test.YtoabfilliiopmaaDoorFA
import Derived.Test.YtoabfilliiopmaaDoorNU
namespace Go.Proofs.YtoabfilliiopmaaDoor
open Go.RowKit Go.Lib Go.Sort
set_option linter.unusedVariables false
set_option linter.unusedSimpArgs false


abbrev F := Int × List Int × ByteArray
def fF (f : F) : Int := frF f.1 f.2.1 f.2.2
def fS (f : F) : ByteArray := frS f.1 f.2.1 f.2.2
def fat (l : List F) (j : Nat) : F := l[j]?.getD (0, [], { data := #[] })
/-- What is wrong with the first frame that is wrong. -/
def fsF : List F → Int
  | [] => 0
  | f :: fs => if fF f ≠ 0 then fF f else fsF fs
/-- Their bytes, one behind the other. -/
def fsS : List F → ByteArray
  | [] => { data := #[] }
  | f :: fs => fS f ++ fsS fs
theorem fat_cons (f : F) (l : List F) (j : Nat) : fat (f :: l) (j + 1) = fat l j := by simp [fat]
theorem fat_zero (f : F) (l : List F) : fat (f :: l) 0 = f := by simp [fat]
theorem fat_get {l : List F} {j : Nat} (h : j < l.length) : fat l j = l[j] := by simp [fat, h]
theorem fat_mem {l : List F} {j : Nat} (h : j < l.length) : fat l j ∈ l := by rw [fat_get h]; exact List.getElem_mem h
theorem fsF_at : ∀ (l : List F) (k : Nat), k < l.length → (∀ j, j < k → fF (fat l j) = 0) → fF (fat l k) ≠ 0 → fsF l = fF (fat l k)
  | [], k, h, _, _ => by simp at h
  | f :: l, 0, _, _, hn => by
    rw [fat_zero] at hn ⊢
    simp [fsF, hn]
  | f :: l, k + 1, h, h0, hn => by
    have e := h0 0 (by omega)
    rw [fat_zero] at e
    rw [fat_cons] at hn ⊢
    simp only [fsF, e, ne_eq, not_true, if_false]
    exact fsF_at l k (by simpa using h) (fun j hj => by have := h0 (j + 1) (by omega); rwa [fat_cons] at this) hn
theorem fsF_ok : ∀ (l : List F), (∀ j, j < l.length → fF (fat l j) = 0) → fsF l = 0
  | [], _ => rfl
  | f :: l, h => by
    have e := h 0 (by simp)
    rw [fat_zero] at e
    simp only [fsF, e, ne_eq, not_true, if_false]
    exact fsF_ok l (fun j hj => by have := h (j + 1) (by simpa using hj); rwa [fat_cons] at this)
theorem fsF_all : ∀ (l : List F), fsF l = 0 → ∀ j, j < l.length → fF (fat l j) = 0
  | [], _, j, h => by simp at h
  | f :: l, h, j, hj => by
    by_cases e : fF f = 0
    · simp only [fsF, e, ne_eq, not_true, if_false] at h
      cases j with
      | zero => rw [fat_zero]; exact e
      | succ j => rw [fat_cons]; exact fsF_all l h j (by simpa using hj)
    · simp only [fsF, ne_eq, e, not_false_iff, if_true] at h
theorem ba_assoc (a b c : ByteArray) : a ++ b ++ c = a ++ (b ++ c) := by
  apply ints_inj
  simp only [V.ints_app, List.append_assoc]
theorem ba_nil (a : ByteArray) : a ++ ({ data := #[] } : ByteArray) = a := by
  apply ints_inj
  rw [V.ints_app]
  show V.ints a ++ [] = _
  simp
theorem nil_ba (a : ByteArray) : ({ data := #[] } : ByteArray) ++ a = a := by
  apply ints_inj
  rw [V.ints_app]
  rfl
theorem fsS_append : ∀ (a b : List F), fsS (a ++ b) = fsS a ++ fsS b
  | [], b => by simp only [List.nil_append, fsS]; rw [nil_ba]
  | f :: a, b => by simp only [List.cons_append, fsS, fsS_append a b, ba_assoc]
theorem fsS_one (f : F) : fsS [f] = fS f := by simp only [fsS]; rw [ba_nil]
theorem fsS_next {l : List F} {k : Nat} (h : k < l.length) : fsS (l.take (k + 1)) = fsS (l.take k) ++ fS (fat l k) := by
  rw [List.take_succ_eq_append_getElem h, fsS_append, fsS_one, fat_get h]
theorem frS_pos (k : Int) (ns : List Int) (d : ByteArray) : 1 ≤ (frS k ns d).size := by
  unfold frS
  rw [ByteArray.size_append, ByteArray.size_append]
  have : (strOfNums [k]).size = 1 := rfl
  omega

/-- The bytes of a number that is cut, the greatest first. -/
def numB (n b : Int) : List Int := if b = 1 then [n % 256] else if b = 2 then [n / 256 % 256, n % 256] else if b = 3 then [n / 65536 % 256, n / 256 % 256, n % 256] else [n / 16777216 % 256, n / 65536 % 256, n / 256 % 256, n % 256]
def pkN (n k : Int) : ByteArray := strOfNums [U.need n k] ++ strOfNums (numB n (U.need n k))
def pkS (n k : Int) (l : List F) : ByteArray := pkN n k ++ fsS l
/-- What is wrong with a packet. -/
def pkF (n k : Int) (l : List F) : Int := if U.pairB n k = false then 1 else if l.length = 0 then 5 else if 12 < l.length then 4 else if fsF l ≠ 0 then fsF l else if 200 < (pkS n k l).size then 4 else 0
theorem numB_length {n b : Int} (h : U.lenB b = true) : ((numB n b).length : Int) = b := by
  rcases U.lenB_yes h with rfl | rfl | rfl | rfl <;> rfl
theorem numB_bytes (n b : Int) : Bytes (numB n b) := by
  have h : ∀ m : Int, 0 ≤ m % 256 ∧ m % 256 < 256 := fun m => by omega
  unfold numB Bytes
  intro z hz
  split at hz
  · simp at hz; subst hz; exact h _
  · split at hz
    · simp at hz; rcases hz with rfl | rfl <;> exact h _
    · split at hz
      · simp at hz; rcases hz with rfl | rfl | rfl <;> exact h _
      · simp at hz; rcases hz with rfl | rfl | rfl | rfl <;> exact h _

/-- Bytes as one number, the greatest first. -/
def big (l : List Int) : Int := l.foldl (fun c x => 256 * c + x) 0
theorem big_next {l : List Int} {k : Nat} (h : k < l.length) : big (l.take (k + 1)) = 256 * big (l.take k) + l[k]?.getD 0 := by
  rw [List.take_succ_eq_append_getElem h, List.getElem?_eq_getElem h]
  unfold big
  rw [List.foldl_append]
  rfl
theorem big_bd {l : List Int} (hl : Bytes l) : ∀ k, k ≤ l.length → 0 ≤ big (l.take k) ∧ big (l.take k) < (256 : Int) ^ k := by
  intro k
  induction k with
  | zero => intro _; simp [big]
  | succ k ih =>
    intro h
    have i := ih (by omega)
    have hb : 0 ≤ l[k]?.getD 0 ∧ l[k]?.getD 0 < 256 := by
      rw [List.getElem?_eq_getElem (by omega)]
      exact hl _ (List.getElem_mem _)
    rw [big_next (by omega), Int.pow_succ]
    generalize l[k]?.getD 0 = y at hb
    generalize big (l.take k) = z at i
    generalize (256 : Int) ^ k = p at i
    omega
theorem big_small {l : List Int} (hl : Bytes l) (k : Nat) (h : k ≤ l.length) (h3 : k ≤ 3) : 0 ≤ big (l.take k) ∧ big (l.take k) < 16777216 := by
  have i := big_bd hl k h
  have : (256 : Int) ^ k ≤ 16777216 := by
    match k, h3 with
    | 0, _ => decide
    | 1, _ => decide
    | 2, _ => decide
    | 3, _ => decide
  omega
theorem big_numB {n b : Int} (h0 : 0 ≤ n) (hb : U.lenB b = true) : big (numB n b) = n % U.rnd b := by
  rcases U.lenB_yes hb with rfl | rfl | rfl | rfl <;> simp [numB, big, U.rnd] <;> omega

/-- All frames that bytes are, to the last byte, where there are no more than k of them. -/
def rdLk : Nat → ByteArray → Option (List F)
  | 0, s => if s.size = 0 then some [] else none
  | k + 1, s => if s.size = 0 then some [] else
    match rdF s with
    | none => none
    | some x => (rdLk k (s.extract x.2 s.size)).map (x.1 :: ·)
/-- All frames that bytes are, to the last byte. -/
def rdL (s : ByteArray) : Option (List F) := rdLk s.size s
theorem rdLk_enough : ∀ (k j : Nat) (s : ByteArray), s.size ≤ k → s.size ≤ j → rdLk k s = rdLk j s := by
  intro k
  induction k with
  | zero =>
    intro j s hk _
    have h0 : s.size = 0 := by omega
    cases j with
    | zero => rfl
    | succ j => simp only [rdLk, if_pos h0]
  | succ k ih =>
    intro j s hk hj
    by_cases h0 : s.size = 0
    · cases j with
      | zero => simp only [rdLk, if_pos h0]
      | succ j => simp only [rdLk, if_pos h0]
    · cases j with
      | zero => omega
      | succ j =>
        simp only [rdLk, if_neg h0]
        cases h1 : rdF s with
        | none => rfl
        | some x =>
          obtain ⟨⟨a, ns, d⟩, n⟩ := x
          have hi := rdF_inv h1
          have hz : (s.extract n s.size).size = s.size - n := by rw [ByteArray.size_extract]; omega
          simp only
          rw [ih j (s.extract n s.size) (by omega) (by omega)]
theorem rdL_nil {s : ByteArray} (h : s.size = 0) : rdL s = some [] := by
  unfold rdL
  rw [h]
  simp only [rdLk, if_pos h]
theorem rdL_none {s : ByteArray} (h : s.size ≠ 0) (h1 : rdF s = none) : rdL s = none := by
  obtain ⟨m, hm⟩ : ∃ m, s.size = m + 1 := ⟨s.size - 1, by omega⟩
  unfold rdL
  rw [hm]
  simp only [rdLk, if_neg h, h1]
theorem rdL_some {s : ByteArray} {f : F} {n : Nat} (h : s.size ≠ 0) (h1 : rdF s = some (f, n)) : rdL s = (rdL (s.extract n s.size)).map (f :: ·) := by
  obtain ⟨m, hm⟩ : ∃ m, s.size = m + 1 := ⟨s.size - 1, by omega⟩
  obtain ⟨a, ns, d⟩ := f
  have hi := rdF_inv h1
  have hz : (s.extract n s.size).size = s.size - n := by rw [ByteArray.size_extract]; omega
  have e : rdL s = (rdLk m (s.extract n s.size)).map ((a, ns, d) :: ·) := by
    show rdLk s.size s = _
    conv => lhs; rw [hm]
    simp only [rdLk, if_neg h, h1]
  rw [e, rdLk_enough m (s.extract n s.size).size _ (by omega) (Nat.le_refl _)]
  rfl
theorem rdL_ne {s : ByteArray} (h : s.size ≠ 0) : rdL s ≠ some [] := by
  intro e
  cases h1 : rdF s with
  | none => rw [rdL_none h h1] at e; cases e
  | some x =>
    obtain ⟨f, n⟩ := x
    rw [rdL_some h h1] at e
    cases h2 : rdL (s.extract n s.size) with
    | none => rw [h2] at e; cases e
    | some y => rw [h2] at e; cases e
/-- Some of them were read, and these bytes are left. -/
def rdLA (L : List F) (s : ByteArray) : Option (List F) := (rdL s).map (L ++ ·)
theorem rdLA_start (s : ByteArray) : rdLA [] s = rdL s := by unfold rdLA; cases rdL s <;> simp
theorem rdLA_nil {L : List F} {s : ByteArray} (h : s.size = 0) : rdLA L s = some L := by simp [rdLA, rdL_nil h]
theorem rdLA_none {L : List F} {s : ByteArray} (h : s.size ≠ 0) (h1 : rdF s = none) : rdLA L s = none := by simp [rdLA, rdL_none h h1]
theorem rdLA_some {L : List F} {s : ByteArray} {f : F} {n : Nat} (h : s.size ≠ 0) (h1 : rdF s = some (f, n)) : rdLA L s = rdLA (L ++ [f]) (s.extract n s.size) := by
  unfold rdLA
  rw [rdL_some h h1]
  cases rdL (s.extract n s.size) <;> simp
theorem rdLA_good {L : List F} {s : ByteArray} {f : F} {n : Nat} (h1 : rdF s = some (f, n)) : fF f = 0 ∧ 1 ≤ n ∧ n ≤ s.size := by
  obtain ⟨k, ns, d⟩ := f
  have := rdF_inv h1
  exact ⟨this.1, this.2.1, this.2.2.1⟩
/-- From one to twelve of them. -/
def fin (o : Option (List F)) : Option (List F) := o.bind fun l => if l.length = 0 ∨ 12 < l.length then none else some l
theorem fin_full {L : List F} {s : ByteArray} (hL : L.length = 12) (h : s.size ≠ 0) : fin (rdLA L s) = none := by
  unfold rdLA
  cases h1 : rdL s with
  | none => rfl
  | some y =>
    have hy : y.length ≠ 0 := fun e => by rw [List.eq_nil_of_length_eq_zero e] at h1; exact rdL_ne h h1
    simp only [Option.map_some, fin, Option.bind_some]
    rw [if_pos (by rw [List.length_append]; omega)]
theorem fin_some {l : List F} (h : 1 ≤ l.length) (h2 : l.length ≤ 12) : fin (some l) = some l := by
  simp only [fin, Option.bind_some]
  rw [if_neg (by omega)]
theorem fin_nil : fin (some []) = none := rfl
theorem fin_long {l : List F} (h : 12 < l.length) : fin (some l) = none := by
  simp only [fin, Option.bind_some]
  rw [if_pos (by omega)]
/-- The number that a packet's bytes begin with, and how many these are. -/
def rdN (s : ByteArray) (next : Int) : Option (Int × Nat) := match V.ints s with
  | [] => none
  | k :: l => if U.lenB k = false ∨ (l.length : Int) < k then none else if U.wholeB (big (l.take k.toNat)) k next = false then none else some (U.near (big (l.take k.toNat)) (U.rnd k) next, 1 + k.toNat)
def rdP (s : ByteArray) (next : Int) : Option (Int × List F) := (rdN s next).bind fun x => (fin (rdL (s.extract x.2 s.size))).map fun l => (x.1, l)
/-- What is wrong with bytes as a packet. -/
def opF (s : ByteArray) (next : Int) : Int := if U.mayB next = false then 1 else if 200 < s.size then 4 else if rdP s next = none then 2 else 0
theorem rdN_le {s : ByteArray} {next n : Int} {c : Nat} (h : rdN s next = some (n, c)) : 2 ≤ c ∧ c ≤ s.size := by
  unfold rdN at h
  cases hs : V.ints s with
  | nil => rw [hs] at h; cases h
  | cons k l =>
    rw [hs] at h
    simp only at h
    have hz : s.size = l.length + 1 := by rw [← ints_length, hs]; rfl
    split at h
    · cases h
    · rename_i h1
      split at h
      · cases h
      · simp only [Option.some.injEq, Prod.mk.injEq] at h
        have hk : U.lenB k = true := by
          cases e : U.lenB k with
          | true => rfl
          | false => exact absurd (Or.inl e) h1
        have := U.lenB_yes hk
        omega

theorem rdL_back : ∀ (l : List F), fsF l = 0 → rdL (fsS l) = some l
  | [], _ => rdL_nil rfl
  | f :: l, h => by
    have h0 := fsF_all _ h 0 (by simp)
    rw [fat_zero] at h0
    have h1 : fsF l = 0 := by simpa only [fsF, h0, ne_eq, not_true, if_false] using h
    obtain ⟨k, ns, d⟩ := f
    have hb := rdF_back (k := k) (ns := ns) (d := d) h0 (fsS l)
    have hp := frS_pos k ns d
    have hsz : (fsS ((k, ns, d) :: l)).size ≠ 0 := by
      show (frS k ns d ++ fsS l).size ≠ 0
      rw [ByteArray.size_append]; omega
    rw [rdL_some hsz (show rdF (fsS ((k, ns, d) :: l)) = some ((k, ns, d), (frS k ns d).size) from hb)]
    have e : (fsS ((k, ns, d) :: l)).extract (frS k ns d).size (fsS ((k, ns, d) :: l)).size = fsS l := by
      apply ints_inj
      rw [ints_drop _ _ (by show _ ≤ (frS k ns d ++ fsS l).size; rw [ByteArray.size_append]; omega)]
      show (V.ints (frS k ns d ++ fsS l)).drop _ = _
      rw [V.ints_app, ← ints_length (frS k ns d), List.drop_left]
    rw [e, rdL_back l h1]
    rfl
theorem pkF_ok {n k : Int} {l : List F} (h : pkF n k l = 0) : U.pairB n k = true ∧ 1 ≤ l.length ∧ l.length ≤ 12 ∧ fsF l = 0 ∧ (pkS n k l).size ≤ 200 := by
  unfold pkF at h
  split at h
  · cases h
  · rename_i h1
    split at h
    · cases h
    · split at h
      · cases h
      · split at h
        · contradiction
        · rename_i h4
          split at h
          · cases h
          · exact ⟨by simpa using h1, by omega, by omega, by simpa using h4, by omega⟩
theorem ints_pkN (n k : Int) : V.ints (pkN n k) = U.need n k :: numB n (U.need n k) := by
  unfold pkN
  have h := U.lenB_yes (U.need_len n k)
  rw [V.ints_app, V.ints_nums _ (numB_bytes _ _), V.ints_nums [U.need n k] (fun z hz => by simp at hz; subst hz; omega)]
  rfl
theorem rdP_back {n k more : Int} {l : List F} (h : pkF n k l = 0) (h0 : k ≤ more) (h1 : more < n) : rdP (pkS n k l) (more + 1) = some (n, l) := by
  obtain ⟨hp, hl1, hl2, hf, hs⟩ := pkF_ok h
  obtain ⟨n0, _⟩ := U.pairB_yes hp
  obtain ⟨hw, hn⟩ := U.told_right n k more hp h0 h1
  have hlen := U.need_len n k
  have hnl := numB_length (n := n) hlen
  have hi : V.ints (pkS n k l) = U.need n k :: (numB n (U.need n k) ++ V.ints (fsS l)) := by
    unfold pkS
    rw [V.ints_app, ints_pkN]; rfl
  have ht : (numB n (U.need n k) ++ V.ints (fsS l)).take (U.need n k).toNat = numB n (U.need n k) := by
    rw [show (U.need n k).toNat = (numB n (U.need n k)).length by omega, List.take_left]
  have e1 : rdN (pkS n k l) (more + 1) = some (n, 1 + (U.need n k).toNat) := by
    unfold rdN
    rw [hi]
    simp only [ht, big_numB n0 hlen]
    rw [if_neg (fun hh => by
      rcases hh with e | e
      · rw [hlen] at e; cases e
      · rw [List.length_append] at e; omega), if_neg (by rw [hw]; decide), hn]
  have e2 : (pkS n k l).extract (1 + (U.need n k).toNat) (pkS n k l).size = fsS l := by
    have hsz : (pkS n k l).size = 1 + (U.need n k).toNat + (fsS l).size := by
      rw [← ints_length, hi, List.length_cons, List.length_append, ints_length]; omega
    apply ints_inj
    rw [ints_drop _ _ (by omega), hi, show 1 + (U.need n k).toNat = (numB n (U.need n k)).length + 1 by omega, List.drop_succ_cons, List.drop_left]
  unfold rdP
  rw [e1, Option.bind_some, e2, rdL_back l hf, fin_some hl1 hl2]
  rfl
end Go.Proofs.YtoabfilliiopmaaDoor
