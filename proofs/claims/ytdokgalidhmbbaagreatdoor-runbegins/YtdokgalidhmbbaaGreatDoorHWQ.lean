/- What the laws of package run need. -/
import Derived.Test.YtdokgalidhmbbaaGreatDoorHWD
import Derived.Test.YtdokgalidhmbbaaGreatDoorHWL
import Derived.Test.YtdokgalidhmbbaaGreatDoorHX
import Derived.Lib.AtoiAll
import Derived.Lib.ItoaMem
set_option linter.unusedVariables false
set_option linter.unusedSimpArgs false
set_option maxRecDepth 100000
set_option maxHeartbeats 8000000
namespace Go.Proofs.YtdokgalidhmbbaaGreatDoor
namespace Rn
open Go.RowKit

/-- A text cut at each byte c. -/
def cutF (c : UInt8) : List UInt8 → List (List UInt8)
  | [] => [[]]
  | x :: xs => if x = c then [] :: cutF c xs else match cutF c xs with
    | [] => [[x]]
    | w :: ws => (x :: w) :: ws
theorem cut_none (c : UInt8) : ∀ l : List UInt8, Lib.indexByte l c = -1 → cutF c l = [l]
  | [], _ => rfl
  | x :: xs, h => by
    rw [Lib.indexByte] at h
    by_cases hc : x = c
    · subst hc; simp at h
    · have hc2 : (x == c) = false := by simp [hc]
      rw [hc2] at h
      have h2 : Lib.indexByte xs c = -1 := by
        by_cases g : Lib.indexByte xs c = -1
        · exact g
        · have := Lib.indexByte_ge xs c
          simp [g] at h
          omega
      rw [cutF, if_neg hc, cut_none c xs h2]
theorem cut_some (c : UInt8) : ∀ (l : List UInt8) (i : Nat), Lib.indexByte l c = i → cutF c l = l.take i :: cutF c (l.drop (i + 1)) ∧ i + 1 ≤ l.length
  | [], i, h => by rw [Lib.indexByte] at h; omega
  | x :: xs, i, h => by
    rw [Lib.indexByte] at h
    by_cases hc : x = c
    · subst hc
      simp at h
      obtain rfl : i = 0 := by omega
      exact ⟨by rw [cutF, if_pos rfl]; rfl, by simp⟩
    · have hc2 : (x == c) = false := by simp [hc]
      rw [hc2] at h
      rw [cutF, if_neg hc]
      by_cases g : Lib.indexByte xs c = -1
      · simp [g] at h <;> omega
      · have g2 : (Lib.indexByte xs c == -1) = false := by simp [g]
        simp [g2] at h
        obtain ⟨j, rfl⟩ : ∃ j, i = j + 1 := ⟨i - 1, by have := Lib.indexByte_ge xs c; omega⟩
        obtain ⟨e1, e2⟩ := cut_some c xs j (by omega)
        rw [e1]
        exact ⟨rfl, by simpa using e2⟩
theorem one_le (c : UInt8) : 1 ≤ (ByteArray.mk #[c]).size := Nat.le_refl 1
theorem split_cut (c : UInt8) : ∀ (k : Nat) (l : List UInt8), Lib.countB (str l) ⟨#[c]⟩ = k → Lib.splitB ⟨#[c]⟩ 0 k (str l) = (cutF c l).map str := by
  intro k
  induction k with
  | zero =>
    intro l hk
    have hi : Lib.indexByte l c = -1 := by
      have := Lib.indexByte_ge l c
      by_cases g : Lib.indexByte l c = -1
      · exact g
      · obtain ⟨i, hi⟩ : ∃ i : Nat, Lib.indexByte l c = i := ⟨(Lib.indexByte l c).toNat, by omega⟩
        have e : Lib.indexB (str l) ⟨#[c]⟩ = i := by
          show Lib.index _ _ = _
          rw [str_list]; rw [← hi]; exact Lib.index_one l c
        have := Lib.countB_hit (str l) ⟨#[c]⟩ i (one_le c) e
        omega
    rw [Lib.splitB_zero, cut_none c l hi]
    rfl
  | succ k ih =>
    intro l hk
    by_cases g : Lib.indexByte l c = -1
    · have e : Lib.indexB (str l) ⟨#[c]⟩ = -1 := by
        show Lib.index _ _ = _
        rw [str_list]; rw [← g]; exact Lib.index_one l c
      rw [Lib.countB_miss _ _ e] at hk
      omega
    · have := Lib.indexByte_ge l c
      obtain ⟨i, hi⟩ : ∃ i : Nat, Lib.indexByte l c = i := ⟨(Lib.indexByte l c).toNat, by omega⟩
      have e : Lib.indexB (str l) ⟨#[c]⟩ = i := by
        show Lib.index _ _ = _
        rw [str_list]; rw [← hi]; exact Lib.index_one l c
      obtain ⟨e1, e2⟩ := cut_some c l i hi
      have h1 := Lib.countB_hit (str l) ⟨#[c]⟩ i (one_le c) e
      have p1 : (str l).extract 0 (i + 0) = str (l.take i) := by
        apply bytes_ext
        rw [str_list, Lib.extract_data, str_list]
        simp
      have p2 : (str l).extract (i + (ByteArray.mk #[c]).size) (str l).size = str (l.drop (i + 1)) := by
        apply bytes_ext
        show ((str l).extract (i + 1) (str l).size).data.toList = _
        rw [str_list, Lib.extract_data, str_list, str_size]
        exact List.take_of_length_le (by simp)
      rw [Lib.splitB_hit _ _ _ _ i e, p1, p2, e1, List.map_cons, ih (l.drop (i + 1)) (by rw [← p2]; have h2 : Lib.countB (str l) ⟨#[c]⟩ = 1 + Lib.countB ((str l).extract (i + (ByteArray.mk #[c]).size) (str l).size) ⟨#[c]⟩ := h1; rw [hk] at h2; omega)]
theorem parts_cut (l : List UInt8) : partsF (str l) = (cutF 32 l).map str := split_cut 32 _ l rfl

/-- A number of at most four digits, without a 0 that is not needed. -/
def dgtB (c : UInt8) : Bool := decide (48 ≤ c.toNat ∧ c.toNat ≤ 57)
def numD : List UInt8 → Option Int
  | [a] => if dgtB a = true then some ((a.toNat : Int) - 48) else none
  | [a, b] => if a ≠ 48 ∧ dgtB a = true ∧ dgtB b = true then some (((a.toNat : Int) - 48) * 10 + ((b.toNat : Int) - 48)) else none
  | [a, b, c] => if a ≠ 48 ∧ dgtB a = true ∧ dgtB b = true ∧ dgtB c = true then some ((((a.toNat : Int) - 48) * 10 + ((b.toNat : Int) - 48)) * 10 + ((c.toNat : Int) - 48)) else none
  | [a, b, c, d] => if a ≠ 48 ∧ dgtB a = true ∧ dgtB b = true ∧ dgtB c = true ∧ dgtB d = true then some (((((a.toNat : Int) - 48) * 10 + ((b.toNat : Int) - 48)) * 10 + ((c.toNat : Int) - 48)) * 10 + ((d.toNat : Int) - 48)) else none
  | _ => none
def digF (n : Nat) : List UInt8 :=
  if n < 10 then [UInt8.ofNat (48 + n)] else if n < 100 then [UInt8.ofNat (48 + n / 10), UInt8.ofNat (48 + n % 10)]
  else if n < 1000 then [UInt8.ofNat (48 + n / 100), UInt8.ofNat (48 + n / 10 % 10), UInt8.ofNat (48 + n % 10)]
  else [UInt8.ofNat (48 + n / 1000), UInt8.ofNat (48 + n / 100 % 10), UInt8.ofNat (48 + n / 10 % 10), UInt8.ofNat (48 + n % 10)]
theorem itoa_dig (n : Nat) (h : n < 10000) : Lib.itoa (n : Int) = digF n := by
  rw [Lib.itoa_nonneg]
  unfold digF
  by_cases h1 : n < 10
  · rw [if_pos h1, Lib.decDigits_one h1]
  rw [if_neg h1]
  by_cases h2 : n < 100
  · rw [if_pos h2, Lib.decDigits_two h1 h2]
  rw [if_neg h2]
  by_cases h3 : n < 1000
  · rw [if_pos h3, Lib.decDigits, dif_neg h1, Lib.decDigits_two (by omega) (by omega)]
    simp [show n / 10 / 10 = n / 100 by omega]
  rw [if_neg h3, Lib.decDigits, dif_neg h1, Lib.decDigits, dif_neg (by omega), Lib.decDigits_two (by omega) (by omega)]
  simp [show n / 100 / 10 = n / 1000 by omega, show n / 10 / 10 = n / 100 by omega]
theorem dig_nat (d : Nat) (h : d < 10) : (UInt8.ofNat (48 + d)).toNat = 48 + d := by
  rw [UInt8.toNat_ofNat']
  omega
theorem dgt_dig (d : Nat) (h : d < 10) : dgtB (UInt8.ofNat (48 + d)) = true := by
  unfold dgtB
  rw [dig_nat d h]
  exact decide_eq_true (by omega)
theorem dig_ne (d : Nat) (h : d < 10) (h0 : 0 < d) : UInt8.ofNat (48 + d) ≠ 48 := fun e => by
  have := congrArg UInt8.toNat e
  rw [dig_nat d h] at this
  have : 48 + d = 48 := this
  omega
theorem dgt_back {c : UInt8} (h : dgtB c = true) : c = UInt8.ofNat (48 + (c.toNat - 48)) ∧ c.toNat - 48 < 10 ∧ 48 ≤ c.toNat := by
  have h' : 48 ≤ c.toNat ∧ c.toNat ≤ 57 := of_decide_eq_true h
  refine ⟨?_, by omega, h'.1⟩
  rw [show 48 + (c.toNat - 48) = c.toNat by omega, UInt8.ofNat_toNat]
theorem numD_dig (n : Nat) (h : n < 10000) : numD (digF n) = some (n : Int) := by
  unfold digF
  by_cases h1 : n < 10
  · rw [if_pos h1, numD, if_pos (dgt_dig n h1), dig_nat n h1]
    congr 1
    omega
  rw [if_neg h1]
  by_cases h2 : n < 100
  · rw [if_pos h2, numD, if_pos ⟨dig_ne _ (by omega) (by omega), dgt_dig _ (by omega), dgt_dig _ (by omega)⟩, dig_nat _ (by omega), dig_nat _ (by omega)]
    congr 1
    omega
  rw [if_neg h2]
  by_cases h3 : n < 1000
  · rw [if_pos h3, numD, if_pos ⟨dig_ne _ (by omega) (by omega), dgt_dig _ (by omega), dgt_dig _ (by omega), dgt_dig _ (by omega)⟩, dig_nat _ (by omega), dig_nat _ (by omega), dig_nat _ (by omega)]
    congr 1
    omega
  rw [if_neg h3, numD, if_pos ⟨dig_ne _ (by omega) (by omega), dgt_dig _ (by omega), dgt_dig _ (by omega), dgt_dig _ (by omega), dgt_dig _ (by omega)⟩, dig_nat _ (by omega), dig_nat _ (by omega), dig_nat _ (by omega), dig_nat _ (by omega)]
  congr 1
  omega
theorem ne48 {a : UInt8} (h : a ≠ 48) (hd : 48 ≤ a.toNat) : 0 < a.toNat - 48 := by
  have : a.toNat ≠ 48 := fun e => h (UInt8.toNat_inj.1 e)
  omega
theorem numD_yes : ∀ {l : List UInt8} {v : Int}, numD l = some v → ∃ n : Nat, v = n ∧ n < 10000 ∧ l = digF n
  | [], v, h => by simp [numD] at h
  | [a], v, h => by
    rw [numD] at h
    split at h
    · rename_i ha
      obtain ⟨a1, a2, a3⟩ := dgt_back ha
      refine ⟨a.toNat - 48, by injection h with h; omega, by omega, ?_⟩
      rw [digF, if_pos a2, ← a1]
    · cases h
  | [a, b], v, h => by
    rw [numD] at h
    split at h
    · rename_i ha
      obtain ⟨h0, ha, hb⟩ := ha
      obtain ⟨a1, a2, a3⟩ := dgt_back ha
      obtain ⟨b1, b2, b3⟩ := dgt_back hb
      have := ne48 h0 a3
      refine ⟨(a.toNat - 48) * 10 + (b.toNat - 48), by injection h with h; omega, by omega, ?_⟩
      rw [digF, if_neg (by omega), if_pos (by omega), show ((a.toNat - 48) * 10 + (b.toNat - 48)) / 10 = a.toNat - 48 by omega, show ((a.toNat - 48) * 10 + (b.toNat - 48)) % 10 = b.toNat - 48 by omega, ← a1, ← b1]
    · cases h
  | [a, b, c], v, h => by
    rw [numD] at h
    split at h
    · rename_i ha
      obtain ⟨h0, ha, hb, hc⟩ := ha
      obtain ⟨a1, a2, a3⟩ := dgt_back ha
      obtain ⟨b1, b2, b3⟩ := dgt_back hb
      obtain ⟨c1, c2, c3⟩ := dgt_back hc
      have := ne48 h0 a3
      refine ⟨((a.toNat - 48) * 10 + (b.toNat - 48)) * 10 + (c.toNat - 48), by injection h with h; omega, by omega, ?_⟩
      rw [digF, if_neg (by omega), if_neg (by omega), if_pos (by omega), show (((a.toNat - 48) * 10 + (b.toNat - 48)) * 10 + (c.toNat - 48)) / 100 = a.toNat - 48 by omega, show (((a.toNat - 48) * 10 + (b.toNat - 48)) * 10 + (c.toNat - 48)) / 10 % 10 = b.toNat - 48 by omega,
        show (((a.toNat - 48) * 10 + (b.toNat - 48)) * 10 + (c.toNat - 48)) % 10 = c.toNat - 48 by omega, ← a1, ← b1, ← c1]
    · cases h
  | [a, b, c, d], v, h => by
    rw [numD] at h
    split at h
    · rename_i ha
      obtain ⟨h0, ha, hb, hc, hd⟩ := ha
      obtain ⟨a1, a2, a3⟩ := dgt_back ha
      obtain ⟨b1, b2, b3⟩ := dgt_back hb
      obtain ⟨c1, c2, c3⟩ := dgt_back hc
      obtain ⟨d1, d2, d3⟩ := dgt_back hd
      have := ne48 h0 a3
      obtain ⟨n, hn⟩ : ∃ n, n = (((a.toNat - 48) * 10 + (b.toNat - 48)) * 10 + (c.toNat - 48)) * 10 + (d.toNat - 48) := ⟨_, rfl⟩
      refine ⟨n, by injection h with h; omega, by omega, ?_⟩
      rw [digF, if_neg (by omega), if_neg (by omega), if_neg (by omega), show n / 1000 = a.toNat - 48 by omega, show n / 100 % 10 = b.toNat - 48 by omega, show n / 10 % 10 = c.toNat - 48 by omega, show n % 10 = d.toNat - 48 by omega, ← a1, ← b1, ← c1, ← d1]
    · cases h
  | _ :: _ :: _ :: _ :: _ :: _, v, h => by simp [numD] at h
/-- A magnitude as an int. -/
def okN : Lib.NumEnd Nat → Lib.NumEnd Int
  | .ok u => if 9223372036854775808 ≤ u then .range else .ok (u : Int)
  | .range => .range
  | _ => Lib.atoiAll []
theorem atoi_dig (n : Nat) (h : n < 10000) : Lib.atoiAll (digF n) = .ok (n : Int) := by
  have hn : ∀ d, d < 10 → (UInt8.ofNat (48 + d)).toNat = 48 + d := dig_nat
  have st : ∀ (d : Nat) (r : List UInt8), d < 10 → Lib.atoiAll (UInt8.ofNat (48 + d) :: r) = okN (Lib.parseUint10 0 (UInt8.ofNat (48 + d) :: r)) := fun d r hd => by
    rw [Lib.atoiAll]
    simp only [hn d hd]
    rw [if_neg (by omega), Lib.parseMag, if_neg (by simp)]
    cases Lib.parseUint10 0 (UInt8.ofNat (48 + d) :: r) with
    | ok u => simp [okN, show ¬ 48 + d = 45 by omega]
    | _ => rfl
  have go : ∀ (acc d : Nat) (r : List UInt8), d < 10 → acc < 1000 → Lib.parseUint10 acc (UInt8.ofNat (48 + d) :: r) = Lib.parseUint10 (acc * 10 + d) r := fun acc d r hd ha => by
    rw [Lib.parseUint10]
    rw [hn d hd, if_pos (by omega), if_neg (by omega), if_neg (by omega)]
    congr 1
    omega
  have fin : ∀ u : Nat, u = n → okN (.ok u) = .ok (n : Int) := fun u hu => by subst hu; rw [okN, if_neg (by omega)]
  unfold digF
  by_cases h1 : n < 10
  · rw [if_pos h1, st _ _ h1, go _ _ _ h1 (by omega), Lib.parseUint10]
    exact fin _ (by omega)
  rw [if_neg h1]
  by_cases h2 : n < 100
  · rw [if_pos h2, st _ _ (by omega), go _ _ _ (by omega) (by omega), go _ _ _ (by omega) (by omega), Lib.parseUint10]
    exact fin _ (by omega)
  rw [if_neg h2]
  by_cases h3 : n < 1000
  · rw [if_pos h3, st _ _ (by omega), go _ _ _ (by omega) (by omega), go _ _ _ (by omega) (by omega), go _ _ _ (by omega) (by omega), Lib.parseUint10]
    exact fin _ (by omega)
  rw [if_neg h3, st _ _ (by omega), go _ _ _ (by omega) (by omega), go _ _ _ (by omega) (by omega), go _ _ _ (by omega) (by omega), go _ _ _ (by omega) (by omega), Lib.parseUint10]
  exact fin _ (by omega)
/-- The number of a line, read by its digits. -/
theorem num_eq (l : List UInt8) : numF l = numD l := by
  cases hd : numD l with
  | some v =>
    obtain ⟨n, rfl, hn, rfl⟩ := numD_yes hd
    unfold numF
    rw [atoi_dig n hn]
    simp only
    rw [if_neg (by rintro (h | h | h); omega; omega; exact h (itoa_dig n hn))]
  | none =>
    unfold numF
    cases Lib.atoiAll l with
    | ok v =>
      simp only
      split
      · rfl
      · rename_i h
        exfalso
        have h0 : 0 ≤ v := Int.not_lt.1 fun e => h (.inl e)
        have h9 : v ≤ 9999 := Int.not_lt.1 fun e => h (.inr (.inl e))
        have hi : Lib.itoa v = l := Decidable.byContradiction fun e => h (.inr (.inr e))
        obtain ⟨n, rfl⟩ : ∃ n : Nat, v = n := ⟨v.toNat, by omega⟩
        rw [itoa_dig n (by omega)] at hi
        rw [← hi, numD_dig n (by omega)] at hd
        cases hd
    | _ => rfl
/-- What a line asks for: its first word, its numbers, its last word. -/
def ordL (ps : List (List UInt8)) : Option (List UInt8 × Int × Int × List UInt8) :=
  match wantF (ps.getD 0 []) with
  | none => none
  | some (a, b) =>
    if ps.length ≠ 1 + a + b ∨ [] ∈ ps then none else
    match (if 1 ≤ a then numD (ps.getD 1 []) else some 0), (if 2 ≤ a then numD (ps.getD 2 []) else some 0) with
    | some x, some y => some (ps.getD 0 [], x, y, if 1 ≤ b then ps.getD (1 + a) [] else [])
    | _, _ => none
theorem getD_str (ps : List (List UInt8)) (j : Nat) : (ps.map str).getD j emp = str (ps.getD j []) := by
  simp only [List.getD, List.getElem?_map]
  cases ps[j]? <;> rfl
theorem str_inj {a b : List UInt8} (h : str a = str b) : a = b := by
  have := congrArg (fun x : ByteArray => x.data.toList) h
  simpa [str] using this
theorem has_empty (ps : List (List UInt8)) : (Lib.containsS (ps.map str) emp = true) = ([] ∈ ps) := by
  rw [Lib.containsS_iff, List.mem_map]
  apply propext
  constructor
  · rintro ⟨x, hx, e⟩
    rw [show emp = str [] from rfl] at e
    rw [← str_inj e]; exact hx
  · intro h
    exact ⟨[], h, rfl⟩
theorem ord_eq (l : List UInt8) : ordF (str l) = (ordL (cutF 32 l)).map fun p => ⟨str p.1, p.2.1, p.2.2.1, str p.2.2.2⟩ := by
  unfold ordF
  rw [parts_cut]
  generalize cutF 32 l = ps
  unfold ordOf ordL
  rw [getD_str, str_list]
  cases wantF (ps.getD 0 []) with
  | none => rfl
  | some p =>
    obtain ⟨a, b⟩ := p
    simp only [List.length_map, has_empty]
    by_cases hb : ps.length ≠ 1 + a + b ∨ [] ∈ ps
    · rw [if_pos hb, if_pos hb]; rfl
    · rw [if_neg hb, if_neg hb]
      rw [getD_str, getD_str, getD_str, str_list, str_list, num_eq, num_eq]
      generalize (if 1 ≤ a then numD (ps.getD 1 []) else some 0) = u
      generalize (if 2 ≤ a then numD (ps.getD 2 []) else some 0) = v
      cases u <;> cases v <;> first | rfl | skip
      by_cases h1 : 1 ≤ b
      · simp [h1]
      · simp [h1]; rfl
end Rn
end Go.Proofs.YtdokgalidhmbbaaGreatDoor
namespace Go.Proofs.YtdokgalidhmbbaaGreatDoor
namespace Rn
open Go.RowKit

/-- The name of an error. -/
def errN (f : Int) : List UInt8 :=
  if f = 0 then [79, 75] else if f = 1 then [69, 114, 114, 82, 97, 110, 103, 101] else if f = 2 then [69, 114, 114, 83, 121, 110, 116, 97, 120] else if f = 3 then [69, 114, 114, 83, 104, 97, 112, 101] else if f = 4 then [69, 114, 114, 70, 117, 108, 108] else if f = 5 then [69, 114, 114, 78, 111, 110, 101] else if f = 6 then [69, 114, 114, 83, 116, 97, 116, 101] else if f = 7 then [69, 114, 114, 67, 108, 97, 115, 104] else if f = 8 then [69, 114, 114, 70, 108, 111, 119] else [69, 114, 114, 110, 111]
def badL : List UInt8 := [98, 97, 100]
def okL : List UInt8 := [111, 107]
/-- What a call tells: its text, where it tells no error; the error's number, 0: none; the Talk behind it. -/
structure Did where
  text : List UInt8
  flt : Int
  st : Tt
def dec (n : Int) : List UInt8 := Lib.join ((V.nums n).map fun i => digF i.toNat) [32]
def orMinus (b : ByteArray) : List UInt8 := if b.size = 0 then [45] else b.data.toList
def didF (l : List UInt8) (x y : Int) (wd : ByteArray) (s : Tt) : Did :=
  if l = [119, 114, 105, 116, 101] then ⟨okL, tWriteF s x wd, tWriteS s x wd⟩
  else if l = [115, 101, 110, 100] then ⟨okL, tSendF s x, tSendS s x⟩
  else if l = [99, 111, 109, 101] then ⟨okL, tComeF s x, tComeS s x⟩
  else if l = [108, 111, 115, 101] then ⟨okL, Lk.giveF s.ls x, tLoseS s x⟩
  else if l = [116, 119, 105, 99, 101] then ⟨okL, Lk.twF s.ls x, tTwiceS s x⟩
  else if l = [114, 101, 97, 100] then ⟨orMinus (tReadB s x y), tReadF s x y, tReadS s x y⟩
  else if l = [99, 111, 117, 110, 116] then ⟨digF s.ls.length, 0, s⟩
  else if l = [118, 97, 114, 105, 110, 116] then ⟨dec x, 0, s⟩
  else ⟨digF (U.need x y).toNat, if U.pairB x y = true then 0 else 1, s⟩
def Did.ans (d : Did) : List UInt8 := if d.flt = 0 then d.text else errN d.flt
/-- What a line is answered, and what it leaves. -/
def lineF (l : List UInt8) (s : Tt) : List UInt8 × Tt :=
  match ordL (cutF 32 l) with
  | none => (badL, s)
  | some (n, x, y, wd) => ((didF n x y (str wd) s).ans, (didF n x y (str wd) s).st)
def cutNl (l : List UInt8) : List UInt8 := Lib.trimSuffix l [10]
def sesF : List (List UInt8) → Tt → List UInt8
  | [], _ => []
  | l :: ls, s => (lineF (cutNl l) s).1 ++ 10 :: sesF ls (lineF (cutNl l) s).2
def sesS : List (List UInt8) → Tt → Tt
  | [], s => s
  | l :: ls, s => sesS ls (lineF (cutNl l) s).2
def longL : List UInt8 := [116, 111, 111, 32, 108, 111, 110, 103, 10]
/-- What Run answers. -/
def runL (t : List UInt8) : List UInt8 := if 3000 < t.length then longL else sesF (lnsF t) (newT 20)
theorem ses_append : ∀ (a b : List (List UInt8)) (s : Tt), sesF (a ++ b) s = sesF a s ++ sesF b (sesS a s)
  | [], b, s => rfl
  | l :: a, b, s => by
    rw [List.cons_append, sesF, sesF, sesS, ses_append a b]
    simp
theorem sesS_append : ∀ (a b : List (List UInt8)) (s : Tt), sesS (a ++ b) s = sesS b (sesS a s)
  | [], b, s => rfl
  | l :: a, b, s => by
    rw [List.cons_append, sesS, sesS, sesS_append a b]
theorem ses_one (l : List UInt8) (s : Tt) : sesF [l] s = (lineF (cutNl l) s).1 ++ [10] ∧ sesS [l] s = (lineF (cutNl l) s).2 := ⟨rfl, rfl⟩
/-- The answers to a beginning are a beginning of the answers. -/
theorem run_begins (a b : List UInt8) (h : a = [] ∨ b = [] ∨ a.getLast? = some 10) (hl : (a ++ b).length ≤ 3000) : ∃ c, runL (a ++ b) = runL a ++ c := by
  have hla : a.length ≤ 3000 := by simp at hl; omega
  unfold runL
  rw [if_neg (by omega), if_neg (by omega)]
  by_cases hb : b = []
  · subst hb
    exact ⟨[], by simp⟩
  · have ha : a = [] ∨ a.getLast? = some 10 := by
      rcases h with h | h | h
      · exact .inl h
      · exact absurd h hb
      · exact .inr h
    rw [lns_append a b ha, ses_append]
    exact ⟨_, rfl⟩
end Rn
end Go.Proofs.YtdokgalidhmbbaaGreatDoor
namespace Go.Proofs.YtdokgalidhmbbaaGreatDoor
namespace Rn
open Go.RowKit

/-- Neither made more than K packets. -/
def Few (K : Nat) (s : Tt) : Prop := s.a.m ≤ K ∧ s.b.m ≤ K
theorem write_m (e : En) (b : ByteArray) : (writeS e b).m = e.m := by unfold writeS; split <;> rfl
theorem make_m (e : En) : (makeS e).m ≤ e.m + 1 := by
  unfold makeS
  split
  · exact Nat.le_refl _
  · exact Nat.le_succ _
theorem stp_m (e : En) (f : F) : (stpE e f).2.m = e.m := by
  unfold stpE
  repeat' split
  all_goals rfl
theorem runs_m : ∀ (fs : List F) (e : En), (runF fs e).2.m = e.m
  | [], e => rfl
  | f :: fs, e => by
    rw [runF]
    split
    · exact stp_m e f
    · exact (runs_m fs _).trans (stp_m e f)
theorem come_m (e : En) (n : Int) (fs : List F) : (come e n fs).2.m = e.m := by
  unfold come
  repeat' split
  all_goals first | rfl | exact runs_m fs e
theorem take_m (e : En) (b : ByteArray) : (takeP e b).2.m = e.m := by
  unfold takeP
  split
  · rfl
  · split
    · rfl
    · exact come_m _ _ _
theorem Few.set {K : Nat} {s : Tt} (h : Few K s) (w : Int) (e : En) (ls : List Lk.LR) (he : e.m ≤ K) : Few K { s.set w e with ls := ls } := by
  unfold Tt.set
  split
  · exact ⟨he, h.2⟩
  · exact ⟨h.1, he⟩
theorem Few.who {K : Nat} {s : Tt} (h : Few K s) (w : Int) : (s.who w).m ≤ K := by
  unfold Tt.who
  split
  · exact h.1
  · exact h.2
theorem Few.more {K K' : Nat} {s : Tt} (h : Few K s) (hK : K ≤ K') : Few K' s := ⟨Nat.le_trans h.1 hK, Nat.le_trans h.2 hK⟩
theorem Few.did {K : Nat} {s : Tt} (h : Few K s) (l : List UInt8) (x y : Int) (wd : ByteArray) : Few (K + 1) (didF l x y wd s).st := by
  have h1 := h.more (Nat.le_succ K)
  unfold didF
  split
  · show Few _ (tWriteS s x wd)
    unfold tWriteS
    split
    · exact h1.set x _ s.ls (by rw [write_m]; exact h1.who x)
    · exact h1
  split
  · show Few _ (tSendS s x)
    unfold tSendS
    split
    · exact h1.set x _ _ (Nat.le_trans (make_m _) (Nat.succ_le_succ (h.who x)))
    · exact h1
  split
  · show Few _ (tComeS s x)
    unfold tComeS
    split
    · exact h1.set _ _ _ (by rw [take_m]; exact h1.who _)
    · exact h1
  split
  · exact h1
  split
  · exact h1
  split
  · show Few _ (tReadS s x y)
    unfold tReadS
    split
    · exact h1.set x _ s.ls (by rw [(read_same _ _).1]; exact h1.who x)
    · exact h1
  repeat' split
  all_goals exact h1
theorem Few.line {K : Nat} {s : Tt} (h : Few K s) (l : List UInt8) : Few (K + 1) (lineF l s).2 := by
  unfold lineF
  split
  · exact h.more (Nat.le_succ K)
  · exact h.did _ _ _ _
theorem Few.ses : ∀ (ls : List (List UInt8)) {K : Nat} {s : Tt}, Few K s → Few (K + ls.length) (sesS ls s)
  | [], K, s, h => h
  | l :: ls, K, s, h => by
    have := Few.ses ls (h.line (cutNl l))
    rw [sesS]
    exact this.more (by simp only [List.length_cons]; omega)
theorem dig_len (n : Nat) : (digF n).length ≤ 4 := by
  unfold digF
  repeat' split
  all_goals simp
theorem read_len (e : En) (n : Int) : (readB e n).size ≤ 60 := by
  unfold readB
  split
  · rw [strOfNums_size]
    have := Sx.takeN_le e.s n
    simp [Sx.takeL]
    omega
  · exact Nat.zero_le _
theorem dec_len (n : Int) : (dec n).length ≤ 19 := by
  unfold dec V.nums
  split
  · simp only [List.map, Lib.join, List.intercalate, List.intersperse, List.flatten]
    have := dig_len n.toNat
    simp; omega
  split
  · have := dig_len (64 + n / 256).toNat
    have := dig_len (n % 256).toNat
    simp only [List.map, Lib.join, List.intercalate, List.intersperse, List.flatten]
    simp; omega
  · have := dig_len (128 + n / 16777216).toNat
    have := dig_len (n / 65536 % 256).toNat
    have := dig_len (n / 256 % 256).toNat
    have := dig_len (n % 256).toNat
    simp only [List.map, Lib.join, List.intercalate, List.intersperse, List.flatten]
    simp; omega
theorem err_len (f : Int) : (errN f).length ≤ 9 := by
  unfold errN
  repeat' split
  all_goals decide
theorem ans_len (l : List UInt8) (x y : Int) (wd : ByteArray) (s : Tt) : (didF l x y wd s).ans.length ≤ 60 := by
  have he := err_len (didF l x y wd s).flt
  unfold Did.ans
  split
  · clear he
    unfold didF
    repeat' split
    all_goals first | (show okL.length ≤ 60; decide) | (exact Nat.le_trans (dig_len _) (by decide)) | (exact Nat.le_trans (dec_len _) (by decide)) | skip
    show (orMinus (tReadB s x y)).length ≤ 60
    unfold orMinus
    split
    · decide
    · unfold tReadB
      split
      · rw [← Lib.size_eq]; exact read_len _ _
      · decide
  · exact Nat.le_trans he (by decide)
theorem line_len (l : List UInt8) (s : Tt) : (lineF l s).1.length ≤ 60 := by
  unfold lineF
  split
  · show badL.length ≤ 60
    decide
  · exact ans_len _ _ _ _ _
theorem ses_len : ∀ (ls : List (List UInt8)) (s : Tt), (sesF ls s).length ≤ 61 * ls.length
  | [], s => Nat.le_refl _
  | l :: ls, s => by
    have := line_len (cutNl l) s
    have := ses_len ls (lineF (cutNl l) s).2
    rw [sesF]
    simp only [List.length_append, List.length_cons]
    omega
end Rn
end Go.Proofs.YtdokgalidhmbbaaGreatDoor
