/- What Parse answers. -/
import Derived.Test.YtoabfilliiopmaaDoorH
namespace Go.Proofs.YtoabfilliiopmaaDoor
open Go.RowKit Go.Shelf Go.Lib
attribute [local go_sem] Oper.semAt_some
set_option linter.unusedVariables false
set_option linter.unusedSimpArgs false

theorem numbers_no (s : ByteArray) (w : World) (hF : V.Forms w) (hl : s.size ≤ maxLen) (h : rd 25 (V.ints s) = none) :
    Calls Tryd.prog 55 #[.string s] w fun e w' => e = .returned (.tuple #[.slice none 0 0, errS]) ∧ Below w.heap.size w w' := by
  refine (numbers_calls s w hF hl).mono ?_
  rintro e w' ⟨⟨_, he⟩ | ⟨ns, v, h1, _⟩, hb⟩
  · exact ⟨he, hb⟩
  · rw [h] at h1; cases h1
theorem numbers_yes (s : ByteArray) (w : World) (hF : V.Forms w) (hl : s.size ≤ maxLen) (ns : List Int) (h : rd 25 (V.ints s) = some ns) :
    Calls Tryd.prog 55 #[.string s] w fun e w' => ∃ v, e = .returned (.tuple #[v, .nilIface]) ∧ OwnI w' w.heap.size v ns ∧ Below w.heap.size w w' := by
  refine (numbers_calls s w hF hl).mono ?_
  rintro e w' ⟨⟨h1, _⟩ | ⟨ms, v, h1, he, ho⟩, hb⟩
  · rw [h] at h1; cases h1
  · rw [h] at h1; cases h1; exact ⟨v, he, ho, hb⟩

set_option maxRecDepth 100000 in
set_option maxHeartbeats 4000000 in
theorem parse_rd (s : ByteArray) (w : World) (hF : V.Forms w) (hl : s.size ≤ maxLen) (h : rd 25 (V.ints s) = none) :
    Calls Tryd.prog 45 #[.string s] w fun e w' => e = .returned (.tuple #[.slice none 0 0, errS]) ∧ Below w.heap.size w w' := by
  have HC := numbers_no s w hF hl h
  simp only [errS] at HC ⊢
  refine (callsIn_wide (n := 5)).1 ?_
  have hfn : Fence.wide.fn 55 := trivial
  refine callsIn_of_wp_marks Tryd.func45 rfl trivial ?_ rfl
  simp only [Tryd.ntmps45, List.size_toArray, List.length_cons, List.length_nil, Nat.reduceAdd, Nat.reduceSub, Array.replicate_succ, Array.replicate_zero, List.push_toArray, List.append_toArray, List.nil_append, List.cons_append]
  gi_wp2_with (gi_at_call 55; refine (callsIn_wide.2 HC).mono ?_; rintro e w1 ⟨rfl, hb1⟩)
  exact ⟨_, results_tmp2 rfl _ _ _, rfl, hb1⟩

set_option maxRecDepth 100000 in
set_option maxHeartbeats 4000000 in
theorem parse_few (s : ByteArray) (w : World) (hF : V.Forms w) (hl : s.size ≤ maxLen) (ns : List Int) (h : rd 25 (V.ints s) = some ns) (h3 : ns.length < 3) :
    Calls Tryd.prog 45 #[.string s] w fun e w' => e = .returned (.tuple #[.slice none 0 0, errS]) ∧ Below w.heap.size w w' := by
  have HC := numbers_yes s w hF hl ns h
  simp only [errS] at HC ⊢
  have g3 : ((ns.length : Nat) : Int) < 3 := by omega
  refine (callsIn_wide (n := 5)).1 ?_
  have hfn : Fence.wide.fn 55 := trivial
  refine callsIn_of_wp_marks Tryd.func45 rfl trivial ?_ rfl
  simp only [Tryd.ntmps45, List.size_toArray, List.length_cons, List.length_nil, Nat.reduceAdd, Nat.reduceSub, Array.replicate_succ, Array.replicate_zero, List.push_toArray, List.append_toArray, List.nil_append, List.cons_append]
  gi_wp2_with (gi_at_call 55; refine (callsIn_wide.2 HC).mono ?_; rintro e w1 ⟨v, rfl, ho, hb1⟩; obtain ⟨a4, c4, rfl⟩ := ho.shape)
  exact ⟨_, results_tmp2 rfl _ _ _, rfl, hb1⟩

set_option maxRecDepth 100000 in
set_option maxHeartbeats 4000000 in
theorem parse_odd (s : ByteArray) (w : World) (hF : V.Forms w) (hl : s.size ≤ maxLen) (hi m d : Int) (rest : List Int) (h : rd 25 (V.ints s) = some (hi :: m :: d :: rest)) (hm : 0 ≤ m ∧ m < 1073741824) (hne : ¬ (rest.length : Int) = 2 * m) :
    Calls Tryd.prog 45 #[.string s] w fun e w' => e = .returned (.tuple #[.slice none 0 0, errS]) ∧ Below w.heap.size w w' := by
  have HC := numbers_yes s w hF hl _ h
  have hlen : (hi :: m :: d :: rest).length ≤ 25 := (rd_inv 25 _ _ (bytes_ints s) h).2.2
  simp only [errS] at HC ⊢
  refine (callsIn_wide (n := 5)).1 ?_
  have hfn : Fence.wide.fn 55 := trivial
  have g3 : ¬ (((hi :: m :: d :: rest).length : Nat) : Int) < 3 := by simp; omega
  have g4 : ¬ (((hi :: m :: d :: rest).length : Nat) : Int) = 3 + 2 * m := by simp; omega
  have g5 : (1 : Int) < (((hi :: m :: d :: rest).length : Nat) : Int) := by simp; omega
  generalize hL : (hi :: m :: d :: rest).length = len at *
  have HL : Hid ((hi :: m :: d :: rest).length = len) := hL
  clear hL
  refine callsIn_of_wp_marks Tryd.func45 rfl trivial ?_ rfl
  simp only [Tryd.ntmps45, List.size_toArray, List.length_cons, List.length_nil, Nat.reduceAdd, Nat.reduceSub, Array.replicate_succ, Array.replicate_zero, List.push_toArray, List.append_toArray, List.nil_append, List.cons_append]
  gi_wp2_with (gi_at_call 55; refine (callsIn_wide.2 HC).mono ?_; rintro e w1 ⟨v, rfl, ho, hb1⟩; obtain ⟨g, cp, rfl, hcp, _, hg⟩ := ho.form (by simp); have q1 := ho.cell 1 (by simp); simp only [HL.out, List.getElem?_cons_succ, List.getElem?_cons_zero, Option.getD_some] at q1 ⊢)
  exact ⟨_, results_tmp2 rfl _ _ _, rfl, hb1⟩

/-- One round: two numbers more. -/
def stp (rest : List Int) (st : Int × List R) (k : Nat) : Int × List R :=
  (st.1 - rest[2 * k]?.getD 0 - 2 - rest[2 * k + 1]?.getD 0, st.2 ++ [(st.1 - rest[2 * k]?.getD 0 - 2 - rest[2 * k + 1]?.getD 0, st.1 - rest[2 * k]?.getD 0 - 2)])
def aft (rest : List Int) (st : Int × List R) (ks : List Nat) : Int × List R := ks.foldl (stp rest) st
theorem aft_snoc (rest : List Int) (st : Int × List R) (ks : List Nat) (k : Nat) : aft rest st (ks ++ [k]) = stp rest (aft rest st ks) k := by simp [aft]
theorem aft_len (rest : List Int) : ∀ (ks : List Nat) (st : Int × List R), (aft rest st ks).2.length = st.2.length + ks.length
  | [], st => rfl
  | k :: ks, st => by
    show (aft rest (stp rest st k) ks).2.length = _
    rw [aft_len rest ks]; simp [stp]; omega
theorem getD_mays {rest : List Int} (h : Mays rest) (j : Nat) : 0 ≤ rest[j]?.getD 0 ∧ rest[j]?.getD 0 < 1073741824 := by
  by_cases hj : j < rest.length
  · simp only [List.getElem?_eq_getElem hj, Option.getD_some]; exact h _ (List.getElem_mem hj)
  · simp [List.getElem?_eq_none (Nat.le_of_not_lt hj)]
theorem aft_bd {rest : List Int} (h : Mays rest) : ∀ (ks : List Nat) (st : Int × List R), (aft rest st ks).1 ≤ st.1 ∧ st.1 - 4294967296 * ks.length ≤ (aft rest st ks).1
  | [], st => by simp [aft]
  | k :: ks, st => by
    have i := aft_bd h ks (stp rest st k)
    have a := getD_mays h (2 * k)
    have b := getD_mays h (2 * k + 1)
    have e : (stp rest st k).1 = st.1 - rest[2 * k]?.getD 0 - 2 - rest[2 * k + 1]?.getD 0 := rfl
    rw [e] at i
    show (aft rest (stp rest st k) ks).1 ≤ _ ∧ _ ≤ (aft rest (stp rest st k) ks).1
    simp only [List.length_cons]
    omega
theorem aft_shift (a b : Int) (rest : List Int) : ∀ (ks : List Nat) (st : Int × List R), aft (a :: b :: rest) st (ks.map (· + 1)) = aft rest st ks
  | [], st => rfl
  | k :: ks, st => by
    have e : stp (a :: b :: rest) st (k + 1) = stp rest st k := by
      have e1 : 2 * (k + 1) = 2 * k + 1 + 1 := by omega
      simp only [stp, e1, List.getElem?_cons_succ]
    show aft (a :: b :: rest) (stp (a :: b :: rest) st (k + 1)) (ks.map (· + 1)) = aft rest (stp rest st k) ks
    rw [e, aft_shift a b rest ks]
theorem aft_all : ∀ (k : Nat) (rest : List Int) (lo : Int) (zs : List R), rest.length = 2 * k → aft rest (lo, zs) (List.range k) = (lastLo lo rest, zs ++ pairs lo rest) := by
  intro k
  induction k with
  | zero =>
    intro rest lo zs hl
    obtain rfl : rest = [] := List.eq_nil_of_length_eq_zero (by omega)
    simp [aft, lastLo, pairs]
  | succ k ih =>
    intro rest lo zs hl
    match rest, hl with
    | [], hl => simp at hl
    | [a], hl => simp at hl; omega
    | a :: b :: rest, hl =>
      rw [List.range_succ_eq_map]
      show aft (a :: b :: rest) (stp (a :: b :: rest) (lo, zs) 0) ((List.range k).map (· + 1)) = _
      rw [aft_shift]
      have e : stp (a :: b :: rest) (lo, zs) 0 = (lo - a - 2 - b, zs ++ [(lo - a - 2 - b, lo - a - 2)]) := rfl
      rw [e, ih rest _ _ (by simp at hl; omega)]
      simp [lastLo, pairs]
end Go.Proofs.YtoabfilliiopmaaDoor
