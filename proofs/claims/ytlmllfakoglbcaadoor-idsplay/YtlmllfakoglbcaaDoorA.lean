/- Names that were, and which of them are live, as lists. -/
import Derived.Lib.SlBy
namespace Go.Proofs.YtlmllfakoglbcaaDoor
open Go
set_option linter.unusedVariables false

/-- An ID: its Seq and its Name. -/
abbrev R := Int × Int
def nameB (n : Int) : Bool := decide (0 ≤ n ∧ n ≤ 1073741823)
theorem nameB_yes {n : Int} (h : nameB n = true) : 0 ≤ n ∧ n ≤ 1073741823 := of_decide_eq_true h
theorem nameB_no {n : Int} (h : nameB n = false) : n < 0 ∨ 1073741823 < n := by have := of_decide_eq_false h; omega
def at' (zs : List R) (j : Nat) : R := zs[j]?.getD (0, 0)
theorem at_mem {zs : List R} {j : Nat} (h : j < zs.length) : at' zs j ∈ zs := by simp [at', h]

/-- Those that are not gone, of names from the place k on. -/
def lv : Nat → List Int → List Bool → List R
  | k, n :: ns, g :: gs => if g = true then lv (k + 1) ns gs else ((k : Int), n) :: lv (k + 1) ns gs
  | _, _, _ => []
theorem lv_mem : ∀ (ns : List Int) (gs : List Bool) (k : Nat) (x : R), x ∈ lv k ns gs → ∃ j : Nat, x.1 = ((k + j : Nat) : Int) ∧ gs[j]? = some false ∧ ns[j]? = some x.2
  | [], gs, k, x, h => by simp [lv] at h
  | n :: ns, [], k, x, h => by simp [lv] at h
  | n :: ns, g :: gs, k, x, h => by
    unfold lv at h
    cases g with
    | true =>
      obtain ⟨j, h1, h2, h3⟩ := lv_mem ns gs (k + 1) x (by simpa using h)
      exact ⟨j + 1, by rw [h1]; omega, by simpa using h2, by simpa using h3⟩
    | false =>
      rcases List.mem_cons.1 (show x ∈ ((k : Int), n) :: lv (k + 1) ns gs by simpa using h) with rfl | h
      · exact ⟨0, by simp, by simp, by simp⟩
      · obtain ⟨j, h1, h2, h3⟩ := lv_mem ns gs (k + 1) x h
        exact ⟨j + 1, by rw [h1]; omega, by simpa using h2, by simpa using h3⟩
theorem lv_of : ∀ (ns : List Int) (gs : List Bool) (k j : Nat) (n : Int), gs[j]? = some false → ns[j]? = some n → (((k + j : Nat) : Int), n) ∈ lv k ns gs
  | [], gs, k, j, n, h1, h2 => by simp at h2
  | m :: ns, [], k, j, n, h1, h2 => by simp at h1
  | m :: ns, g :: gs, k, 0, n, h1, h2 => by
    simp at h1 h2
    subst h1; subst h2
    simp [lv]
  | m :: ns, g :: gs, k, j + 1, n, h1, h2 => by
    have i := lv_of ns gs (k + 1) j n (by simpa using h1) (by simpa using h2)
    rw [show k + 1 + j = k + (j + 1) by omega] at i
    unfold lv
    cases g with
    | true => simpa using i
    | false => simpa using Or.inr i
theorem lv_rising : ∀ (ns : List Int) (gs : List Bool) (k : Nat), (lv k ns gs).Pairwise (fun a b => a.1 < b.1)
  | [], gs, k => by simp [lv]
  | n :: ns, [], k => by simp [lv]
  | n :: ns, g :: gs, k => by
    unfold lv
    cases g with
    | true => simpa using lv_rising ns gs (k + 1)
    | false =>
      refine List.Pairwise.cons (fun b hb => ?_) (lv_rising ns gs (k + 1))
      obtain ⟨j, h1, _⟩ := lv_mem ns gs (k + 1) b hb
      rw [h1]
      show (k : Int) < _
      omega
theorem lv_snoc (n : Int) : ∀ (ns : List Int) (gs : List Bool) (k : Nat), ns.length = gs.length → lv k (ns ++ [n]) (gs ++ [false]) = lv k ns gs ++ [(((k + ns.length : Nat) : Int), n)]
  | [], [], k, _ => by simp [lv]
  | [], g :: gs, k, h => by simp at h
  | m :: ns, [], k, h => by simp at h
  | m :: ns, g :: gs, k, h => by
    have i := lv_snoc n ns gs (k + 1) (by simpa using h)
    rw [show k + 1 + ns.length = k + (m :: ns).length by simp; omega] at i
    cases g with
    | true => simpa [lv] using i
    | false => simpa [lv] using i
theorem lv_set : ∀ (ns : List Int) (gs : List Bool) (k j : Nat), lv k ns (gs.set j true) = (lv k ns gs).filter (fun x => x.1 != ((k + j : Nat) : Int))
  | [], gs, k, j => by cases gs <;> simp [lv]
  | m :: ns, [], k, j => by simp [lv]
  | m :: ns, g :: gs, k, 0 => by
    have far : (lv (k + 1) ns gs).filter (fun x => x.1 != ((k + 0 : Nat) : Int)) = lv (k + 1) ns gs := by
      rw [List.filter_eq_self]
      intro a ha
      obtain ⟨j, h1, _⟩ := lv_mem ns gs (k + 1) a ha
      rw [h1]
      simp
      omega
    cases g with
    | true => simpa [lv] using far.symm
    | false => simpa [lv] using far.symm
  | m :: ns, g :: gs, k, j + 1 => by
    have i := lv_set ns gs (k + 1) j
    rw [show k + 1 + j = k + (j + 1) by omega] at i
    cases g with
    | true => simpa [lv] using i
    | false =>
      have hk : ((k : Int) != ((k + (j + 1) : Nat) : Int)) = true := by simp; omega
      show ((k : Int), m) :: lv (k + 1) ns (gs.set j true) = List.filter (fun x => x.1 != ((k + (j + 1) : Nat) : Int)) (((k : Int), m) :: lv (k + 1) ns gs)
      rw [List.filter_cons_of_pos (by simpa using hk), i]

/-- The place of a Seq among those that are live, -1 if it is not. -/
def pos (ls : List R) (q : Int) : Int := Lib.idxBy (fun _ y => y.1 == q) ls default
def isIn (ls : List R) (q : Int) : Bool := ls.any (fun x => x.1 == q)
theorem pos_cases (ls : List R) (q : Int) : (isIn ls q = true ∧ ∃ p : Nat, p < ls.length ∧ pos ls q = (p : Int) ∧ (at' ls p).1 = q) ∨ (isIn ls q = false ∧ pos ls q = -1) := by
  have key : ∀ (ls : List R) (i : Nat), (ls.any (fun x => x.1 == q) = true ∧ ∃ p : Nat, p < ls.length ∧ Lib.idxByFrom (fun _ y => y.1 == q) default ls i = ((i + p : Nat) : Int) ∧ (at' ls p).1 = q) ∨ (ls.any (fun x => x.1 == q) = false ∧ Lib.idxByFrom (fun _ y => y.1 == q) default ls i = -1) := by
    intro ls
    induction ls with
    | nil => intro i; exact .inr ⟨rfl, rfl⟩
    | cons x xs ih =>
      intro i
      by_cases hx : x.1 = q
      · left
        refine ⟨by simp [hx], 0, by simp, ?_, by simp [at', hx]⟩
        simp [Lib.idxByFrom, hx]
      · rcases ih (i + 1) with ⟨h1, p, h2, h3, h4⟩ | ⟨h1, h2⟩
        · left
          refine ⟨by simp [h1], p + 1, by simpa using h2, ?_, by simpa [at'] using h4⟩
          have hb : (x.1 == q) = false := by simpa using hx
          simp only [Lib.idxByFrom, hb]
          rw [show i + (p + 1) = i + 1 + p by omega, ← h3]
          simp
        · right
          have hb : (x.1 == q) = false := by simpa using hx
          refine ⟨by simp [hb, h1], ?_⟩
          simp only [Lib.idxByFrom, hb]
          simpa using h2
  have := key ls 0
  simpa [pos, isIn, Lib.idxBy] using this
theorem isIn_yes {ls : List R} {q : Int} (h : isIn ls q = true) : ∃ x ∈ ls, x.1 = q := by simpa [isIn] using h
theorem isIn_no {ls : List R} {q : Int} (h : isIn ls q = false) : ∀ x ∈ ls, x.1 ≠ q := by simpa [isIn] using h
/-- The live ones, without the one of a Seq. -/
def gone (ls : List R) (q : Int) : List R := ls.filter (fun x => x.1 != q)
theorem gone_at {q : Int} : ∀ (ls : List R) (p : Nat), ls.Pairwise (fun a b => a.1 < b.1) → p < ls.length → (at' ls p).1 = q → ls.take p ++ ls.drop (p + 1) = gone ls q
  | [], p, _, h, _ => by simp at h
  | x :: xs, 0, hp, _, hq => by
    have hx : x.1 = q := by simpa [at'] using hq
    have hs := (List.pairwise_cons.1 hp).1
    have : xs.filter (fun y => y.1 != q) = xs := by
      rw [List.filter_eq_self]
      intro a ha
      have := hs a ha
      simp; omega
    simp [gone, hx, this]
  | x :: xs, p + 1, hp, h, hq => by
    have hq' : (at' xs p).1 = q := by simpa [at'] using hq
    have hl : p < xs.length := by simpa using h
    have i := gone_at xs p (List.pairwise_cons.1 hp).2 hl hq'
    have hx : x.1 < q := by have := (List.pairwise_cons.1 hp).1 _ (at_mem hl); omega
    have hb : (x.1 != q) = true := by simp; omega
    unfold gone
    rw [List.filter_cons_of_pos (by simpa using hb)]
    show x :: (xs.take p ++ xs.drop (p + 1)) = _
    rw [i]
    rfl
theorem gone_isIn {ls : List R} {q : Int} : isIn (gone ls q) q = false := by simp [isIn, gone]

/-- What holds of IDs: of no more than L at a time; names that were, all different; the live ones are among them, by Seq. -/
structure Inv (L : Int) (ns : List Int) (ls : List R) : Prop where
  l1 : 1 ≤ L
  l8 : L ≤ 8
  many : ns.length ≤ 100
  nodup : ns.Nodup
  full : (ls.length : Int) ≤ L
  rise : ls.Pairwise (fun a b => a.1 < b.1)
  was : ∀ x ∈ ls, ∃ j : Nat, x.1 = (j : Int) ∧ ns[j]? = some x.2
theorem Inv.start {L : Int} (h1 : 1 ≤ L) (h8 : L ≤ 8) : Inv L [] [] := ⟨h1, h8, by simp, by simp, by simp; omega, by simp, by simp⟩
theorem Inv.issue {L : Int} {ns : List Int} {ls : List R} (h : Inv L ns ls) {n : Int} (hn : n ∉ ns) (hl : (ls.length : Int) < L) (hm : ns.length < 100) : Inv L (ns ++ [n]) (ls ++ [((ns.length : Int), n)]) := by
  refine ⟨h.l1, h.l8, by simp; omega, ?_, by simp; omega, ?_, ?_⟩
  · rw [List.nodup_append]
    refine ⟨h.nodup, by simp, ?_⟩
    intro a ha b hb
    have : b = n := by simpa using hb
    rintro rfl
    exact hn (this ▸ ha)
  · rw [List.pairwise_append]
    refine ⟨h.rise, by simp, fun a ha b hb => ?_⟩
    have : b = ((ns.length : Int), n) := by simpa using hb
    subst this
    obtain ⟨j, h1, h2⟩ := h.was a ha
    have := (List.getElem?_eq_some_iff.1 h2).1
    show a.1 < (ns.length : Int)
    omega
  · intro x hx
    rcases List.mem_append.1 hx with hx | hx
    · obtain ⟨j, h1, h2⟩ := h.was x hx
      have hj := (List.getElem?_eq_some_iff.1 h2).1
      exact ⟨j, h1, by rw [List.getElem?_append_left hj]; exact h2⟩
    · have : x = ((ns.length : Int), n) := by simpa using hx
      subst this
      exact ⟨ns.length, rfl, by simp⟩
theorem Inv.retire {L : Int} {ns : List Int} {ls : List R} (h : Inv L ns ls) (q : Int) : Inv L ns (gone ls q) := by
  refine ⟨h.l1, h.l8, h.many, h.nodup, ?_, h.rise.filter _, fun x hx => h.was x (List.mem_filter.1 hx).1⟩
  have := List.length_filter_le (fun x : R => x.1 != q) ls
  have := h.full
  unfold gone
  omega
theorem nodup_at {ns : List Int} (h : ns.Nodup) {i j : Nat} {n : Int} (hi : ns[i]? = some n) (hj : ns[j]? = some n) : i = j := by
  obtain ⟨h1, e1⟩ := List.getElem?_eq_some_iff.1 hi
  obtain ⟨h2, e2⟩ := List.getElem?_eq_some_iff.1 hj
  rw [List.nodup_iff_pairwise_ne] at h
  rcases Nat.lt_trichotomy i j with hl | hl | hl
  · exact absurd (e1.trans e2.symm) (List.pairwise_iff_getElem.1 h i j h1 h2 hl)
  · exact hl
  · exact absurd (e2.trans e1.symm) (List.pairwise_iff_getElem.1 h j i h2 h1 hl)
/-- The one that is live of a name. -/
theorem Inv.same {L : Int} {ns : List Int} {ls : List R} (h : Inv L ns ls) {x : R} (hx : x ∈ ls) {j : Nat} {n : Int} (hj : ns[j]? = some n) (hq : x.1 = (j : Int)) : x = ((j : Int), n) := by
  obtain ⟨i, h1, h2⟩ := h.was x hx
  have : i = j := by omega
  subst this
  rw [hj] at h2
  have e := Option.some.inj h2
  obtain ⟨a, b⟩ := x
  simp at h1 e
  subst h1; subst e
  rfl
end Go.Proofs.YtlmllfakoglbcaaDoor
