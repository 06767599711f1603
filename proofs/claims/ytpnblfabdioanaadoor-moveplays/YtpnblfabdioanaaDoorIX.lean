/- The texts A,B,C,D of ids, at this seat. -/
import Derived.Test.YtpnblfabdioanaaDoorIS
import Derived.Test.YtpnblfabdioanaaDoorEO
import Derived.Lib.SlBy
import Derived.Test.YtpnblfabdioanaaDoorChecked
import Derived.WalkKit
import Derived.WalkSpells
import Derived.WalkLawsBesides
import Derived.LoopN
import Derived.Outline
import Derived.BigQuiet
import Derived.Deep.RegionWith
import Derived.Deep.RegionHeld3
import Derived.Shelf.SlSortCmp.QuietGrown
import Derived.Maps.OwnSet
import Derived.Maps.AppendAt
import Derived.Laws.AppendOwnNone
import Derived.Deep.LoopGhost
import Derived.Deep.DeepCutAuto
import Derived.KernelRfl
import Derived.Laws.ResultCell
import Derived.Shelf.SlicesQ.IndexFunc
import Derived.Shelf.SlicesE.Clone
import Derived.Shelf.SlGeneric
import Derived.Shelf.Lay
import Derived.Ground.SlgfProg
import Derived.Ground.SlgnProg
namespace Go.Proofs.YtpnblfabdioanaaDoor.Ix
open Go.RowKit Go.Lib Go.Sort Go.Shelf
set_option linter.unusedVariables false
set_option linter.unusedSimpArgs false

open Go

/-- An ID: its Seq and its Name. -/
abbrev R := Int × Int
def nameB (n : Int) : Bool := decide (0 ≤ n ∧ n ≤ 1073741823)
theorem nameB_yes {n : Int} (h : nameB n = true) : 0 ≤ n ∧ n ≤ 1073741823 := of_decide_eq_true h
theorem nameB_no {n : Int} (h : nameB n = false) : n < 0 ∨ 1073741823 < n := by have := of_decide_eq_false h; omega
def at' (zs : List R) (j : Nat) : R := zs[j]?.getD (0, 0)
theorem at_mem {zs : List R} {j : Nat} (h : j < zs.length) : at' zs j ∈ zs := by simp [at', h]

/-- Those that are not gone, of names from the place k on. -/
def lv : Nat → List Int → List Bool → List R
  | k, n :: ns, g :: gs => if g = true then lv (k + 1) ns gs else ((k : Int), n) :: lv (k + 1) ns gs
  | _, _, _ => []
theorem lv_mem : ∀ (ns : List Int) (gs : List Bool) (k : Nat) (x : R), x ∈ lv k ns gs → ∃ j : Nat, x.1 = ((k + j : Nat) : Int) ∧ gs[j]? = some false ∧ ns[j]? = some x.2
  | [], gs, k, x, h => by simp [lv] at h
  | n :: ns, [], k, x, h => by simp [lv] at h
  | n :: ns, g :: gs, k, x, h => by
    unfold lv at h
    cases g with
    | true =>
      obtain ⟨j, h1, h2, h3⟩ := lv_mem ns gs (k + 1) x (by simpa using h)
      exact ⟨j + 1, by rw [h1]; omega, by simpa using h2, by simpa using h3⟩
    | false =>
      rcases List.mem_cons.1 (show x ∈ ((k : Int), n) :: lv (k + 1) ns gs by simpa using h) with rfl | h
      · exact ⟨0, by simp, by simp, by simp⟩
      · obtain ⟨j, h1, h2, h3⟩ := lv_mem ns gs (k + 1) x h
        exact ⟨j + 1, by rw [h1]; omega, by simpa using h2, by simpa using h3⟩
theorem lv_of : ∀ (ns : List Int) (gs : List Bool) (k j : Nat) (n : Int), gs[j]? = some false → ns[j]? = some n → (((k + j : Nat) : Int), n) ∈ lv k ns gs
  | [], gs, k, j, n, h1, h2 => by simp at h2
  | m :: ns, [], k, j, n, h1, h2 => by simp at h1
  | m :: ns, g :: gs, k, 0, n, h1, h2 => by
    simp at h1 h2
    subst h1; subst h2
    simp [lv]
  | m :: ns, g :: gs, k, j + 1, n, h1, h2 => by
    have i := lv_of ns gs (k + 1) j n (by simpa using h1) (by simpa using h2)
    rw [show k + 1 + j = k + (j + 1) by omega] at i
    unfold lv
    cases g with
    | true => simpa using i
    | false => simpa using Or.inr i
theorem lv_rising : ∀ (ns : List Int) (gs : List Bool) (k : Nat), (lv k ns gs).Pairwise (fun a b => a.1 < b.1)
  | [], gs, k => by simp [lv]
  | n :: ns, [], k => by simp [lv]
  | n :: ns, g :: gs, k => by
    unfold lv
    cases g with
    | true => simpa using lv_rising ns gs (k + 1)
    | false =>
      refine List.Pairwise.cons (fun b hb => ?_) (lv_rising ns gs (k + 1))
      obtain ⟨j, h1, _⟩ := lv_mem ns gs (k + 1) b hb
      rw [h1]
      show (k : Int) < _
      omega
theorem lv_snoc (n : Int) : ∀ (ns : List Int) (gs : List Bool) (k : Nat), ns.length = gs.length → lv k (ns ++ [n]) (gs ++ [false]) = lv k ns gs ++ [(((k + ns.length : Nat) : Int), n)]
  | [], [], k, _ => by simp [lv]
  | [], g :: gs, k, h => by simp at h
  | m :: ns, [], k, h => by simp at h
  | m :: ns, g :: gs, k, h => by
    have i := lv_snoc n ns gs (k + 1) (by simpa using h)
    rw [show k + 1 + ns.length = k + (m :: ns).length by simp; omega] at i
    cases g with
    | true => simpa [lv] using i
    | false => simpa [lv] using i
theorem lv_set : ∀ (ns : List Int) (gs : List Bool) (k j : Nat), lv k ns (gs.set j true) = (lv k ns gs).filter (fun x => x.1 != ((k + j : Nat) : Int))
  | [], gs, k, j => by cases gs <;> simp [lv]
  | m :: ns, [], k, j => by simp [lv]
  | m :: ns, g :: gs, k, 0 => by
    have far : (lv (k + 1) ns gs).filter (fun x => x.1 != ((k + 0 : Nat) : Int)) = lv (k + 1) ns gs := by
      rw [List.filter_eq_self]
      intro a ha
      obtain ⟨j, h1, _⟩ := lv_mem ns gs (k + 1) a ha
      rw [h1]
      simp
      omega
    cases g with
    | true => simpa [lv] using far.symm
    | false => simpa [lv] using far.symm
  | m :: ns, g :: gs, k, j + 1 => by
    have i := lv_set ns gs (k + 1) j
    rw [show k + 1 + j = k + (j + 1) by omega] at i
    cases g with
    | true => simpa [lv] using i
    | false =>
      have hk : ((k : Int) != ((k + (j + 1) : Nat) : Int)) = true := by simp; omega
      show ((k : Int), m) :: lv (k + 1) ns (gs.set j true) = List.filter (fun x => x.1 != ((k + (j + 1) : Nat) : Int)) (((k : Int), m) :: lv (k + 1) ns gs)
      rw [List.filter_cons_of_pos (by simpa using hk), i]

/-- The place of a Seq among those that are live, -1 if it is not. -/
def pos (ls : List R) (q : Int) : Int := Lib.idxBy (fun _ y => y.1 == q) ls default
def isIn (ls : List R) (q : Int) : Bool := ls.any (fun x => x.1 == q)
theorem pos_cases (ls : List R) (q : Int) : (isIn ls q = true ∧ ∃ p : Nat, p < ls.length ∧ pos ls q = (p : Int) ∧ (at' ls p).1 = q) ∨ (isIn ls q = false ∧ pos ls q = -1) := by
  have key : ∀ (ls : List R) (i : Nat), (ls.any (fun x => x.1 == q) = true ∧ ∃ p : Nat, p < ls.length ∧ Lib.idxByFrom (fun _ y => y.1 == q) default ls i = ((i + p : Nat) : Int) ∧ (at' ls p).1 = q) ∨ (ls.any (fun x => x.1 == q) = false ∧ Lib.idxByFrom (fun _ y => y.1 == q) default ls i = -1) := by
    intro ls
    induction ls with
    | nil => intro i; exact .inr ⟨rfl, rfl⟩
    | cons x xs ih =>
      intro i
      by_cases hx : x.1 = q
      · left
        refine ⟨by simp [hx], 0, by simp, ?_, by simp [at', hx]⟩
        simp [Lib.idxByFrom, hx]
      · rcases ih (i + 1) with ⟨h1, p, h2, h3, h4⟩ | ⟨h1, h2⟩
        · left
          refine ⟨by simp [h1], p + 1, by simpa using h2, ?_, by simpa [at'] using h4⟩
          have hb : (x.1 == q) = false := by simpa using hx
          simp only [Lib.idxByFrom, hb]
          rw [show i + (p + 1) = i + 1 + p by omega, ← h3]
          simp
        · right
          have hb : (x.1 == q) = false := by simpa using hx
          refine ⟨by simp [hb, h1], ?_⟩
          simp only [Lib.idxByFrom, hb]
          simpa using h2
  have := key ls 0
  simpa [pos, isIn, Lib.idxBy] using this
theorem isIn_yes {ls : List R} {q : Int} (h : isIn ls q = true) : ∃ x ∈ ls, x.1 = q := by simpa [isIn] using h
theorem isIn_no {ls : List R} {q : Int} (h : isIn ls q = false) : ∀ x ∈ ls, x.1 ≠ q := by simpa [isIn] using h
/-- The live ones, without the one of a Seq. -/
def gone (ls : List R) (q : Int) : List R := ls.filter (fun x => x.1 != q)
theorem gone_at {q : Int} : ∀ (ls : List R) (p : Nat), ls.Pairwise (fun a b => a.1 < b.1) → p < ls.length → (at' ls p).1 = q → ls.take p ++ ls.drop (p + 1) = gone ls q
  | [], p, _, h, _ => by simp at h
  | x :: xs, 0, hp, _, hq => by
    have hx : x.1 = q := by simpa [at'] using hq
    have hs := (List.pairwise_cons.1 hp).1
    have : xs.filter (fun y => y.1 != q) = xs := by
      rw [List.filter_eq_self]
      intro a ha
      have := hs a ha
      simp; omega
    simp [gone, hx, this]
  | x :: xs, p + 1, hp, h, hq => by
    have hq' : (at' xs p).1 = q := by simpa [at'] using hq
    have hl : p < xs.length := by simpa using h
    have i := gone_at xs p (List.pairwise_cons.1 hp).2 hl hq'
    have hx : x.1 < q := by have := (List.pairwise_cons.1 hp).1 _ (at_mem hl); omega
    have hb : (x.1 != q) = true := by simp; omega
    unfold gone
    rw [List.filter_cons_of_pos (by simpa using hb)]
    show x :: (xs.take p ++ xs.drop (p + 1)) = _
    rw [i]
    rfl
theorem gone_isIn {ls : List R} {q : Int} : isIn (gone ls q) q = false := by simp [isIn, gone]

/-- What holds of IDs: of no more than L at a time; names that were, all different; the live ones are among them, by Seq. -/
structure Inv (L : Int) (ns : List Int) (ls : List R) : Prop where
  l1 : 1 ≤ L
  l8 : L ≤ 8
  many : ns.length ≤ 100
  nodup : ns.Nodup
  full : (ls.length : Int) ≤ L
  rise : ls.Pairwise (fun a b => a.1 < b.1)
  was : ∀ x ∈ ls, ∃ j : Nat, x.1 = (j : Int) ∧ ns[j]? = some x.2
theorem Inv.start {L : Int} (h1 : 1 ≤ L) (h8 : L ≤ 8) : Inv L [] [] := ⟨h1, h8, by simp, by simp, by simp; omega, by simp, by simp⟩
theorem Inv.issue {L : Int} {ns : List Int} {ls : List R} (h : Inv L ns ls) {n : Int} (hn : n ∉ ns) (hl : (ls.length : Int) < L) (hm : ns.length < 100) : Inv L (ns ++ [n]) (ls ++ [((ns.length : Int), n)]) := by
  refine ⟨h.l1, h.l8, by simp; omega, ?_, by simp; omega, ?_, ?_⟩
  · rw [List.nodup_append]
    refine ⟨h.nodup, by simp, ?_⟩
    intro a ha b hb
    have : b = n := by simpa using hb
    rintro rfl
    exact hn (this ▸ ha)
  · rw [List.pairwise_append]
    refine ⟨h.rise, by simp, fun a ha b hb => ?_⟩
    have : b = ((ns.length : Int), n) := by simpa using hb
    subst this
    obtain ⟨j, h1, h2⟩ := h.was a ha
    have := (List.getElem?_eq_some_iff.1 h2).1
    show a.1 < (ns.length : Int)
    omega
  · intro x hx
    rcases List.mem_append.1 hx with hx | hx
    · obtain ⟨j, h1, h2⟩ := h.was x hx
      have hj := (List.getElem?_eq_some_iff.1 h2).1
      exact ⟨j, h1, by rw [List.getElem?_append_left hj]; exact h2⟩
    · have : x = ((ns.length : Int), n) := by simpa using hx
      subst this
      exact ⟨ns.length, rfl, by simp⟩
theorem Inv.retire {L : Int} {ns : List Int} {ls : List R} (h : Inv L ns ls) (q : Int) : Inv L ns (gone ls q) := by
  refine ⟨h.l1, h.l8, h.many, h.nodup, ?_, h.rise.filter _, fun x hx => h.was x (List.mem_filter.1 hx).1⟩
  have := List.length_filter_le (fun x : R => x.1 != q) ls
  have := h.full
  unfold gone
  omega
theorem nodup_at {ns : List Int} (h : ns.Nodup) {i j : Nat} {n : Int} (hi : ns[i]? = some n) (hj : ns[j]? = some n) : i = j := by
  obtain ⟨h1, e1⟩ := List.getElem?_eq_some_iff.1 hi
  obtain ⟨h2, e2⟩ := List.getElem?_eq_some_iff.1 hj
  rw [List.nodup_iff_pairwise_ne] at h
  rcases Nat.lt_trichotomy i j with hl | hl | hl
  · exact absurd (e1.trans e2.symm) (List.pairwise_iff_getElem.1 h i j h1 h2 hl)
  · exact hl
  · exact absurd (e2.trans e1.symm) (List.pairwise_iff_getElem.1 h j i h2 h1 hl)
/-- The one that is live of a name. -/
theorem Inv.same {L : Int} {ns : List Int} {ls : List R} (h : Inv L ns ls) {x : R} (hx : x ∈ ls) {j : Nat} {n : Int} (hj : ns[j]? = some n) (hq : x.1 = (j : Int)) : x = ((j : Int), n) := by
  obtain ⟨i, h1, h2⟩ := h.was x hx
  have : i = j := by omega
  subst this
  rw [hj] at h2
  have e := Option.some.inj h2
  obtain ⟨a, b⟩ := x
  simp at h1 e
  subst h1; subst e
  rfl



def Cells (w : World) (b off : Nat) (zs : List R) : Prop := ∀ j, j < zs.length → w.cell? ⟨b, off + j * 2, none⟩ = some (.int .i64 (at' zs j).1) ∧ w.cell? ⟨b, off + j * 2 + 1, none⟩ = some (.int .i64 (at' zs j).2)
theorem Cells.below {w w' : World} {b off : Nat} {zs : List R} (h : Cells w b off zs) (hb : b < w.heap.size) (bel : Below w.heap.size w w') : Cells w' b off zs := fun j hj =>
  ⟨(bel.cell (p := ⟨b, off + j * 2, none⟩) hb).trans (h j hj).1, (bel.cell (p := ⟨b, off + j * 2 + 1, none⟩) hb).trans (h j hj).2⟩
def encR (x : R) : List Value := [.int .i64 x.1, .int .i64 x.2]
def flat (zs : List R) : List Value := zs.flatMap encR
theorem flat_length (zs : List R) : (flat zs).length = zs.length * 2 := by
  induction zs with
  | nil => rfl
  | cons r rs ih => simp only [flat, List.flatMap_cons, List.length_append] at *; rw [ih]; simp [encR]; omega
theorem flat_append (a b : List R) : flat (a ++ b) = flat a ++ flat b := by simp [flat]
theorem flat_get : ∀ (zs : List R) (j : Nat), j < zs.length → (flat zs)[j * 2]? = some (.int .i64 (at' zs j).1) ∧ (flat zs)[j * 2 + 1]? = some (.int .i64 (at' zs j).2)
  | [], j, h => by simp at h
  | r :: rs, 0, _ => by simp [flat, encR, at']
  | r :: rs, j + 1, h => by
    have i := flat_get rs j (by simpa using h)
    have e1 : (j + 1) * 2 = j * 2 + 1 + 1 := by omega
    have e2 : flat (r :: rs) = .int .i64 r.1 :: .int .i64 r.2 :: flat rs := rfl
    have e3 : at' (r :: rs) (j + 1) = at' rs j := by simp [at']
    rw [e1, e2, e3]
    simpa using i
theorem flat_one {zs : List R} : ∀ u, u ∈ flat zs → u.oneCell' = true := by
  intro u hu
  simp only [flat, List.mem_flatMap] at hu
  obtain ⟨r, _, h⟩ := hu
  simp [encR] at h
  rcases h with rfl | rfl <;> rfl
theorem flat_cells {w : World} {b off : Nat} {zs : List R} (h : Cells w b off zs) (j : Nat) (u : Value) (hu : (flat zs)[j]? = some u) : w.cell? ((⟨b, off, none⟩ : Addr).add j) = some u := by
  have hl : j < (flat zs).length := (List.getElem?_eq_some_iff.1 hu).1
  rw [flat_length] at hl
  have hq : j / 2 < zs.length := by omega
  have g := flat_get zs (j / 2) hq
  have c := h (j / 2) hq
  rcases (show j = j / 2 * 2 ∨ j = j / 2 * 2 + 1 by omega) with e | e
  · rw [e] at hu ⊢
    rw [g.1] at hu
    rw [Addr.add_lit, ← hu]; exact c.1
  · rw [e] at hu ⊢
    rw [g.2] at hu
    rw [Addr.add_lit, ← hu, ← Nat.add_assoc]; exact c.2
theorem infoR : (Tryd.prog.info? 52).map (fun i => (i.zero, i.size, i.bytes)) = some (some (.agg #[.int .i64 0, .int .i64 0]), 2, 16) := by kernel_rfl
theorem cells_of_own {w : World} {base g n cap : Nat} {zs : List R} (h : w.ownsRow base 52 2 (.slice (some ⟨g, 0, none⟩) n cap) n (flat zs)) : Cells w g 0 zs := by
  intro j hj
  have f := flat_get zs j hj
  have c0 := h.cells (g := g) rfl _ _ f.1
  have c1 := h.cells (g := g) rfl _ _ f.2
  rw [Addr.add_lit] at c0 c1
  exact ⟨c0, by rw [← Nat.add_assoc] at c1; exact c1⟩
theorem own_length {w : World} {base n : Nat} {v : Value} {zs : List R} (h : w.ownsRow base 52 2 v n (flat zs)) : zs.length = n := by
  have := h.1; rw [flat_length] at this; omega
theorem own_below {w w' : World} {B e size n : Nat} {v : Value} {xs : List Value} (h : w.ownsRow B e size v n xs) (hb : Below w.heap.size w w') : w'.ownsRow B e size v n xs :=
  (Off.of_below (K := fun _ => False) hb).row h (fun _ _ => id)
theorem own_mono {w : World} {B B' e size n : Nat} {v : Value} {xs : List Value} (h : w.ownsRow B e size v n xs) (hb : B' ≤ B) : w.ownsRow B' e size v n xs := by
  refine ⟨h.1, ?_⟩
  rcases h.2 with hn | ⟨g, cap, cur, rfl, hB, hr⟩
  · exact .inl hn
  · exact .inr ⟨g, cap, cur, rfl, Nat.le_trans hb hB, hr⟩
/-- The map D holds just the names that were, each with its place. -/
structure Names (D : DataW Unit) (ns : List Int) : Prop where
  size : Maps.size D = ns.length
  has : ∀ n : Int, Maps.has D (.int .i64 n) = decide (n ∈ ns)
  at_ : ∀ (j : Nat) (n : Int), ns[j]? = some n → D.atKey (.int .i64 n) (.lit (.int .i64 0)) = .lit (.int .i64 (j : Int))
theorem Names.start : Names (.map []) [] := ⟨rfl, fun n => by simp [Maps.has], fun j n h => by simp at h⟩
theorem Names.put {D : DataW Unit} {ns : List Int} (h : Names D ns) (hT : Maps.Tidy D) {n : Int} (hn : n ∉ ns) : Names (D.put (.int .i64 n) (.lit (.int .i64 (ns.length : Int)))) (ns ++ [n]) := by
  have hk : WideAt.IsKeyLit (.int .i64 n) := by simp [WideAt.IsKeyLit]
  have h0 : Maps.has D (.int .i64 n) = false := by rw [h.has]; simpa using hn
  refine ⟨?_, fun m => ?_, fun j m hj => ?_⟩
  · rw [Maps.size_put hT, h0, h.size]; simp
  · by_cases e : m = n
    · subst e
      rw [Maps.has_put_same hT.isMap hk]; simp
    · rw [Maps.has_put_other (by intro e'; injection e' with _ e'; exact e e'), h.has]
      simp [e]
  · by_cases e : j < ns.length
    · rw [List.getElem?_append_left e] at hj
      have hm : m ≠ n := by rintro rfl; exact hn (List.mem_of_getElem? hj)
      rw [Maps.atKey_put_other (by intro e'; injection e' with _ e'; exact hm e')]
      exact h.at_ j m hj
    · have hl := (List.getElem?_eq_some_iff.1 hj).1
      simp at hl
      have : j = ns.length := by omega
      subst this
      simp at hj
      subst hj
      rw [Maps.atKey_put_same hT.isMap hk]
def own (sb bm : Nat) (v : Value) (k : Nat) : Prop := k = sb ∨ k = bm ∨ v.ownBlock = some k
theorem lawI : Maps.Keyed Tryd.prog 3 := Maps.int_keyed Tryd.underlying3
theorem zeroI (w : World) : (zeroValue 3).run Tryd.prog w = .ok (.int .i64 0) w := by kernel_rfl

/-- The block sb holds IDs: no more than L at a time, the names that were in the map bm, the live ones in the slice v. -/
structure Obj (w : World) (B sb bm : Nat) (v : Value) (L : Int) (ns : List Int) (ls : List R) : Prop where
  inv : Inv L ns ls
  c0 : w.cell? ⟨sb, 0, none⟩ = some (.int .i64 L)
  c1 : w.cell? ⟨sb, 1, none⟩ = some (.map (some bm))
  c2 : w.cell? ⟨sb, 2, none⟩ = some v
  f2 : w.frozen? ⟨sb, 2, none⟩ = false
  map : ∃ D : DataW Unit, w.ownsMap Tryd.prog 3 (plainElem Tryd.prog 3) bm ns.length D ∧ Names D ns
  row : w.ownsRow B 52 2 v ls.length (flat ls)
  hs : B ≤ sb
  hm : B ≤ bm
  ne : bm ≠ sb
  nv : ∀ k, v.ownBlock = some k → k ≠ sb ∧ k ≠ bm
theorem Obj.lt {w : World} {B sb bm : Nat} {v : Value} {L : Int} {ns : List Int} {ls : List R} (h : Obj w B sb bm v L ns ls) {k : Nat} (hk : own sb bm v k) : k < w.heap.size := by
  rcases hk with rfl | rfl | hk
  · exact World.block_lt_of_cell? w _ h.c0
  · obtain ⟨D, hD, _⟩ := h.map; exact hD.lt
  · exact (h.row.lt k hk).2
theorem Obj.ge {w : World} {B sb bm : Nat} {v : Value} {L : Int} {ns : List Int} {ls : List R} (h : Obj w B sb bm v L ns ls) {k : Nat} (hk : own sb bm v k) : B ≤ k := by
  rcases hk with rfl | rfl | hk
  · exact h.hs
  · exact h.hm
  · exact (h.row.lt k hk).1
theorem Obj.off {K : Nat → Prop} {w w' : World} {B sb bm : Nat} {v : Value} {L : Int} {ns : List Int} {ls : List R} (h : Obj w B sb bm v L ns ls) (ho : Off K w w') (hK : ∀ k, own sb bm v k → ¬ K k) : Obj w' B sb bm v L ns ls := by
  have ks := hK sb (.inl rfl)
  have km := hK bm (.inr (.inl rfl))
  have hl := h.lt (k := sb) (.inl rfl)
  obtain ⟨D, hD, hN⟩ := h.map
  exact ⟨h.inv, ho.cell h.c0 ks, ho.cell h.c1 ks, ho.cell h.c2 ks, (ho.frozen (p := ⟨sb, 2, none⟩) hl ks).trans h.f2, ⟨D, ho.map hD km, hN⟩, ho.row h.row (fun k e => hK k (.inr (.inr e))), h.hs, h.hm, h.ne, h.nv⟩
theorem Obj.below {w w' : World} {B sb bm : Nat} {v : Value} {L : Int} {ns : List Int} {ls : List R} (h : Obj w B sb bm v L ns ls) (hb : Below w.heap.size w w') : Obj w' B sb bm v L ns ls :=
  h.off (Off.of_below (K := fun _ => False) hb) (fun _ _ => id)
theorem Obj.le {w : World} {B sb bm : Nat} {v : Value} {L : Int} {ns : List Int} {ls : List R} (h : Obj w B sb bm v L ns ls) : B ≤ w.heap.size := by have := h.hs; have := h.lt (k := sb) (.inl rfl); omega



def limitB (n : Int) : Bool := decide (1 ≤ n ∧ n ≤ 8)
theorem limitB_yes {n : Int} (h : limitB n = true) : 1 ≤ n ∧ n ≤ 8 := of_decide_eq_true h
theorem limitB_no {n : Int} (h : limitB n = false) : n < 1 ∨ 8 < n := by have := of_decide_eq_false h; omega

set_option maxRecDepth 100000 in
set_option maxHeartbeats 2000000 in
theorem isLimit_calls (n : Int) (w : World) : Calls Tryd.prog 41 #[.int .i64 n] w fun e w' => e = .returned (.bool (limitB n)) ∧ w' = w := by
  by_cases h1 : 1 ≤ n
  · by_cases h2 : n ≤ 8
    · go_enter Tryd.func41, Tryd.ntmps41
      go_wp2
      go_ret
      exact ⟨by simp [limitB, h1, h2], rfl⟩
    · go_enter Tryd.func41, Tryd.ntmps41
      go_wp2
      go_ret
      exact ⟨by simp [limitB, h1, h2], rfl⟩
  · go_enter Tryd.func41, Tryd.ntmps41
    go_wp2
    go_ret
    exact ⟨by simp [limitB] <;> omega, rfl⟩

set_option maxRecDepth 100000 in
set_option maxHeartbeats 2000000 in
theorem isName_calls (n : Int) (w : World) : Calls Tryd.prog 43 #[.int .i64 n] w fun e w' => e = .returned (.bool (nameB n)) ∧ w' = w := by
  by_cases h1 : 0 ≤ n
  · by_cases h2 : n ≤ 1073741823
    · go_enter Tryd.func43, Tryd.ntmps43
      go_wp2
      go_ret
      exact ⟨by simp [nameB, h1, h2], rfl⟩
    · go_enter Tryd.func43, Tryd.ntmps43
      go_wp2
      go_ret
      exact ⟨by simp [nameB, h1, h2], rfl⟩
  · go_enter Tryd.func43, Tryd.ntmps43
    go_wp2
    go_ret
    exact ⟨by simp [nameB] <;> omega, rfl⟩

set_option maxRecDepth 100000 in
set_option maxHeartbeats 2000000 in
theorem may_calls (n : Int) (w : World) : Calls Tryd.prog 37 #[.int .i64 n] w fun e w' => e = .returned (.bool (nameB n)) ∧ w' = w := by
  by_cases h1 : 0 ≤ n
  · by_cases h2 : n ≤ 1073741823
    · go_enter Tryd.func37, Tryd.ntmps37
      go_wp2
      go_ret
      exact ⟨by simp [nameB, h1, h2], rfl⟩
    · go_enter Tryd.func37, Tryd.ntmps37
      go_wp2
      go_ret
      exact ⟨by simp [nameB, h1, h2], rfl⟩
  · go_enter Tryd.func37, Tryd.ntmps37
    go_wp2
    go_ret
    exact ⟨by simp [nameB] <;> omega, rfl⟩

theorem new_obj (w : World) (L : Int) (h : limitB L = true) : Obj ((w.alloc (.map #[] 0)).alloc (.cells #[.int .i64 L, .map (some w.heap.size), .slice none 0 0] 86)) w.heap.size (w.heap.size + 1) w.heap.size (.slice none 0 0) L [] [] := by
  obtain ⟨h1, h8⟩ := limitB_yes h
  have hm : (w.alloc (.map #[] 0)).ownsMap Tryd.prog 3 (plainElem (H := Unit) Tryd.prog 3) w.heap.size 0 (.map []) := World.ownsMap_made w _ _ _
  have e : (w.alloc (.map #[] 0)).heap.size = w.heap.size + 1 := by simp
  refine ⟨Inv.start h1 h8, ?_, ?_, ?_, ?_, ⟨.map [], hm.alloc _, Names.start⟩, World.ownsRow_nil _ _ _ _, by omega, by omega, by omega, fun k hk => by simp [Value.ownBlock] at hk⟩
  · rw [← e]; simp
  · rw [← e]; simp
  · rw [← e]; simp
  · rw [← e]; simp
set_option maxRecDepth 100000 in
set_option maxHeartbeats 2000000 in
theorem new_no (L : Int) (w : World) (h : limitB L = false) : Calls Tryd.prog 22 #[.int .i64 L] w fun e w' => e = .returned (.tuple #[.pointer none, .iface 72 (.int .i64 1)]) ∧ w' = w := by
  go_enter Tryd.func22, Tryd.ntmps22
  go_wp2_with (go_at_call 41; refine (isLimit_calls L _).mono ?_; rintro e w1 ⟨rfl, rfl⟩; rw [h])
  go_ret2
  exact ⟨rfl, rfl⟩
set_option maxRecDepth 100000 in
set_option maxHeartbeats 2000000 in
theorem new_yes (L : Int) (w : World) (h : limitB L = true) : Calls Tryd.prog 22 #[.int .i64 L] w fun e w' => e = .returned (.tuple #[.pointer (some ⟨w.heap.size + 1, 0, none⟩), .nilIface]) ∧ Obj w' w.heap.size (w.heap.size + 1) w.heap.size (.slice none 0 0) L [] [] ∧ Below w.heap.size w w' := by
  have hmm := @run_makeMap Tryd.prog
  go_enter Tryd.func22, Tryd.ntmps22
  go_wp2_with (go_at_call 41; refine (isLimit_calls L _).mono ?_; rintro e w1 ⟨rfl, rfl⟩; rw [h])
  go_ret2
  exact ⟨by simp, new_obj _ L h, ((Below.refl _ _).alloc (Nat.le_refl _) _).alloc (by simp) _⟩

theorem len_map {W : World} {bm m : Nat} {D : DataW Unit} (h : W.ownsMap Tryd.prog 3 (plainElem Tryd.prog 3) bm m D) (q : Nat) (ty : TypeId) : (Builtin.len_ #[84] ty #[.map (some bm)]).run Tryd.prog (W.drewN q) = .ok (.int .i64 (Maps.size D)) (W.drewN q) :=
  World.ownsMap.len (w := W.drewN q) h Tryd.underlying84 ty
def fullB (L : Int) (ns : List Int) (ls : List R) : Bool := decide (L ≤ (ls.length : Int)) || decide (100 ≤ ns.length)

set_option maxRecDepth 100000 in
set_option maxHeartbeats 2000000 in
theorem isFull_a {w : World} {B sb bm : Nat} {v : Value} {L : Int} {ns : List Int} {ls : List R} (h : Obj w B sb bm v L ns ls) (g1 : L ≤ (ls.length : Int)) :
    Calls Tryd.prog 44 #[.pointer (some ⟨sb, 0, none⟩)] w fun e w' => e = .returned (.bool true) ∧ Below w.heap.size w w' := by
  obtain ⟨inv, c0, c1, c2, f2, ⟨D, hD, hN⟩, row, _⟩ := h
  have hlen := len_map hD
  rw [hN.size] at hlen
  obtain ⟨a, cap, rfl⟩ : ∃ a cap, v = .slice a ls.length cap := by
    rcases row.2 with ⟨rfl, e⟩ | ⟨g, cap, cur, rfl, _⟩
    · exact ⟨none, 0, by rw [e]⟩
    · exact ⟨_, _, rfl⟩
  clear hD hN row inv
  generalize ls.length = m at *
  generalize ns.length = k at *
  go_enter Tryd.func44, Tryd.ntmps44
  go_wp2
  go_quiet (fail)
  go_wp2
  go_ret
  exact ⟨rfl, by repeat (first | exact Below.refl _ _ | exact below_drewN (Below.refl _ _) _ | refine Below.drew ?_)⟩

set_option maxRecDepth 100000 in
set_option maxHeartbeats 2000000 in
theorem isFull_b {w : World} {B sb bm : Nat} {v : Value} {L : Int} {ns : List Int} {ls : List R} (h : Obj w B sb bm v L ns ls) (g1 : decide (L ≤ (ls.length : Int)) = false) (g2 : (100 : Int) ≤ (ns.length : Int)) :
    Calls Tryd.prog 44 #[.pointer (some ⟨sb, 0, none⟩)] w fun e w' => e = .returned (.bool true) ∧ Below w.heap.size w w' := by
  obtain ⟨inv, c0, c1, c2, f2, ⟨D, hD, hN⟩, row, _⟩ := h
  have hlen := len_map hD
  rw [hN.size] at hlen
  obtain ⟨a, cap, rfl⟩ : ∃ a cap, v = .slice a ls.length cap := by
    rcases row.2 with ⟨rfl, e⟩ | ⟨g, cap, cur, rfl, _⟩
    · exact ⟨none, 0, by rw [e]⟩
    · exact ⟨_, _, rfl⟩
  clear hD hN row inv
  generalize ls.length = m at *
  generalize ns.length = k at *
  go_enter Tryd.func44, Tryd.ntmps44
  go_wp2
  go_quiet (fail)
  go_wp2
  go_ret
  exact ⟨rfl, by repeat (first | exact Below.refl _ _ | exact below_drewN (Below.refl _ _) _ | refine Below.drew ?_)⟩

set_option maxRecDepth 100000 in
set_option maxHeartbeats 2000000 in
theorem isFull_c {w : World} {B sb bm : Nat} {v : Value} {L : Int} {ns : List Int} {ls : List R} (h : Obj w B sb bm v L ns ls) (g1 : decide (L ≤ (ls.length : Int)) = false) (g2 : decide ((100 : Int) ≤ (ns.length : Int)) = false) :
    Calls Tryd.prog 44 #[.pointer (some ⟨sb, 0, none⟩)] w fun e w' => e = .returned (.bool false) ∧ Below w.heap.size w w' := by
  obtain ⟨inv, c0, c1, c2, f2, ⟨D, hD, hN⟩, row, _⟩ := h
  have hlen := len_map hD
  rw [hN.size] at hlen
  obtain ⟨a, cap, rfl⟩ : ∃ a cap, v = .slice a ls.length cap := by
    rcases row.2 with ⟨rfl, e⟩ | ⟨g, cap, cur, rfl, _⟩
    · exact ⟨none, 0, by rw [e]⟩
    · exact ⟨_, _, rfl⟩
  clear hD hN row inv
  generalize ls.length = m at *
  generalize ns.length = k at *
  go_enter Tryd.func44, Tryd.ntmps44
  go_wp2
  go_quiet (fail)
  go_wp2
  go_ret
  exact ⟨rfl, by repeat (first | exact Below.refl _ _ | exact below_drewN (Below.refl _ _) _ | refine Below.drew ?_)⟩

theorem isFull_calls {w : World} {B sb bm : Nat} {v : Value} {L : Int} {ns : List Int} {ls : List R} (h : Obj w B sb bm v L ns ls) :
    Calls Tryd.prog 44 #[.pointer (some ⟨sb, 0, none⟩)] w fun e w' => e = .returned (.bool (fullB L ns ls)) ∧ Below w.heap.size w w' := by
  by_cases g1 : L ≤ (ls.length : Int)
  · have e : fullB L ns ls = true := by simp [fullB, g1]
    rw [e]; exact isFull_a h g1
  · by_cases g2 : (100 : Int) ≤ (ns.length : Int)
    · have e : fullB L ns ls = true := by simp [fullB]; omega
      rw [e]; exact isFull_b h (decide_eq_false g1) g2
    · have e : fullB L ns ls = false := by simp [fullB]; omega
      rw [e]; exact isFull_c h (decide_eq_false g1) (decide_eq_false g2)



/-- The block b holds an ID, and may be written. -/
structure IdBox (w : World) (b : Nat) (q n : Int) : Prop where
  lt : b < w.heap.size
  c0 : w.cell? ⟨b, 0, none⟩ = some (.int .i64 q)
  c1 : w.cell? ⟨b, 1, none⟩ = some (.int .i64 n)
  f0 : w.frozen? ⟨b, 0, none⟩ = false
  f1 : w.frozen? ⟨b, 1, none⟩ = false
theorem IdBox.off {K : Nat → Prop} {w w' : World} {b : Nat} {q n : Int} (h : IdBox w b q n) (ho : Off K w w') (hn : ¬ K b) : IdBox w' b q n :=
  ⟨Nat.lt_of_lt_of_le h.lt ho.size, ho.cell h.c0 hn, ho.cell h.c1 hn, (ho.frozen (p := ⟨b, 0, none⟩) h.lt hn).trans h.f0, (ho.frozen (p := ⟨b, 1, none⟩) h.lt hn).trans h.f1⟩
theorem IdBox.below {w w' : World} {b : Nat} {q n : Int} (h : IdBox w b q n) (hb : Below w.heap.size w w') : IdBox w' b q n := h.off (Off.of_below (K := fun _ => False) hb) id
theorem IdBox.new (w : World) (q n : Int) (t : TypeId) : IdBox (w.alloc (.cells #[.int .i64 q, .int .i64 n] t)) w.heap.size q n := ⟨by simp, by simp, by simp, by simp, by simp⟩
theorem IdBox.set {w : World} {b : Nat} {q n : Int} (h : IdBox w b q n) (q' n' : Int) : IdBox ((w.setCell ⟨b, 0, none⟩ (.int .i64 q')).setCell ⟨b, 1, none⟩ (.int .i64 n')) b q' n' := by
  have a0 : (w.setCell ⟨b, 0, none⟩ (.int .i64 q')).cell? ⟨b, 0, none⟩ = some (.int .i64 q') := World.cell?_setCell_same _ _ _ h.c0
  have a1 : (w.setCell ⟨b, 0, none⟩ (.int .i64 q')).cell? ⟨b, 1, none⟩ = some (.int .i64 n) := by rw [World.cell?_setCell_other _ _ _ _ (by simp)]; exact h.c1
  refine ⟨by simpa using h.lt, ?_, World.cell?_setCell_same _ _ _ a1, by simpa using h.f0, by simpa using h.f1⟩
  rw [World.cell?_setCell_other _ _ _ _ (by simp)]; exact a0

set_option maxRecDepth 100000 in
set_option maxHeartbeats 2000000 in
theorem place_closure (a b q : Int) (B : Nat) (W : World) (hc : W.cell? ⟨B, 0, none⟩ = some (.int .i64 q)) :
    Calls Tryd.prog 61 #[.agg #[.int .i64 a, .int .i64 b], .pointer (some ⟨B, 0, none⟩)] W fun e w' => e = .returned (.bool (a == q)) ∧ Below W.heap.size W w' := by
  have hB : B < W.heap.size := World.block_lt_of_cell? W _ hc
  have hc1 : (W.alloc (.cells #[.int .i64 a, .int .i64 b] 52)).cell? ⟨B, 0, none⟩ = some (.int .i64 q) := (Below.cell (((Below.refl W.heap.size W).alloc (Nat.le_refl _) _)) (by exact hB)).trans hc
  go_enter Tryd.func61, Tryd.ntmps61
  go_wp2
  go_ret
  exact ⟨rfl, (Below.refl _ _).alloc (Nat.le_refl _) _⟩
set_option maxRecDepth 100000 in
set_option maxHeartbeats 2000000 in
theorem place_some (sb g cap : Nat) (zs : List R) (q : Int) (w : World) (hl : zs.length ≤ 9223372036854775807) (hs : sb < w.heap.size) (hb : g < w.heap.size) (hc : Cells w g 0 zs) (c2 : w.cell? ⟨sb, 2, none⟩ = some (.slice (some ⟨g, 0, none⟩) zs.length cap)) :
    Calls Tryd.prog 50 #[.pointer (some ⟨sb, 0, none⟩), .int .i64 q] w fun e w' => e = .returned (.int .i64 (pos zs q)) ∧ Below w.heap.size w w' := by
  have eg : ∀ args w, (callFunc 61 args).run Tryd.prog w = .ok (.enter 61 args) w := enters_of Tryd.func61 (by kernel_rfl) rfl
  have bel : Below w.heap.size w (w.alloc (.cells #[.int .i64 q] 3)) := (Below.refl _ _).alloc (Nat.le_refl _) _
  have hc' := hc.below hb bel
  have c2' := (bel.cell (p := ⟨sb, 2, none⟩) hs).trans c2
  have hcon := AnyQ.slices_IndexFunc Tryd.lx 2 Tryd.isAgg52 Tryd.sizeOf52 encR (fun _ => rfl) (fun r => r.1 == q) 61 #[.pointer (some ⟨w.heap.size, 0, none⟩)] eg g 0 zs.length cap zs (w.alloc (.cells #[.int .i64 q] 3))
    (fun W r hb' => (place_closure r.1 r.2 q w.heap.size W ((hb'.cell (p := ⟨w.heap.size, 0, none⟩) (by simp)).trans (by simp))).mono fun _ _ ⟨he, h2⟩ => ⟨he, hb'.trans (h2.mono hb'.size)⟩)
    (Nat.le_refl _) (by omega) (by simp; omega) (fun j hj i v hv => by
      have h := hc' j hj
      have e : zs[j]! = at' zs j := by simp [at', hj]
      rw [e] at hv
      match i, hv with
      | 0, hv => simp [encR] at hv; subst hv; exact h.1
      | 1, hv => simp [encR] at hv; subst hv; exact h.2
      | i + 2, hv => simp [encR] at hv)
  change Calls Tryd.prog 60 _ _ _ at hcon
  rw [List.take_length] at hcon
  have hbb : Lib.idxBy (fun _ y => (y : R).1 == q) zs default = pos zs q := rfl
  rw [hbb] at hcon
  clear hc hc' hbb
  generalize pos zs q = res at hcon ⊢
  generalize zs.length = len at *
  go_enter Tryd.func50, Tryd.ntmps50
  go_wp2_with (go_at_call 60; refine hcon.mono ?_; rintro e w' ⟨rfl, hb1⟩)
  go_ret
  exact ⟨rfl, bel.trans (hb1.mono bel.size)⟩
set_option maxRecDepth 100000 in
set_option maxHeartbeats 2000000 in
theorem place_none (sb : Nat) (ao : Option Addr) (cap : Nat) (q : Int) (w : World) (hs : sb < w.heap.size) (c2 : w.cell? ⟨sb, 2, none⟩ = some (.slice ao 0 cap)) :
    Calls Tryd.prog 50 #[.pointer (some ⟨sb, 0, none⟩), .int .i64 q] w fun e w' => e = .returned (.int .i64 (-1)) ∧ Below w.heap.size w w' := by
  have bel : Below w.heap.size w (w.alloc (.cells #[.int .i64 q] 3)) := (Below.refl _ _).alloc (Nat.le_refl _) _
  have c2' := (bel.cell (p := ⟨sb, 2, none⟩) hs).trans c2
  go_enter Tryd.func50, Tryd.ntmps50
  go_wp2
  refine wp_loop_rounds 1 ?_
  rw [rounds_succ]
  go_wp2
  go_ret
  exact ⟨rfl, (Below.refl _ _).alloc (Nat.le_refl _) _⟩
theorem place_calls {w : World} {B sb bm : Nat} {v : Value} {L : Int} {ns : List Int} {ls : List R} (h : Obj w B sb bm v L ns ls) (q : Int) :
    Calls Tryd.prog 50 #[.pointer (some ⟨sb, 0, none⟩), .int .i64 q] w fun e w' => e = .returned (.int .i64 (pos ls q)) ∧ Below w.heap.size w w' := by
  have hs := h.lt (k := sb) (.inl rfl)
  rcases h.row.2 with ⟨e, e0⟩ | ⟨g, cap, cur, e, _, _, _⟩
  · have e1 : ls = [] := List.eq_nil_of_length_eq_zero e0
    have hp : pos ls q = -1 := by rw [e1]; rfl
    rw [hp]
    exact place_none sb none 0 q w hs (by rw [h.c2, e])
  · have hr := h.row
    rw [e] at hr
    exact place_some sb g cap ls q w (by have := h.inv.full; have := h.inv.l8; omega) hs (hr.lt g rfl).2 (cells_of_own hr) (by rw [h.c2, e])

theorem at_lit {D : DataW Unit} {kl : Lit} {z : DataW Unit} {c : Int} {j : Nat} (h1 : D.atKey kl z = .lit (.int .i64 (j : Int))) (h2 : D.atKey kl z = .lit (.int .i64 c)) : c = (j : Int) := by
  rw [h1] at h2
  injection h2 with h2
  injection h2 with _ h2
  exact h2.symm
set_option maxRecDepth 100000 in
set_option maxHeartbeats 2000000 in
/-- Live: the live ones, in a slice of the call's own. -/
theorem live_calls {w : World} {B sb bm : Nat} {v : Value} {L : Int} {ns : List Int} {ls : List R} (h : Obj w B sb bm v L ns ls) :
    Calls Tryd.prog 24 #[.pointer (some ⟨sb, 0, none⟩)] w fun e w' => ∃ u, e = .returned u ∧ w'.ownsRow w.heap.size 52 2 u ls.length (flat ls) ∧ Below w.heap.size w w' := by
  have hs := h.lt (k := sb) (.inl rfl)
  obtain ⟨inv, c0, c1, c2, f2, _, row, _⟩ := h
  have hm : ls.length ≤ 8 := by have := inv.full; have := inv.l8; omega
  have hcon : Calls Tryd.prog 42 #[v] w fun e w' => ∃ u, e = .returned u ∧ w'.ownsRow w.heap.size 52 2 u ls.length (flat ls) ∧ Below w.heap.size w w' := by
    rcases row.2 with ⟨rfl, e0⟩ | ⟨g, cap, cur, rfl, _⟩
    · have e1 : ls = [] := List.eq_nil_of_length_eq_zero e0
      subst e1
      have hc := AnyE.slices_Clone_nil Tryd.lc 0 0 w
      change Calls Tryd.prog 42 _ _ _ at hc
      exact hc.mono fun e w' ⟨he, hw⟩ => ⟨_, he, World.ownsRow_nil _ _ _ _, hw ▸ Below.refl _ _⟩
    · obtain ⟨i0, hi, hz0, hz1, hz2⟩ := info_parts infoR
      have hcl := cells_of_own row
      have hc := AnyE.slices_Clone Tryd.lc i0 _ 2 16 hi hz0 hz1 hz2 rfl (by decide) Tryd.sizeOf52 g 0 ls.length cap (flat ls) w (flat_length ls) (by unfold maxLen; omega) (by omega) (fun j u hu => by have := flat_cells hcl j u hu; rw [Addr.add_lit] at this; exact this) (fun u hu => flat_one u hu)
      change Calls Tryd.prog 42 _ _ _ at hc
      exact hc.mono fun e w' ⟨u, he, ho, _, hb⟩ => ⟨u, he, ho, hb⟩
  obtain ⟨a, cap, rfl⟩ : ∃ a cap, v = .slice a ls.length cap := by
    rcases row.2 with ⟨rfl, e⟩ | ⟨g, cap, cur, rfl, _⟩
    · exact ⟨none, 0, by rw [e]⟩
    · exact ⟨_, _, rfl⟩
  clear row inv
  generalize flat ls = fl at *
  generalize ls.length = m at *
  go_enter Tryd.func24, Tryd.ntmps24
  go_wp2_with (go_at_call 42; refine hcon.mono ?_; rintro e w1 ⟨u, rfl, ho, hb1⟩)
  go_ret
  exact ⟨u, rfl, ho, hb1⟩
end Go.Proofs.YtpnblfabdioanaaDoor.Ix
