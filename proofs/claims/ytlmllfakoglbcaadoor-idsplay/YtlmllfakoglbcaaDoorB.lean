/- What a call leaves as it was; a slice of IDs, and the IDs of a connection, as they lie in memory. -/
import Derived.Test.YtlmllfakoglbcaaDoorA
import Derived.Test.YtlmllfakoglbcaaDoorChecked
import Derived.WalkKit
import Derived.WalkSpells
import Derived.WalkLawsBesides
import Derived.LoopN
import Derived.Outline
import Derived.BigQuiet
import Derived.Deep.RegionWith
import Derived.Deep.RegionHeld3
import Derived.Shelf.SlSortCmp.QuietGrown
import Derived.Maps.OwnSet
import Derived.Maps.AppendAt
import Derived.Laws.AppendOwnNone
import Derived.Deep.LoopGhost
import Derived.Deep.DeepCutAuto
import Derived.KernelRfl
namespace Go.Proofs.YtlmllfakoglbcaaDoor
open Go.RowKit Go.Lib Go.Sort
set_option linter.unusedVariables false
set_option linter.unusedSimpArgs false

/-- But for the blocks K and new ones the world is as it was. -/
structure Off (K : Nat → Prop) (w w' : World) : Prop where
  os : w'.os = w.os
  tape : w'.tape = w.tape
  output : w'.output = w.output
  size : w.heap.size ≤ w'.heap.size
  block : ∀ k, k < w.heap.size → ¬ K k → w'.heap[k]? = w.heap[k]?
theorem Off.refl (K : Nat → Prop) (w : World) : Off K w w := ⟨rfl, rfl, rfl, Nat.le_refl _, fun _ _ _ => rfl⟩
theorem Off.trans {K : Nat → Prop} {a b c : World} (h : Off K a b) (k : Off K b c) : Off K a c :=
  ⟨k.os.trans h.os, k.tape.trans h.tape, k.output.trans h.output, Nat.le_trans h.size k.size, fun i hi hk => (k.block i (Nat.lt_of_lt_of_le hi h.size) hk).trans (h.block i hi hk)⟩
theorem Off.mono {K K' : Nat → Prop} {w w' : World} (h : Off K w w') (hK : ∀ k, k < w.heap.size → K k → K' k) : Off K' w w' := ⟨h.os, h.tape, h.output, h.size, fun k hk hn => h.block k hk (fun e => hn (hK k hk e))⟩
theorem Off.of_below {K : Nat → Prop} {w w' : World} (h : Below w.heap.size w w') : Off K w w' := ⟨h.os, h.tape, h.output, h.size, fun k hk _ => h.block k hk⟩
theorem Off.below {K : Nat → Prop} {B : Nat} {w w' : World} (h : Off K w w') (hK : ∀ k, K k → B ≤ k) (hB : B ≤ w.heap.size) : Below B w w' :=
  ⟨h.os, h.tape, h.output, h.size, fun k hk => h.block k (by omega) (fun e => by have := hK k e; omega)⟩
theorem Off.of_grown {K : Nat → Prop} {w w' : World} {row : Option Nat} (h : w.grownBy w' row) (hK : ∀ k, row = some k → K k) : Off K w w' :=
  ⟨h.os, h.tape, h.output, h.size, fun k hk hn => h.block k hk (fun e => hn (hK k e.symm))⟩
theorem Off.setCell {K : Nat → Prop} {w w' : World} (h : Off K w w') {a : Addr} (hK : K a.block) (u : Value) : Off K w (w'.setCell a u) :=
  h.trans ⟨rfl, rfl, rfl, by simp [World.setCell], fun k _ hn => Below.heap_setCell _ _ _ _ (fun e => hn (e ▸ hK))⟩
theorem Off.alloc {K : Nat → Prop} {w w' : World} (h : Off K w w') (o : Go.Obj) : Off K w (w'.alloc o) := h.trans (Off.of_below ((Below.refl _ _).alloc (Nat.le_refl _) _))
theorem Off.drew {K : Nat → Prop} {w w' : World} (h : Off K w w') : Off K w w'.drew := ⟨h.os, h.tape, h.output, h.size, h.block⟩
theorem Off.cell {K : Nat → Prop} {w w' : World} (h : Off K w w') {p : Addr} {v : Value} (hc : w.cell? p = some v) (hn : ¬ K p.block) : w'.cell? p = some v :=
  (World.cell?_of_block (h.block p.block (World.block_lt_of_cell? w p hc) hn)).trans hc
theorem Off.frozen {K : Nat → Prop} {w w' : World} (h : Off K w w') {p : Addr} (hl : p.block < w.heap.size) (hn : ¬ K p.block) : w'.frozen? p = w.frozen? p :=
  World.frozen?_of_block (h.block p.block hl hn)
theorem Off.row {K : Nat → Prop} {w w' : World} (h : Off K w w') {B e size n : Nat} {v : Value} {xs : List Value} (ho : w.ownsRow B e size v n xs) (hn : ∀ k, v.ownBlock = some k → ¬ K k) : w'.ownsRow B e size v n xs := by
  refine ⟨ho.1, ?_⟩
  rcases ho.2 with h0 | ⟨g, cap, cur, rfl, hB, hgg, hr⟩
  · exact .inl h0
  · exact .inr ⟨g, cap, cur, rfl, hB, (h.block g (Array.getElem?_eq_some_iff.1 hgg).1 (hn g rfl)).trans hgg, hr⟩
theorem Off.map {K : Nat → Prop} {w w' : World} (h : Off K w w') {P : Program} {k : TypeId} {R : Value → Option (DataW Unit × List MemPlace)} {b n : Nat} {D : DataW Unit} (ho : w.ownsMap P k R b n D) (hn : ¬ K b) : w'.ownsMap P k R b n D := by
  have hlt := ho.lt
  obtain ⟨es, clock, hb, F, hs, hD⟩ := ho
  exact ⟨es, clock, (h.block b hlt hn).trans hb, F, hs, hD⟩

def Cells (w : World) (b off : Nat) (zs : List R) : Prop := ∀ j, j < zs.length → w.cell? ⟨b, off + j * 2, none⟩ = some (.int .i64 (at' zs j).1) ∧ w.cell? ⟨b, off + j * 2 + 1, none⟩ = some (.int .i64 (at' zs j).2)
theorem Cells.below {w w' : World} {b off : Nat} {zs : List R} (h : Cells w b off zs) (hb : b < w.heap.size) (bel : Below w.heap.size w w') : Cells w' b off zs := fun j hj =>
  ⟨(bel.cell (p := ⟨b, off + j * 2, none⟩) hb).trans (h j hj).1, (bel.cell (p := ⟨b, off + j * 2 + 1, none⟩) hb).trans (h j hj).2⟩
def encR (x : R) : List Value := [.int .i64 x.1, .int .i64 x.2]
def flat (zs : List R) : List Value := zs.flatMap encR
theorem flat_length (zs : List R) : (flat zs).length = zs.length * 2 := by
  induction zs with
  | nil => rfl
  | cons r rs ih => simp only [flat, List.flatMap_cons, List.length_append] at *; rw [ih]; simp [encR]; omega
theorem flat_append (a b : List R) : flat (a ++ b) = flat a ++ flat b := by simp [flat]
theorem flat_get : ∀ (zs : List R) (j : Nat), j < zs.length → (flat zs)[j * 2]? = some (.int .i64 (at' zs j).1) ∧ (flat zs)[j * 2 + 1]? = some (.int .i64 (at' zs j).2)
  | [], j, h => by simp at h
  | r :: rs, 0, _ => by simp [flat, encR, at']
  | r :: rs, j + 1, h => by
    have i := flat_get rs j (by simpa using h)
    have e1 : (j + 1) * 2 = j * 2 + 1 + 1 := by omega
    have e2 : flat (r :: rs) = .int .i64 r.1 :: .int .i64 r.2 :: flat rs := rfl
    have e3 : at' (r :: rs) (j + 1) = at' rs j := by simp [at']
    rw [e1, e2, e3]
    simpa using i
theorem flat_one {zs : List R} : ∀ u, u ∈ flat zs → u.oneCell' = true := by
  intro u hu
  simp only [flat, List.mem_flatMap] at hu
  obtain ⟨r, _, h⟩ := hu
  simp [encR] at h
  rcases h with rfl | rfl <;> rfl
theorem flat_cells {w : World} {b off : Nat} {zs : List R} (h : Cells w b off zs) (j : Nat) (u : Value) (hu : (flat zs)[j]? = some u) : w.cell? ((⟨b, off, none⟩ : Addr).add j) = some u := by
  have hl : j < (flat zs).length := (List.getElem?_eq_some_iff.1 hu).1
  rw [flat_length] at hl
  have hq : j / 2 < zs.length := by omega
  have g := flat_get zs (j / 2) hq
  have c := h (j / 2) hq
  rcases (show j = j / 2 * 2 ∨ j = j / 2 * 2 + 1 by omega) with e | e
  · rw [e] at hu ⊢
    rw [g.1] at hu
    rw [Addr.add_lit, ← hu]; exact c.1
  · rw [e] at hu ⊢
    rw [g.2] at hu
    rw [Addr.add_lit, ← hu, ← Nat.add_assoc]; exact c.2
theorem infoR : (Tryd.prog.info? 29).map (fun i => (i.zero, i.size, i.bytes)) = some (some (.agg #[.int .i64 0, .int .i64 0]), 2, 16) := by kernel_rfl
theorem cells_of_own {w : World} {base g n cap : Nat} {zs : List R} (h : w.ownsRow base 29 2 (.slice (some ⟨g, 0, none⟩) n cap) n (flat zs)) : Cells w g 0 zs := by
  intro j hj
  have f := flat_get zs j hj
  have c0 := h.cells (g := g) rfl _ _ f.1
  have c1 := h.cells (g := g) rfl _ _ f.2
  rw [Addr.add_lit] at c0 c1
  exact ⟨c0, by rw [← Nat.add_assoc] at c1; exact c1⟩
theorem own_length {w : World} {base n : Nat} {v : Value} {zs : List R} (h : w.ownsRow base 29 2 v n (flat zs)) : zs.length = n := by
  have := h.1; rw [flat_length] at this; omega
theorem own_below {w w' : World} {B e size n : Nat} {v : Value} {xs : List Value} (h : w.ownsRow B e size v n xs) (hb : Below w.heap.size w w') : w'.ownsRow B e size v n xs :=
  (Off.of_below (K := fun _ => False) hb).row h (fun _ _ => id)
theorem own_mono {w : World} {B B' e size n : Nat} {v : Value} {xs : List Value} (h : w.ownsRow B e size v n xs) (hb : B' ≤ B) : w.ownsRow B' e size v n xs := by
  refine ⟨h.1, ?_⟩
  rcases h.2 with hn | ⟨g, cap, cur, rfl, hB, hr⟩
  · exact .inl hn
  · exact .inr ⟨g, cap, cur, rfl, Nat.le_trans hb hB, hr⟩
theorem below_drewN {B : Nat} {a w : World} (h : Below B a w) (q : Nat) : Below B a (w.drewN q) := ⟨h.os, h.tape, h.output, h.size, h.block⟩
theorem below_grow {B : Nat} {a w : World} (h : Below B a w) (hB : B ≤ w.heap.size) (os : Array Go.Obj) : Below B a (grow w os) := by
  refine ⟨h.os, h.tape, h.output, ?_, fun k hk => ?_⟩
  · have := h.size; show _ ≤ (w.heap ++ os).size; simp; omega
  · rw [← h.block k hk]; show (w.heap ++ os)[k]? = _; rw [Array.getElem?_append_left (by omega)]
theorem mixed : Tryd.prog.follows .mixedOrders = true := by kernel_rfl

/-- The map D holds just the names that were, each with its place. -/
structure Names (D : DataW Unit) (ns : List Int) : Prop where
  size : Maps.size D = ns.length
  has : ∀ n : Int, Maps.has D (.int .i64 n) = decide (n ∈ ns)
  at_ : ∀ (j : Nat) (n : Int), ns[j]? = some n → D.atKey (.int .i64 n) (.lit (.int .i64 0)) = .lit (.int .i64 (j : Int))
theorem Names.start : Names (.map []) [] := ⟨rfl, fun n => by simp [Maps.has], fun j n h => by simp at h⟩
theorem Names.put {D : DataW Unit} {ns : List Int} (h : Names D ns) (hT : Maps.Tidy D) {n : Int} (hn : n ∉ ns) : Names (D.put (.int .i64 n) (.lit (.int .i64 (ns.length : Int)))) (ns ++ [n]) := by
  have hk : WideAt.IsKeyLit (.int .i64 n) := by simp [WideAt.IsKeyLit]
  have h0 : Maps.has D (.int .i64 n) = false := by rw [h.has]; simpa using hn
  refine ⟨?_, fun m => ?_, fun j m hj => ?_⟩
  · rw [Maps.size_put hT, h0, h.size]; simp
  · by_cases e : m = n
    · subst e
      rw [Maps.has_put_same hT.isMap hk]; simp
    · rw [Maps.has_put_other (by intro e'; injection e' with _ e'; exact e e'), h.has]
      simp [e]
  · by_cases e : j < ns.length
    · rw [List.getElem?_append_left e] at hj
      have hm : m ≠ n := by rintro rfl; exact hn (List.mem_of_getElem? hj)
      rw [Maps.atKey_put_other (by intro e'; injection e' with _ e'; exact hm e')]
      exact h.at_ j m hj
    · have hl := (List.getElem?_eq_some_iff.1 hj).1
      simp at hl
      have : j = ns.length := by omega
      subst this
      simp at hj
      subst hj
      rw [Maps.atKey_put_same hT.isMap hk]
def own (sb bm : Nat) (v : Value) (k : Nat) : Prop := k = sb ∨ k = bm ∨ v.ownBlock = some k
theorem lawI : Maps.Keyed Tryd.prog 3 := Maps.int_keyed Tryd.underlying3
theorem zeroI (w : World) : (zeroValue 3).run Tryd.prog w = .ok (.int .i64 0) w := by kernel_rfl

/-- The block sb holds IDs: no more than L at a time, the names that were in the map bm, the live ones in the slice v. -/
structure Obj (w : World) (B sb bm : Nat) (v : Value) (L : Int) (ns : List Int) (ls : List R) : Prop where
  inv : Inv L ns ls
  c0 : w.cell? ⟨sb, 0, none⟩ = some (.int .i64 L)
  c1 : w.cell? ⟨sb, 1, none⟩ = some (.map (some bm))
  c2 : w.cell? ⟨sb, 2, none⟩ = some v
  f2 : w.frozen? ⟨sb, 2, none⟩ = false
  map : ∃ D : DataW Unit, w.ownsMap Tryd.prog 3 (plainElem Tryd.prog 3) bm ns.length D ∧ Names D ns
  row : w.ownsRow B 29 2 v ls.length (flat ls)
  hs : B ≤ sb
  hm : B ≤ bm
  ne : bm ≠ sb
  nv : ∀ k, v.ownBlock = some k → k ≠ sb ∧ k ≠ bm
theorem Obj.lt {w : World} {B sb bm : Nat} {v : Value} {L : Int} {ns : List Int} {ls : List R} (h : Obj w B sb bm v L ns ls) {k : Nat} (hk : own sb bm v k) : k < w.heap.size := by
  rcases hk with rfl | rfl | hk
  · exact World.block_lt_of_cell? w _ h.c0
  · obtain ⟨D, hD, _⟩ := h.map; exact hD.lt
  · exact (h.row.lt k hk).2
theorem Obj.ge {w : World} {B sb bm : Nat} {v : Value} {L : Int} {ns : List Int} {ls : List R} (h : Obj w B sb bm v L ns ls) {k : Nat} (hk : own sb bm v k) : B ≤ k := by
  rcases hk with rfl | rfl | hk
  · exact h.hs
  · exact h.hm
  · exact (h.row.lt k hk).1
theorem Obj.off {K : Nat → Prop} {w w' : World} {B sb bm : Nat} {v : Value} {L : Int} {ns : List Int} {ls : List R} (h : Obj w B sb bm v L ns ls) (ho : Off K w w') (hK : ∀ k, own sb bm v k → ¬ K k) : Obj w' B sb bm v L ns ls := by
  have ks := hK sb (.inl rfl)
  have km := hK bm (.inr (.inl rfl))
  have hl := h.lt (k := sb) (.inl rfl)
  obtain ⟨D, hD, hN⟩ := h.map
  exact ⟨h.inv, ho.cell h.c0 ks, ho.cell h.c1 ks, ho.cell h.c2 ks, (ho.frozen (p := ⟨sb, 2, none⟩) hl ks).trans h.f2, ⟨D, ho.map hD km, hN⟩, ho.row h.row (fun k e => hK k (.inr (.inr e))), h.hs, h.hm, h.ne, h.nv⟩
theorem Obj.below {w w' : World} {B sb bm : Nat} {v : Value} {L : Int} {ns : List Int} {ls : List R} (h : Obj w B sb bm v L ns ls) (hb : Below w.heap.size w w') : Obj w' B sb bm v L ns ls :=
  h.off (Off.of_below (K := fun _ => False) hb) (fun _ _ => id)
theorem Obj.le {w : World} {B sb bm : Nat} {v : Value} {L : Int} {ns : List Int} {ls : List R} (h : Obj w B sb bm v L ns ls) : B ≤ w.heap.size := by have := h.hs; have := h.lt (k := sb) (.inl rfl); omega
end Go.Proofs.YtlmllfakoglbcaaDoor
