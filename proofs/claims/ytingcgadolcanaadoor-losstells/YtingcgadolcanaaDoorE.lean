/- Slices of packets that a call made itself; slices.Clone and slices.DeleteFunc of packets; left. -/
import Derived.Test.YtingcgadolcanaaDoorD
import Derived.Laws.AppendOwn
import Derived.Laws.AppendOwnNone
import Derived.Laws.IdiomCopy
import Derived.Lib.SliceRun
namespace Go.Proofs.YtingcgadolcanaaDoor
open Go.RowKit Go.Lib Go.Sort
set_option linter.unusedVariables false
set_option linter.unusedSimpArgs false

def enc3 (s : S3) : List Value := [.int .i64 s.1, .int .i64 s.2.1, .int .i64 s.2.2]
def flat3 (zs : List S3) : List Value := zs.flatMap enc3
theorem flat3_length (zs : List S3) : (flat3 zs).length = zs.length * 3 := by
  induction zs with
  | nil => rfl
  | cons r rs ih => simp only [flat3, List.flatMap_cons, List.length_append] at *; rw [ih]; simp [enc3]; omega
theorem flat3_append (a b : List S3) : flat3 (a ++ b) = flat3 a ++ flat3 b := by simp [flat3]
theorem flat3_get : ∀ (zs : List S3) (j : Nat), j < zs.length → (flat3 zs)[j * 3]? = some (.int .i64 (at3 zs j).1) ∧ (flat3 zs)[j * 3 + 1]? = some (.int .i64 (at3 zs j).2.1) ∧ (flat3 zs)[j * 3 + 2]? = some (.int .i64 (at3 zs j).2.2)
  | [], j, h => by simp at h
  | r :: rs, 0, _ => by simp [flat3, enc3, at3]
  | r :: rs, j + 1, h => by
    have i := flat3_get rs j (by simpa using h)
    have e1 : (j + 1) * 3 = j * 3 + 1 + 1 + 1 := by omega
    have e2 : flat3 (r :: rs) = .int .i64 r.1 :: .int .i64 r.2.1 :: .int .i64 r.2.2 :: flat3 rs := rfl
    have e3 : at3 (r :: rs) (j + 1) = at3 rs j := by simp [at3]
    rw [e1, e2, e3]
    simpa using i
theorem flat3_one {zs : List S3} : ∀ u, u ∈ flat3 zs → u.oneCell' = true := by
  intro u hu
  simp only [flat3, List.mem_flatMap] at hu
  obtain ⟨r, _, h⟩ := hu
  simp [enc3] at h
  rcases h with rfl | rfl | rfl <;> rfl
theorem flat3_cells {w : World} {b off : Nat} {zs : List S3} (h : Cells3 w b off zs) (j : Nat) (u : Value) (hu : (flat3 zs)[j]? = some u) : w.cell? ((⟨b, off, none⟩ : Addr).add j) = some u := by
  have hl : j < (flat3 zs).length := (List.getElem?_eq_some_iff.1 hu).1
  rw [flat3_length] at hl
  have hq : j / 3 < zs.length := by omega
  have g := flat3_get zs (j / 3) hq
  have c := h (j / 3) hq
  rcases (show j = j / 3 * 3 ∨ j = j / 3 * 3 + 1 ∨ j = j / 3 * 3 + 2 by omega) with e | e | e
  · rw [e] at hu ⊢
    rw [g.1] at hu
    rw [Addr.add_lit, ← hu]; exact c.1
  · rw [e] at hu ⊢
    rw [g.2.1] at hu
    rw [Addr.add_lit, ← hu, ← Nat.add_assoc]; exact c.2.1
  · rw [e] at hu ⊢
    rw [g.2.2] at hu
    rw [Addr.add_lit, ← hu, ← Nat.add_assoc]; exact c.2.2
theorem info3 : (Tryd.prog.info? 30).map (fun i => (i.zero, i.size, i.bytes)) = some (some (.agg #[.int .i64 0, .int .i64 0, .int .i64 0]), 3, 24) := by kernel_rfl
theorem cells3_of_own {w : World} {base g n cap : Nat} {zs : List S3} (h : w.ownsRow base 30 3 (.slice (some ⟨g, 0, none⟩) n cap) n (flat3 zs)) : Cells3 w g 0 zs := by
  intro j hj
  have f := flat3_get zs j hj
  have c0 := h.cells (g := g) rfl _ _ f.1
  have c1 := h.cells (g := g) rfl _ _ f.2.1
  have c2 := h.cells (g := g) rfl _ _ f.2.2
  rw [Addr.add_lit] at c0 c1 c2
  exact ⟨c0, by rw [← Nat.add_assoc] at c1; exact c1, by rw [← Nat.add_assoc] at c2; exact c2⟩
theorem own3_length {w : World} {base n : Nat} {v : Value} {zs : List S3} (h : w.ownsRow base 30 3 v n (flat3 zs)) : zs.length = n := by
  have := h.1; rw [flat3_length] at this; omega
theorem row3_of_own {w : World} {base n : Nat} {v : Value} {zs : List S3} (h : w.ownsRow base 30 3 v n (flat3 zs)) (hl : zs.length ≤ 1000000) : Row3 w v zs := by
  have hn := own3_length h
  rcases h.2 with ⟨rfl, h0⟩ | ⟨g, cap, cur, rfl, hb, hg, hr⟩
  · exact ⟨none, 0, by rw [hn, h0], by omega, fun _ => rfl, .inl (List.eq_nil_of_length_eq_zero (by omega))⟩
  · exact ⟨some ⟨g, 0, none⟩, cap, by rw [hn], by omega, (fun x => by cases x), .inr ⟨g, 0, rfl, (h.lt g rfl).2, cells3_of_own h⟩⟩
theorem nilEq (w : World) (a : Option Addr) (n c n' c' : Nat) : (binOp .eql 22 (.slice a n c) (.slice none n' c')).run Tryd.prog w = .ok (.bool a.isNone) w := Lib.run_eql_slice_nil w _ _ a n c n' c' Tryd.underlying22

set_option maxRecDepth 100000 in
set_option maxHeartbeats 2000000 in
theorem clone_none (n c : Nat) (w : World) : Calls Tryd.prog 31 #[.slice none n c] w fun e w' => e = .returned (.slice none 0 0) ∧ w' = w := by
  have hq := nilEq
  go_enter Tryd.func31, Tryd.ntmps31
  go_wp2
  go_ret
  exact ⟨rfl, rfl⟩
set_option maxRecDepth 100000 in
set_option maxHeartbeats 2000000 in
theorem clone_some (ad : Addr) (cap : Nat) (zs : List S3) (w : World) (hl : zs.length ≤ 1000000) (hz : zs = [] ∨ ∃ b off, some ad = some ⟨b, off, none⟩ ∧ b < w.heap.size ∧ Cells3 w b off zs) :
    Calls Tryd.prog 31 #[.slice (some ad) zs.length cap] w fun e w' => ∃ u, e = .returned u ∧ w'.ownsRow w.heap.size 30 3 u zs.length (flat3 zs) ∧ Below w.heap.size w w' := by
  obtain ⟨i0, hi, hz0, hz1, hz2⟩ := info_parts info3
  have hq := nilEq
  have HC : Hid (∀ j u, (flat3 zs)[j]? = some u → (w.alloc (.cells #[] 30)).cell? (ad.add j) = some u) := by
    rcases hz with rfl | ⟨b, off, e, hb, hc⟩
    · intro j u hu; simp [flat3] at hu
    · cases e
      intro j u hu
      exact Lib.cell?_alloc_some _ (flat3_cells hc j u hu)
  clear hz
  go_enter Tryd.func31, Tryd.ntmps31
  go_wp2_with (at_builtin; refine wpList_append_own _ rfl _ _ 22 rfl w.heap.size 30 i0 _ 3 24 Tryd.underlying22 hi hz0 hz1 hz2 rfl (by decide) _ _ _ rfl (World.ownsRow_made w #[] 0 (Nat.le_refl _) (Nat.zero_le _) (by simp)) ad zs.length cap (flat3 zs) rfl (flat3_length zs) HC.out (fun u hu => flat3_one u hu) (by unfold maxLen; omega) (by omega) (by simp) ?_; intro u w1 hown hgrow _)
  go_ret
  exact ⟨u, rfl, by simpa using hown, ((Below.refl _ w).alloc (Nat.le_refl _) _).grown hgrow (by simp) (fun k hk => Nat.le_of_eq (Option.some.inj hk))⟩
theorem clone_calls (v : Value) (zs : List S3) (w : World) (hR : Row3 w v zs) (hl : zs.length ≤ 1000000) :
    Calls Tryd.prog 31 #[v] w fun e w' => ∃ u, e = .returned u ∧ w'.ownsRow w.heap.size 30 3 u zs.length (flat3 zs) ∧ Below w.heap.size w w' := by
  obtain ⟨ao, c, rfl, _, hn, hz⟩ := hR
  cases ao with
  | none =>
    have e : zs = [] := by
      rcases hz with h | ⟨b, off, h, _⟩
      · exact h
      · cases h
    subst e
    exact (clone_none _ _ w).mono fun e w' ⟨he, hw⟩ => ⟨_, he, World.ownsRow_nil _ _ _ _, hw ▸ Below.refl _ _⟩
  | some ad => exact clone_some ad c zs w hl hz

/-- The block g holds the packets L from its first cell on, and may be written. -/
structure Held (w : World) (g : Nat) (L : List S3) : Prop where
  cells : Cells3 w g 0 L
  fz : ∀ t, w.frozen? ⟨g, t, none⟩ = false
theorem Held.below {w w' : World} {g : Nat} {L : List S3} (h : Held w g L) (hg : g < w.heap.size) (hb : Below w.heap.size w w') : Held w' g L :=
  ⟨h.cells.below hg hb, fun t => (hb.frozen (p := ⟨g, t, none⟩) hg).trans (h.fz t)⟩
theorem at3_set {L : List S3} {i j : Nat} {s : S3} (hi : i < L.length) : at3 (L.set i s) j = if j = i then s else at3 L j := by
  by_cases e : j = i
  · subst e; simp [at3, hi]
  · rw [if_neg e]; simp [at3, List.getElem?_set, show ¬ i = j from fun x => e x.symm]
theorem Held.put {w : World} {g : Nat} {L : List S3} (h : Held w g L) {i : Nat} (hi : i < L.length) (a b c : Int) :
    Held (((w.setCell ⟨g, i * 3, none⟩ (.int .i64 a)).setCell ⟨g, i * 3 + 1, none⟩ (.int .i64 b)).setCell ⟨g, i * 3 + 2, none⟩ (.int .i64 c)) g (L.set i (a, b, c)) := by
  have ne : ∀ (w : World) (o o' : Nat) (u : Value), o ≠ o' → (w.setCell ⟨g, o', none⟩ u).cell? ⟨g, o, none⟩ = w.cell? ⟨g, o, none⟩ := fun w o o' u e => World.cell?_setCell_other _ _ _ _ (by simp [e])
  have own := h.cells i hi
  simp only [Nat.zero_add] at own
  refine ⟨fun j hj => ?_, fun t => by simpa using h.fz t⟩
  have hj' : j < L.length := by simpa using hj
  have c0 := h.cells j hj'
  simp only [Nat.zero_add] at c0 ⊢
  rw [at3_set hi]
  by_cases e : j = i
  · subst e
    rw [if_pos rfl]
    have s0 : (w.setCell ⟨g, j * 3, none⟩ (.int .i64 a)).cell? ⟨g, j * 3, none⟩ = some (.int .i64 a) := World.cell?_setCell_same _ _ _ own.1
    have s1 : (w.setCell ⟨g, j * 3, none⟩ (.int .i64 a)).cell? ⟨g, j * 3 + 1, none⟩ = some (.int .i64 (at3 L j).2.1) := by rw [ne _ _ _ _ (by omega)]; exact own.2.1
    have s2 : ((w.setCell ⟨g, j * 3, none⟩ (.int .i64 a)).setCell ⟨g, j * 3 + 1, none⟩ (.int .i64 b)).cell? ⟨g, j * 3 + 2, none⟩ = some (.int .i64 (at3 L j).2.2) := by rw [ne _ _ _ _ (by omega), ne _ _ _ _ (by omega)]; exact own.2.2
    refine ⟨?_, ?_, World.cell?_setCell_same _ _ _ s2⟩
    · rw [ne _ _ _ _ (by omega), ne _ _ _ _ (by omega)]; exact s0
    · rw [ne _ _ _ _ (by omega)]; exact World.cell?_setCell_same _ _ _ s1
  · rw [if_neg e]
    refine ⟨?_, ?_, ?_⟩
    · rw [ne _ _ _ _ (by omega), ne _ _ _ _ (by omega), ne _ _ _ _ (by omega)]; exact c0.1
    · rw [ne _ _ _ _ (by omega), ne _ _ _ _ (by omega), ne _ _ _ _ (by omega)]; exact c0.2.1
    · rw [ne _ _ _ _ (by omega), ne _ _ _ _ (by omega), ne _ _ _ _ (by omega)]; exact c0.2.2
theorem Held.cell {w : World} {g : Nat} {L : List S3} (h : Held w g L) {t : Nat} (ht : t < L.length * 3) : (w.cell? ⟨g, t, none⟩).isSome = true := by
  have hq : t / 3 < L.length := by omega
  have c := h.cells (t / 3) hq
  simp only [Nat.zero_add] at c
  rcases (show t = t / 3 * 3 ∨ t = t / 3 * 3 + 1 ∨ t = t / 3 * 3 + 2 by omega) with e | e | e
  · rw [e, c.1]; rfl
  · rw [e, c.2.1]; rfl
  · rw [e, c.2.2]; rfl
theorem zero3 (w : World) : (zeroValue 30).run Tryd.prog w = .ok (.agg #[.int .i64 0, .int .i64 0, .int .i64 0]) w := by kernel_rfl
/-- The zeros that clear lays. -/
def zeros (m : Nat) : List Value := (Builtin.zeroCells (Value.agg #[.int .i64 0, .int .i64 0, .int .i64 0]).cells m).toList
theorem zeros_length (m : Nat) : (zeros m).length = m * 3 := by
  unfold zeros
  rw [Array.length_toList, size_zeroCells]
  rfl
theorem zeros_one (m : Nat) : ∀ u, u ∈ zeros m → u.oneCell' = true := by
  intro u hu
  have e : (Value.agg #[.int .i64 0, .int .i64 0, .int .i64 0]).cells = #[.int .i64 0, .int .i64 0, .int .i64 0] := by kernel_rfl
  unfold zeros at hu
  rw [e] at hu
  simp only [Builtin.zeroCells, Array.toList_map, List.mem_map] at hu
  obtain ⟨i, _, rfl⟩ := hu
  have h3 : i % 3 < 3 := Nat.mod_lt _ (by omega)
  have e3 : (#[Value.int .i64 0, Value.int .i64 0, Value.int .i64 0] : Array Value).size = 3 := rfl
  rw [e3]
  rcases (show i % 3 = 0 ∨ i % 3 = 1 ∨ i % 3 = 2 by omega) with h | h | h <;> rw [h] <;> rfl
theorem clear3 (W : World) (ty : TypeId) (g o m c : Nat) (hm : 0 < m) (hc : ∀ j, j < m * 3 → (W.cell? ⟨g, o + j, none⟩).isSome = true) (hf : ∀ j, W.frozen? ⟨g, j, none⟩ = false) :
    (Builtin.clear_ #[22] ty #[.slice (some ⟨g, o, none⟩) m c]).run Tryd.prog W = .ok (.tuple #[]) (W.setCells g o (zeros m)) := by
  have hst := run_storeCells_cells (P := Tryd.prog) g o (zeros m) 0 W (fun j hj => by rw [zeros_length] at hj; exact hc j hj) (fun j hj => hf _) (zeros_one m)
  simp only [Nat.add_zero] at hst
  unfold zeros at hst ⊢
  obtain ⟨k, rfl⟩ : ∃ k, m = k + 1 := ⟨m - 1, by omega⟩
  simp [Builtin.clear_, run_underlying Tryd.underlying22, zero3, hst]
theorem below_setCells {B g : Nat} {a : World} (hg : B ≤ g) : ∀ (vs : List Value) (o : Nat) {w : World}, Below B a w → Below B a (w.setCells g o vs)
  | [], o, w, h => h
  | v :: vs, o, w, h => below_setCells hg vs (o + 1) (h.setCell (p := ⟨g, o, none⟩) hg v)
theorem left_next (acks : List R) {zs : List S3} {j : Nat} (hj : j < zs.length) : leftL acks (zs.take (j + 1)) = leftL acks (zs.take j) ++ (if memB acks (at3 zs j).1 = true then [] else [at3 zs j]) := by
  have e : at3 zs j = zs[j] := by simp [at3, hj]
  rw [e, List.take_succ_eq_append_getElem hj]
  unfold leftL
  rw [List.filter_append]
  congr 1
  cases h : memB acks zs[j].1 <;> simp [h]
theorem left_all (acks : List R) {zs : List S3} (h : ∀ j, j < zs.length → memB acks (at3 zs j).1 = false) : leftL acks zs = zs := by
  unfold leftL
  refine List.filter_eq_self.2 fun s hs => ?_
  obtain ⟨j, hj, e⟩ := List.getElem_of_mem hs
  have := h j hj
  simp [at3, hj, e] at this
  simp [this]
/-- How far slices.DeleteFunc is: j looked at, i kept, the row holds L. -/
structure Kept (acks : List R) (zs L : List S3) (i j : Nat) : Prop where
  len : L.length = zs.length
  lt : i < j
  le : j ≤ zs.length
  num : (leftL acks (zs.take j)).length = i
  low : L.take i = leftL acks (zs.take j)
  high : L.drop j = zs.drop j
theorem Kept.start {acks : List R} {zs : List S3} {k : Nat} (hk : k < zs.length) (ht : memB acks (at3 zs k).1 = true) (ha : ∀ j, j < k → memB acks (at3 zs j).1 = false) : Kept acks zs zs k (k + 1) := by
  have e : leftL acks (zs.take k) = zs.take k := left_all acks fun j hj => by
    have hj' : j < k := by simp at hj; omega
    have e : at3 (zs.take k) j = at3 zs j := by simp [at3, List.getElem?_take_of_lt hj']
    rw [e]; exact ha j hj'
  have e2 : leftL acks (zs.take (k + 1)) = zs.take k := by rw [left_next acks hk, if_pos ht, e, List.append_nil]
  exact ⟨rfl, by omega, by omega, by rw [e2, List.length_take]; omega, e2.symm, rfl⟩
theorem Kept.at {acks : List R} {zs L : List S3} {i j : Nat} (h : Kept acks zs L i j) (hj : j < zs.length) : at3 L j = at3 zs j := by
  have := congrArg (fun l => l[0]?) h.high
  simp at this
  simp [at3, this]
theorem Kept.skip {acks : List R} {zs L : List S3} {i j : Nat} (h : Kept acks zs L i j) (hj : j < zs.length) (ht : memB acks (at3 zs j).1 = true) : Kept acks zs L i (j + 1) := by
  have e : leftL acks (zs.take (j + 1)) = leftL acks (zs.take j) := by rw [left_next acks hj, if_pos ht, List.append_nil]
  have := h.lt
  refine ⟨h.len, by omega, by omega, by rw [e]; exact h.num, by rw [e]; exact h.low, ?_⟩
  rw [← List.drop_drop, ← List.drop_drop, h.high]
theorem Kept.keep {acks : List R} {zs L : List S3} {i j : Nat} (h : Kept acks zs L i j) (hj : j < zs.length) (ht : memB acks (at3 zs j).1 = false) : Kept acks zs (L.set i (at3 zs j)) (i + 1) (j + 1) := by
  have e : leftL acks (zs.take (j + 1)) = leftL acks (zs.take j) ++ [at3 zs j] := by rw [left_next acks hj, if_neg (by simp [ht])]
  have h1 := h.lt
  have h2 := h.len
  have hi : i < L.length := by omega
  refine ⟨by simpa using h.len, by omega, by omega, by rw [e, List.length_append, h.num]; rfl, ?_, ?_⟩
  · rw [e, List.take_succ_eq_append_getElem (by simpa using hi), List.take_set_of_le (Nat.le_refl _), h.low]
    simp
  · rw [List.drop_set_of_lt (by omega), ← List.drop_drop, ← List.drop_drop, h.high]

set_option maxRecDepth 100000 in
set_option maxHeartbeats 2000000 in
theorem delf_stay (P : Nat) (ao : Option Addr) (len cap : Nat) (B : Nat) (w0 w : World) (hB : Below B w0 w) (hBw : B ≤ w.heap.size) (hl : len ≤ 1000000)
    (hcon : Calls Tryd.prog 39 #[.slice ao len cap, .func (.func 28) #[] #[.pointer (some ⟨P, 0, none⟩)]] w fun e w' => e = .returned (.int .i64 (-1)) ∧ Below w.heap.size w w') :
    Calls Tryd.prog 30 #[.slice ao len cap, .func (.func 28) #[] #[.pointer (some ⟨P, 0, none⟩)]] w fun e w' => e = .returned (.slice ao len cap) ∧ Below w.heap.size w w' := by
  go_enter Tryd.func30, Tryd.ntmps30
  go_wp2_with (go_at_call 39; refine hcon.mono ?_; rintro e w' ⟨rfl, hb1⟩)
  go_ret
  exact ⟨rfl, hb1⟩
end Go.Proofs.YtingcgadolcanaaDoor
