/- What the document's Read of a frame answers. -/
import Derived.Test.YtjpdembofiadbaaDoorFK
import Derived.Test.YtjpdembofiadbaaDoorFZ
import Derived.Test.YtjpdembofiadbaaDoorFR
import Derived.Deep.RegionLaw
namespace Go.Proofs.YtjpdembofiadbaaDoor
open Go.RowKit Go.Lib Go.Sort
set_option linter.unusedVariables false
set_option linter.unusedSimpArgs false
set_option linter.unusedSimpArgs false

theorem own_form {w : World} {B e size n : Nat} {v : Value} {xs : List Value} (h : w.ownsRow B e size v n xs) : ∃ a c, v = .slice a n c := by
  rcases h.2 with ⟨rfl, h1⟩ | ⟨g, cap, cur, rfl, _⟩
  · exact ⟨none, 0, by rw [h1]⟩
  · exact ⟨_, cap, rfl⟩
theorem FBox.kept {W W' : World} {row : Option Nat} {B : Nat} {k : Int} {v : Value} {d : ByteArray} (h : FBox W B k v d) (hg : W.grownBy W' row) (hne : some B ≠ row) : FBox W' B k v d := (hg.block B h.lt hne).trans h
theorem FBox.alloc' {W : World} {B : Nat} {k : Int} {v : Value} {d : ByteArray} (h : FBox W B k v d) (o : Obj) : FBox (W.drew.alloc o) B k v d := FBox.alloc (W := W.drew) h o

set_option maxRecDepth 100000 in
set_option maxHeartbeats 4000000 in
theorem dr_a (w : World) : Calls Tryd.prog 21 #[.string { data := #[] }] w fun e w' => e = .returned (.tuple #[zeroF, .int .i64 0, .bool false]) ∧ Below w.heap.size w w' := by
  go_enter Tryd.func21, Tryd.ntmps21
  go_wp2_with fail
  refine bodyPost_ret (v := .tuple #[zeroF, .int .i64 0, .bool false]) ?_ rfl ⟨rfl, ?_⟩
  · rw [results_cell3 rfl]; go_simp
  · exact (Below.refl _ w).alloc (Nat.le_refl _) _

set_option maxRecDepth 100000 in
set_option maxHeartbeats 4000000 in
theorem dr_b0 (s : ByteArray) (k : Int) (l : List Int) (w : World) (hs : V.ints s = k :: l) (h1 : k < 1) : Calls Tryd.prog 21 #[.string s] w fun e w' => e = .returned (.tuple #[zeroF, .int .i64 0, .bool false]) ∧ Below w.heap.size w w' := by
  have hne : (s.toList == []) = false := str_ne (by rw [← ints_length, hs]; simp)
  have hix := index0 s k l hs
  have hk0 := bytes_ints s k (by rw [hs]; simp)
  clear hs
  go_enter Tryd.func21, Tryd.ntmps21
  go_wp2_with fail
  refine bodyPost_ret (v := .tuple #[zeroF, .int .i64 0, .bool false]) ?_ rfl ⟨rfl, ?_⟩
  · rw [results_cell3 rfl]; go_simp
  · exact (Below.refl _ w).alloc (Nat.le_refl _) _

set_option maxRecDepth 100000 in
set_option maxHeartbeats 4000000 in
theorem dr_b9 (s : ByteArray) (k : Int) (l : List Int) (w : World) (hs : V.ints s = k :: l) (h1 : 8 < k) : Calls Tryd.prog 21 #[.string s] w fun e w' => e = .returned (.tuple #[zeroF, .int .i64 0, .bool false]) ∧ Below w.heap.size w w' := by
  have hne : (s.toList == []) = false := str_ne (by rw [← ints_length, hs]; simp)
  have hix := index0 s k l hs
  have hk0 := bytes_ints s k (by rw [hs]; simp)
  have hk1 : ¬ k < 1 := by omega
  clear hs
  go_enter Tryd.func21, Tryd.ntmps21
  go_wp2_with fail
  refine bodyPost_ret (v := .tuple #[zeroF, .int .i64 0, .bool false]) ?_ rfl ⟨rfl, ?_⟩
  · rw [results_cell3 rfl]; go_simp
  · exact (Below.refl _ w).alloc (Nat.le_refl _) _

set_option maxRecDepth 100000 in
set_option maxHeartbeats 4000000 in
theorem dr_2no (s : ByteArray) (l : List Int) (w : World) (hl : s.size ≤ maxLen) (hs : V.ints s = 2 :: l) (h2 : rdAck l = none) : Calls Tryd.prog 21 #[.string s] w fun e w' => e = .returned (.tuple #[zeroF, .int .i64 0, .bool false]) ∧ Below w.heap.size w w' := by
  have hne : (s.toList == []) = false := str_ne (by rw [← ints_length, hs]; simp)
  have hix := index0 s 2 l hs
  have hk0 := bytes_ints s 2 (by rw [hs]; simp)
  have hsz : s.size = l.length + 1 := by rw [← ints_length, hs]; rfl
  unfold maxLen at hl
  have hB2 : Below w.heap.size w ((w.alloc (.cells #[.int .i64 0, .slice none 0 0, .string { data := #[] }] 38)).alloc (.cells #[.int .i64 2, .slice none 0 0, .string { data := #[] }] 38)) := ((Below.refl _ w).alloc (Nat.le_refl _) _).alloc (by simp) _
  have bR : FBox ((w.alloc (.cells #[.int .i64 0, .slice none 0 0, .string { data := #[] }] 38)).alloc (.cells #[.int .i64 2, .slice none 0 0, .string { data := #[] }] 38)) w.heap.size 0 (.slice none 0 0) { data := #[] } := (FBox.new w 0 _ _).alloc _
  have bF : FBox ((w.alloc (.cells #[.int .i64 0, .slice none 0 0, .string { data := #[] }] 38)).alloc (.cells #[.int .i64 2, .slice none 0 0, .string { data := #[] }] 38)) (w.heap.size + 1) 2 (.slice none 0 0) { data := #[] } := by
    have := FBox.new (w.alloc (.cells #[.int .i64 0, .slice none 0 0, .string { data := #[] }] 38)) 2 (.slice none 0 0) { data := #[] }
    rwa [World.size_alloc] at this
  have hs2 : ((w.alloc (.cells #[.int .i64 0, .slice none 0 0, .string { data := #[] }] 38)).alloc (.cells #[.int .i64 2, .slice none 0 0, .string { data := #[] }] 38)).heap.size = w.heap.size + 2 := by simp
  have hsl : ∀ W, (Instr.slice 9 (.string s) (some (.int .i64 1)) none none).run Tryd.prog W = .ok (.string (s.extract 1 s.size)) W := run_from s 1 (by omega) hl
  have hid := ints_drop s 1 (by omega)
  rw [hs] at hid
  simp only [List.drop_succ_cons, List.drop_zero] at hid
  have hr1 : (s.extract 1 s.size).size ≤ maxLen := by unfold maxLen; rw [ByteArray.size_extract]; omega
  generalize s.extract 1 s.size = r1 at *
  have HN : ∀ W, Calls Tryd.prog 35 #[.string r1] W fun e w' => e = .returned (.tuple #[.slice none 0 0, .int .i64 0, .bool false]) ∧ Below W.heap.size W w' := by
    intro W
    refine (read_calls r1 W hr1).mono ?_
    rintro e w' ⟨⟨_, he⟩ | ⟨zs, v, A, h3, _⟩, hb⟩
    · exact ⟨he, hb⟩
    · rw [hid, h2] at h3; cases h3
  clear hs hl hsz hid hr1 h2
  go_enter Tryd.func21, Tryd.ntmps21
  go_wp2_with fail
  generalize ((w.alloc (.cells #[.int .i64 0, .slice none 0 0, .string { data := #[] }] 38)).alloc (.cells #[.int .i64 2, .slice none 0 0, .string { data := #[] }] 38)) = W2 at *
  refine (HN W2).mono ?_
  rintro e w3 ⟨rfl, hb3⟩
  have b4 := bR.below hb3 bR.lt
  have hB3 := hB2.trans (hb3.mono hB2.size)
  clear HN hb3 bR bF hB2 hs2
  have c40 := b4.c0
  have c41 := b4.c1
  have c42 := b4.c2
  have z0 := b4.fz 0
  have z1 := b4.fz 1
  have z2 := b4.fz 2
  go_wp2_with fail
  refine bodyPost_ret (v := .tuple #[zeroF, .int .i64 0, .bool false]) ?_ rfl ⟨rfl, ?_⟩
  · rw [results_cell3 rfl]; go_simp
  · first | exact ((hB3.setCell (Nat.le_refl _) _).setCell (Nat.le_refl _) _).setCell (Nat.le_refl _) _ | exact hB3

set_option maxRecDepth 100000 in
set_option maxHeartbeats 4000000 in
theorem dr_2yes (s : ByteArray) (l : List Int) (w : World) (hl : s.size ≤ maxLen) (hs : V.ints s = 2 :: l) (zs : List R) (A N : Nat) (h2 : rdAck l = some (zs, A)) (hz : zs.length ≤ 12) (hA : A ≤ l.length) (hN : N = 1 + A) : Calls Tryd.prog 21 #[.string s] w fun e w' => ∃ v, e = .returned (.tuple #[.agg #[.int .i64 2, v, .string { data := #[] }], .int .i64 (N : Int), .bool true]) ∧ OwnI w' w.heap.size v (unr zs) ∧ Below w.heap.size w w' := by
  have hne : (s.toList == []) = false := str_ne (by rw [← ints_length, hs]; simp)
  have hix := index0 s 2 l hs
  have hk0 := bytes_ints s 2 (by rw [hs]; simp)
  have hsz : s.size = l.length + 1 := by rw [← ints_length, hs]; rfl
  unfold maxLen at hl
  have hB2 : Below w.heap.size w ((w.alloc (.cells #[.int .i64 0, .slice none 0 0, .string { data := #[] }] 38)).alloc (.cells #[.int .i64 2, .slice none 0 0, .string { data := #[] }] 38)) := ((Below.refl _ w).alloc (Nat.le_refl _) _).alloc (by simp) _
  have bR : FBox ((w.alloc (.cells #[.int .i64 0, .slice none 0 0, .string { data := #[] }] 38)).alloc (.cells #[.int .i64 2, .slice none 0 0, .string { data := #[] }] 38)) w.heap.size 0 (.slice none 0 0) { data := #[] } := (FBox.new w 0 _ _).alloc _
  have bF : FBox ((w.alloc (.cells #[.int .i64 0, .slice none 0 0, .string { data := #[] }] 38)).alloc (.cells #[.int .i64 2, .slice none 0 0, .string { data := #[] }] 38)) (w.heap.size + 1) 2 (.slice none 0 0) { data := #[] } := by
    have := FBox.new (w.alloc (.cells #[.int .i64 0, .slice none 0 0, .string { data := #[] }] 38)) 2 (.slice none 0 0) { data := #[] }
    rwa [World.size_alloc] at this
  have hs2 : ((w.alloc (.cells #[.int .i64 0, .slice none 0 0, .string { data := #[] }] 38)).alloc (.cells #[.int .i64 2, .slice none 0 0, .string { data := #[] }] 38)).heap.size = w.heap.size + 2 := by simp
  have hsl : ∀ W, (Instr.slice 9 (.string s) (some (.int .i64 1)) none none).run Tryd.prog W = .ok (.string (s.extract 1 s.size)) W := run_from s 1 (by omega) hl
  have hid := ints_drop s 1 (by omega)
  rw [hs] at hid
  simp only [List.drop_succ_cons, List.drop_zero] at hid
  have hr1 : (s.extract 1 s.size).size ≤ maxLen := by unfold maxLen; rw [ByteArray.size_extract]; omega
  generalize s.extract 1 s.size = r1 at *
  have HN : ∀ W, Calls Tryd.prog 35 #[.string r1] W fun e w' => ∃ v, e = .returned (.tuple #[v, .int .i64 (A : Int), .bool true]) ∧ w'.ownsRow W.heap.size 76 2 v zs.length (flat zs) ∧ Below W.heap.size W w' := by
    intro W
    refine (read_calls r1 W hr1).mono ?_
    rintro e w' ⟨⟨h3, _⟩ | ⟨ys, v, B, h3, he, ho⟩, hb⟩
    · rw [hid, h2] at h3; cases h3
    · rw [hid, h2] at h3; cases h3; exact ⟨v, he, ho, hb⟩
  have hN1 : (1 : Int) + (A : Int) = (N : Int) := by omega
  have hAb : A ≤ 9223372036854775806 := by omega
  have HZ : Hid (zs.length ≤ 12) := hz
  obtain ⟨i0, hi0, hz0, hz1, hz2⟩ := info_parts infoI
  have HI : Hid (Tryd.prog.info? 3 = some i0 ∧ i0.zero = some (.int .i64 0) ∧ i0.size = 1 ∧ i0.bytes = 8) := ⟨hi0, hz0, hz1, hz2⟩
  clear hs hl hsz hid hr1 h2 hA hN hi0 hz0 hz1 hz2
  go_enter Tryd.func21, Tryd.ntmps21
  go_wp2_with fail
  generalize ((w.alloc (.cells #[.int .i64 0, .slice none 0 0, .string { data := #[] }] 38)).alloc (.cells #[.int .i64 2, .slice none 0 0, .string { data := #[] }] 38)) = W2 at *
  refine (HN W2).mono ?_
  rintro e w3 ⟨v3, rfl, ho3, hb3⟩
  rw [hs2] at ho3
  have hs3 : w.heap.size + 2 ≤ w3.heap.size := by have := hb3.size; omega
  have bR3 := bR.below hb3 bR.lt
  have bF3 := bF.below hb3 bF.lt
  have hB3 := hB2.trans (hb3.mono hB2.size)
  have hrow := row_of_own ho3 (by have := HZ.out; omega)
  obtain ⟨a3, c3, hv3, hL3, _, hcells⟩ := hrow
  subst hv3
  have HCL : Hid (zs = [] ∨ ∃ b o, a3 = some ⟨b, o, none⟩ ∧ w.heap.size + 2 ≤ b ∧ b < w3.heap.size ∧ Cells w3 b o zs) := by
    show _ ∨ _
    rcases hcells with h | ⟨b, o, rfl, hb, hc⟩
    · exact .inl h
    · refine .inr ⟨b, o, rfl, ?_, hb, hc⟩
      rcases ho3.2 with ⟨e, _⟩ | ⟨g', cap, cur, e, hg, _⟩
      · cases e
      · injection e with e1; injection e1 with e2; injection e2 with e3; subst e3; exact hg
  clear HN hb3 bR bF hB2 hs2 hcells ho3
  generalize hlen : zs.length = len at *
  have HLen : Hid (zs.length = len) := hlen
  clear hlen
  go_wp2_with fail
  go_loopw [9] (fun i wr => ∃ (j : Nat) (v : Value), j ≤ len ∧ i = .int .i64 (j : Int) ∧ FBox wr (w.heap.size + 1) 2 v { data := #[] } ∧ FBox wr w.heap.size 0 (.slice none 0 0) { data := #[] } ∧ OwnI wr w3.heap.size v (unr (zs.take j)) ∧ (∀ b, w.heap.size + 2 ≤ b → b < w3.heap.size → wr.heap[b]? = w3.heap[b]?) ∧ w3.heap.size ≤ wr.heap.size ∧ Below w.heap.size w wr) (fun i _ => len - (intOf i).toNat)
  case atStart => exact ⟨0, _, Nat.zero_le _, rfl, bF3, bR3, World.ownsRow_nil _ _ _ _, fun _ _ _ => rfl, Nat.le_refl _, hB3⟩
  case round =>
    obtain ⟨j, v, hj, rfl, bF, bR, hown, hkeep, hsz, hB⟩ := hrel
    obtain ⟨av, cv, rfl⟩ := own_form hown
    have f1 := bF.c1
    by_cases hlt : j < len
    · have g1 : (j : Int) < (len : Int) := by omega
      have gj0 : (0 : Int) ≤ (j : Int) := by omega
      have hjl : j < zs.length := by have := HLen.out; omega
      obtain ⟨b, o, rfl, hb2, hb3, hC⟩ : ∃ b o, a3 = some ⟨b, o, none⟩ ∧ w.heap.size + 2 ≤ b ∧ b < w3.heap.size ∧ Cells w3 b o zs := by
        rcases HCL.out with h | h
        · rw [h] at hjl; simp at hjl
        · exact h
      obtain ⟨c0, c1⟩ := hC j hjl
      have hkb := hkeep b hb2 hb3
      have d0 : wr.drew.cell? ⟨b, o + j * 2, none⟩ = some (.int .i64 (at' zs j).1) := by rw [← c0]; show wr.cell? _ = _; unfold World.cell?; rw [hkb]
      have d1 : wr.drew.cell? ⟨b, o + j * 2 + 1, none⟩ = some (.int .i64 (at' zs j).2) := by rw [← c1]; show wr.cell? _ = _; unfold World.cell?; rw [hkb]
      have HNx : Hid (unr (zs.take (j + 1)) = unr (zs.take j) ++ [(at' zs j).2, (at' zs j).1]) := by
        show _ = _
        rw [take_at hjl, unr_append]; rfl
      have hul : (unr (zs.take j)).length ≤ 24 := by rw [unr_length, List.length_take]; have := HZ.out; omega
      generalize at' zs j = y at *
      obtain ⟨lo, hi⟩ := y
      simp only at d0 d1 HNx
      have hbr : b < wr.heap.size := Nat.lt_of_lt_of_le hb3 hsz
      have e0 := (World.cell?_alloc_lt wr.drew (.cells #[.int .i64 hi, .int .i64 lo] 3) ⟨b, o + j * 2, none⟩ hbr).trans d0
      have e1 := (World.cell?_alloc_lt wr.drew (.cells #[.int .i64 hi, .int .i64 lo] 3) ⟨b, o + j * 2 + 1, none⟩ hbr).trans d1
      have f1d : wr.drew.cell? ⟨w.heap.size + 1, 1, none⟩ = some (.slice av (unr (zs.take j)).length cv) := f1
      have f1a := (World.cell?_alloc_lt wr.drew (.cells #[.int .i64 hi, .int .i64 lo] 3) ⟨w.heap.size + 1, 1, none⟩ bF.lt).trans f1d
      have f1b : (wr.alloc (.cells #[.int .i64 hi, .int .i64 lo] 3)).cell? ⟨w.heap.size + 1, 1, none⟩ = some (.slice av (unr (zs.take j)).length cv) := f1a
      have f1c : (wr.alloc (.cells #[.int .i64 hi, .int .i64 lo] 3)).drew.cell? ⟨w.heap.size + 1, 1, none⟩ = some (.slice av (unr (zs.take j)).length cv) := f1a
      have HO : Hid (OwnI wr.drew w3.heap.size (.slice av (unr (zs.take j)).length cv) (unr (zs.take j))) := hown
      have cs := cells_two wr.drew hi lo
      have CS : Hid (∀ j u, (ivs [hi, lo])[j]? = some u → (wr.drew.alloc (.cells #[.int .i64 hi, .int .i64 lo] 3)).cell? ((⟨wr.drew.heap.size, 0, none⟩ : Addr).add j) = some u) := cs
      have hnv : some (w.heap.size + 1) ≠ (Value.slice av (unr (zs.take j)).length cv).ownBlock := fun e => by have := (hown.lt _ e.symm).1; omega
      have hnv0 : some w.heap.size ≠ (Value.slice av (unr (zs.take j)).length cv).ownBlock := fun e => by have := (hown.lt _ e.symm).1; omega
      have hul2 : Hid ((unr (zs.take j)).length ≤ 24) := hul
      clear cs c0 c1 hC hjl hkb hul f1
      go_wp2_with fail
      go_region_law (refine step_append_own rfl (.tmp 56) (.tmp 67) 36 rfl w3.heap.size 3 i0 _ 1 8 Tryd.underlying36 HI.out.1 HI.out.2.1 HI.out.2.2.1 HI.out.2.2.2 rfl (by decide) (.slice av (unr (zs.take j)).length cv) (unr (zs.take j)).length (ivs (unr (zs.take j))) (by simp [Act.eval, Act.put]) (HO.out.alloc _) ⟨wr.drew.heap.size, 0, none⟩ 2 2 (ivs [hi, lo]) (by simp [Act.eval, Act.put]) rfl CS.out (by intro u hu; simp [ivs] at hu; rcases hu with rfl | rfl <;> rfl) (by have := hul2.out; unfold maxLen; omega) (by have := hul2.out; omega) (by simp; omega) ?_; intro v' w4 hown' hgrow; obtain ⟨a4, c4, hv4⟩ := own_form hown'; subst hv4; have bF4 := FBox.kept (bF.alloc' (.cells #[.int .i64 hi, .int .i64 lo] 3)) hgrow hnv; have k1 := bF4.c1; have k2 := bF4.fz 1)
      all_goals
        have hlt4 : b < (wr.drew.alloc (.cells #[.int .i64 hi, .int .i64 lo] 3)).heap.size := by simp; omega
        have ho4 : OwnI w4 w3.heap.size (.slice a4 ((unr (zs.take j)).length + 2) c4) (unr (zs.take j) ++ [hi, lo]) := by
          show w4.ownsRow w3.heap.size 3 1 _ (unr (zs.take j) ++ [hi, lo]).length (ivs (unr (zs.take j) ++ [hi, lo]))
          rw [ivs_append, List.length_append]; exact hown'
        have bF5 := bF4.set1 (.slice a4 ((unr (zs.take j)).length + 2) c4)
        have bR4 := FBox.kept (bR.alloc' (.cells #[.int .i64 hi, .int .i64 lo] 3)) hgrow hnv0
        have bR5 : FBox (w4.setCell ⟨w.heap.size + 1, 1, none⟩ (.slice a4 ((unr (zs.take j)).length + 2) c4)) w.heap.size 0 (.slice none 0 0) { data := #[] } := bR4.other (by omega) _
        have ho5 := own_set (B := w.heap.size + 1) (j := 1) (u := .slice a4 ((unr (zs.take j)).length + 2) c4) ho4 (by omega)
        have hB5 : Below w.heap.size w (w4.setCell ⟨w.heap.size + 1, 1, none⟩ (.slice a4 ((unr (zs.take j)).length + 2) c4)) := (((hB.drew.alloc (by simp; omega) _).grown hgrow (by simp; omega) (fun q e => by have := (hown.lt q e).1; omega))).setCell (by simp) _
        have hk5 : ∀ b', w.heap.size + 2 ≤ b' → b' < w3.heap.size → (w4.setCell ⟨w.heap.size + 1, 1, none⟩ (.slice a4 ((unr (zs.take j)).length + 2) c4)).heap[b']? = w3.heap[b']? := fun b' h1 h2 => by
          rw [Below.heap_setCell w4 ⟨w.heap.size + 1, 1, none⟩ _ b' (show b' ≠ w.heap.size + 1 by omega), hgrow.block b' (by simp; omega) (fun e => by have := (hown.lt _ e.symm).1; omega), ← hkeep b' h1 h2]
          exact (Below.block (((Below.refl wr.heap.size wr).drew.alloc (Nat.le_refl _) _)) b' (by omega))
        have hs5 : w3.heap.size ≤ (w4.setCell ⟨w.heap.size + 1, 1, none⟩ (.slice a4 ((unr (zs.take j)).length + 2) c4)).heap.size := by
          have := hgrow.size
          simp at this ⊢
          omega
        clear hgrow hown' bF4 k1 k2 bR4 ho4 hlt4 e0 e1 f1a f1b f1c f1d d0 d1 bF bR hown hB hkeep
        generalize w4.setCell ⟨w.heap.size + 1, 1, none⟩ (.slice a4 ((unr (zs.take j)).length + 2) c4) = W5 at *
        go_wp2_with fail
        exact ⟨⟨j + 1, _, by omega, by go_num, bF5, bR5, by rw [HNx.out]; exact ho5, hk5, hs5, hB5⟩, by simp [intOf]; omega⟩
    · obtain rfl : j = len := by omega
      have g1 : ¬ (j : Int) < (j : Int) := by omega
      have HE : Hid (zs.take j = zs) := by show _ = _; rw [← HLen.out, List.take_length]
      rw [HE.out] at hown bF f1
      clear HE
      have f0 := bF.c0
      have f2 := bF.c2
      have c40 := bR.c0
      have c41 := bR.c1
      have c42 := bR.c2
      have z0 := bR.fz 0
      have z1 := bR.fz 1
      have z2 := bR.fz 2
      go_wp2_with fail
      refine bodyPost_ret (v := .tuple #[.agg #[.int .i64 2, .slice av (unr zs).length cv, .string { data := #[] }], .int .i64 (N : Int), .bool true]) ?_ rfl ⟨_, rfl, ?_, ?_⟩
      · rw [results_cell3 rfl]; go_simp
      · exact own_le (own_set (own_set (own_set hown (by omega)) (by omega)) (by omega)) (by omega)
      · exact ((hB.setCell (Nat.le_refl _) _).setCell (Nat.le_refl _) _).setCell (Nat.le_refl _) _

end Go.Proofs.YtjpdembofiadbaaDoor
