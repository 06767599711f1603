/- What the document's Read of a frame that is no Ack answers. -/
import Derived.Test.YtjpdembofiadbaaDoorFX
namespace Go.Proofs.YtjpdembofiadbaaDoor
open Go.RowKit Go.Lib Go.Sort
set_option linter.unusedVariables false
set_option linter.unusedSimpArgs false
set_option linter.unusedSimpArgs false

set_option maxRecDepth 100000 in
set_option maxHeartbeats 4000000 in
theorem dr_o (s : ByteArray) (k : Int) (l : List Int) (w : World) (hl47 : s.size ≤ 140737488355328) (hs : V.ints s = k :: l) (h1 : kindB k = true) (h2 : k ≠ 2) (h3 : k ≠ 3) : Calls Tryd.prog 21 #[.string s] w fun e w' => ((tk (cntK k) l = none ∧ e = .returned (.tuple #[zeroF, .int .i64 0, .bool false])) ∨ (∃ ns A, tk (cntK k) l = some (ns, A) ∧ ∃ v, e = .returned (.tuple #[.agg #[.int .i64 k, v, .string { data := #[] }], .int .i64 (1 + (A : Int)), .bool true]) ∧ OwnI w' w.heap.size v ns)) ∧ Below w.heap.size w w' := by
  have hne : (s.toList == []) = false := str_ne (by rw [← ints_length, hs]; simp)
  have hix := index0 s k l hs
  have hk0 := bytes_ints s k (by rw [hs]; simp)
  have hsz : s.size = l.length + 1 := by rw [← ints_length, hs]; rfl
  have hl : s.size ≤ 9223372036854775807 := by omega
  have hB2 : Below w.heap.size w ((w.alloc (.cells #[.int .i64 0, .slice none 0 0, .string { data := #[] }] 38)).alloc (.cells #[.int .i64 k, .slice none 0 0, .string { data := #[] }] 38)) := ((Below.refl _ w).alloc (Nat.le_refl _) _).alloc (by simp) _
  have bR : FBox ((w.alloc (.cells #[.int .i64 0, .slice none 0 0, .string { data := #[] }] 38)).alloc (.cells #[.int .i64 k, .slice none 0 0, .string { data := #[] }] 38)) w.heap.size 0 (.slice none 0 0) { data := #[] } := (FBox.new w 0 _ _).alloc _
  have bF : FBox ((w.alloc (.cells #[.int .i64 0, .slice none 0 0, .string { data := #[] }] 38)).alloc (.cells #[.int .i64 k, .slice none 0 0, .string { data := #[] }] 38)) (w.heap.size + 1) k (.slice none 0 0) { data := #[] } := by
    have := FBox.new (w.alloc (.cells #[.int .i64 0, .slice none 0 0, .string { data := #[] }] 38)) k (.slice none 0 0) { data := #[] }
    rwa [World.size_alloc] at this
  have hs2 : ((w.alloc (.cells #[.int .i64 0, .slice none 0 0, .string { data := #[] }] 38)).alloc (.cells #[.int .i64 k, .slice none 0 0, .string { data := #[] }] 38)).heap.size = w.heap.size + 2 := by simp
  have hd0 : s.size ≤ 9223372036854775807 := hl
  have HG : Hid (∀ A, 1 + A ≤ s.size → V.ints (s.extract (1 + A) s.size) = l.drop A) := by
    show ∀ A, _
    intro A hA
    rw [ints_drop s (1 + A) hA, hs, show 1 + A = A + 1 by omega, List.drop_succ_cons]
  have HSZ : Hid (s.size = l.length + 1) := hsz
  have hby : Hid (Bytes l) := fun z hz => bytes_ints s z (by rw [hs]; simp [hz])
  have hk := (kindB_iff k).1 h1
  have hk1 : ¬ k < 1 := by omega
  have hk8 : ¬ 8 < k := by omega
  have hk2 : ¬ k = 2 := h2
  have hk3 : ¬ k = 3 := h3
  have hkb : (k == 2) = false := by simp [h2]
  have hkc : (k == 3) = false := by simp [h3]
  have HC := dcounts_calls k
  rw [show cntD k = ((cntK k : Nat) : Int) by unfold cntD cntK; simp only [h2]; repeat' split <;> simp_all] at HC
  have HMany : Hid (cntK k ≤ 2) := by show _ ≤ _; unfold cntK; split <;> (try split) <;> omega
  generalize cntK k = many at *
  clear h1 h2 h3 hk
  clear hs hl hsz
  go_enter Tryd.func21, Tryd.ntmps21
  go_wp2_with (first | (go_at_call 25; refine (HC _).mono ?_; rintro e w1 ⟨rfl, rfl⟩))
  generalize ((w.alloc (.cells #[.int .i64 0, .slice none 0 0, .string { data := #[] }] 38)).alloc (.cells #[.int .i64 k, .slice none 0 0, .string { data := #[] }] 38)) = W2 at *
  go_loopw [10, 12] (fun a i wr => ∃ (A j : Nat) (ns : List Int) (v : Value), j ≤ many ∧ a = .int .i64 (1 + (A : Int)) ∧ i = .int .i64 (j : Int) ∧ FBox wr (w.heap.size + 1) k v { data := #[] } ∧ FBox wr w.heap.size 0 (.slice none 0 0) { data := #[] } ∧ OwnI wr (w.heap.size + 2) v ns ∧ ns.length = j ∧ 1 + A ≤ s.size ∧ Hid (tk many l = tkA (many - j) ns A l) ∧ w.heap.size + 2 ≤ wr.heap.size ∧ Below w.heap.size w wr) (fun _ i _ => many - (intOf i).toNat)
  case atStart => exact ⟨0, 0, [], _, Nat.zero_le _, rfl, rfl, bF, bR, World.ownsRow_nil _ _ _ _, rfl, by have := HSZ.out; omega, (show tk many l = tkA (many - 0) [] 0 l by rw [tkA_start]; rfl), by omega, hB2⟩
  case round =>
    clear bF bR hB2 hs2
    obtain ⟨A, j, ns, v, hj, rfl, rfl, bF, bR, hown, hnj, hA, hE, hw2, hB⟩ := hrel
    obtain ⟨av, cv, rfl⟩ := own_form hown
    have f0 := bF.c0
    have f1 := bF.c1
    have f2 := bF.c2
    have hjm : j ≤ 100 := by have := HMany.out; omega
    have hAb : (A : Int) + 1 ≤ (s.size : Int) := by omega
    have hat : ((1 : Int) + (A : Int)).toNat = 1 + A := by omega
    have hsl := run_from s (1 + A) hA hd0
    rw [show ((1 + A : Nat) : Int) = 1 + (A : Int) by omega] at hsl
    have hit := HG.out A hA
    have hts : (s.extract (1 + A) s.size).size = s.size - (1 + A) := by rw [ByteArray.size_extract]; omega
    obtain ⟨r, hr⟩ : ∃ r, s.extract (1 + A) s.size = r := ⟨_, rfl⟩
    rw [hr] at hsl hit hts
    have HRx : Hid (s.extract (1 + A) s.size = r) := hr
    clear hr
    have HGet := fun W => V.rget_all r W (by unfold maxLen; omega)
    rw [hit] at HGet
    by_cases hlt : j < many
    · have g1 : (j : Int) < (many : Int) := by omega
      have hmk : many - j = (many - (j + 1)) + 1 := by omega
      cases hg : V.getI (l.drop A) with
      | none =>
        rw [hg] at HGet
        simp only [V.getRV] at HGet
        have HE : Hid (tk many l = none) := by show _ = _; rw [hE.out, hmk]; exact tkA_none hg
        clear hE hg hit hnj hmk hts
        go_wp2_with fail
        refine (HGet _).mono ?_
        rintro e w4 ⟨rfl, hb4⟩
        have bR4 := bR.below hb4 bR.lt
        have hB4 := hB.trans (hb4.mono hB.size)
        clear HGet bR bF hb4
        have c40 := bR4.c0
        have c41 := bR4.c1
        have c42 := bR4.c2
        have z0 := bR4.fz 0
        have z1 := bR4.fz 1
        have z2 := bR4.fz 2
        go_wp2_with fail
        refine bodyPost_ret (v := .tuple #[zeroF, .int .i64 0, .bool false]) ?_ rfl ⟨.inl ⟨HE.out, rfl⟩, ?_⟩
        · rw [results_cell3 rfl]; go_simp
        · first | exact ((hB4.setCell (Nat.le_refl _) _).setCell (Nat.le_refl _) _).setCell (Nat.le_refl _) _ | exact hB4
      | some p =>
        obtain ⟨q, c⟩ := p
        obtain ⟨cn, rfl, hc4, hcl, hd1, hd2⟩ := get_nat (bytes_drop hby.out A) hg
        rw [List.length_drop] at hcl
        rw [hg] at HGet
        simp only [V.getRV] at HGet
        have HE : Hid (tk many l = tkA (many - (j + 1)) (ns ++ [q]) (A + cn) l) := by
          show _ = _
          rw [hE.out, hmk, tkA_some hg]; rfl
        have hA2 : 1 + (A + cn) ≤ s.size := by have := HSZ.out; omega
        have HA2 : Hid (1 + (A + cn) ≤ s.size) := hA2
        have hcn : (A : Int) + (cn : Int) + 1 ≤ (s.size : Int) := by omega
        have HNJ : Hid (ns.length = j) := hnj
        have hns : ns.length ≤ 100 := by omega
        clear hE hg hit hmk hts hnj hcl hA2
        go_wp2_with fail
        refine (HGet _).mono ?_
        rintro e w4 ⟨rfl, hb4⟩
        have bR4 := bR.below hb4 bR.lt
        have bF4 := bF.below hb4 bF.lt
        have hB4 := hB.trans (hb4.mono hB.size)
        have hw4 : w.heap.size + 2 ≤ w4.heap.size := Nat.le_trans hw2 hb4.size
        have ho4 := hown.below hb4
        have own4 := ho4.alloc (.cells #[.int .i64 q] 3)
        have hnv : some (w.heap.size + 1) ≠ (Value.slice av ns.length cv).ownBlock := fun e => by have := (ho4.lt _ e.symm).1; omega
        have hnv0 : some w.heap.size ≠ (Value.slice av ns.length cv).ownBlock := fun e => by have := (ho4.lt _ e.symm).1; omega
        have t1 := bF4.c1
        have bF4a := bF4.alloc (.cells #[.int .i64 q] 3)
        have bR4a := bR4.alloc (.cells #[.int .i64 q] 3)
        clear HGet bR bF hb4 hB hown f0 f1 f2
        go_wp2_with (at_builtin; refine append_ints rfl (.tmp 93) (.tmp 95) rfl (w.heap.size + 2) _ ns rfl own4 ⟨w4.heap.size, 0, none⟩ 1 1 [q] rfl rfl (cells_one w4 q) (by simp; omega) (by simp; omega) ?_; intro v5 w5 hown5 hg5; obtain ⟨a5, c5, hv5⟩ := own_form hown5; rw [show (ns ++ [q]).length = ns.length + 1 by simp] at hv5; subst hv5; have bF5 := FBox.kept bF4a hg5 hnv; have u1 := bF5.c1; have u2 := bF5.fz 1)
        have bF6 := bF5.set1 (.slice a5 (ns.length + 1) c5)
        have bR6 : FBox (w5.setCell ⟨w.heap.size + 1, 1, none⟩ (.slice a5 (ns.length + 1) c5)) w.heap.size 0 (.slice none 0 0) { data := #[] } := (FBox.kept bR4a hg5 hnv0).other (by omega) _
        have ho6 := own_set (B := w.heap.size + 1) (j := 1) (u := .slice a5 (ns.length + 1) c5) hown5 (by omega)
        have hB6 : Below w.heap.size w (w5.setCell ⟨w.heap.size + 1, 1, none⟩ (.slice a5 (ns.length + 1) c5)) := ((hB4.alloc hB4.size _).grown hg5 (by simp; omega) (fun z e => by have := (ho4.lt z e).1; omega)).setCell (by simp) _
        have hw6 : w.heap.size + 2 ≤ (w5.setCell ⟨w.heap.size + 1, 1, none⟩ (.slice a5 (ns.length + 1) c5)).heap.size := by
          have := hg5.size
          simp at this ⊢
          omega
        exact ⟨⟨A + cn, j + 1, ns ++ [q], _, by omega, by go_num, by go_num, bF6, bR6, ho6, by simp [HNJ.out], HA2.out, HE, hw6, hB6⟩, by simp [intOf]; omega⟩
    · obtain rfl : j = many := by omega
      have g1 : ¬ (j : Int) < (j : Int) := by omega
      have HE : Hid (tk j l = some (ns, A)) := by show _ = _; rw [hE.out, Nat.sub_self, tkA_zero]
      clear hE
      have c40 := bR.c0
      have c41 := bR.c1
      have c42 := bR.c2
      have z0 := bR.fz 0
      have z1 := bR.fz 1
      have z2 := bR.fz 2
      clear HGet hsl hts hit
      go_wp2_with fail
      refine bodyPost_ret (v := .tuple #[.agg #[.int .i64 k, .slice av ns.length cv, .string { data := #[] }], .int .i64 (1 + (A : Int)), .bool true]) ?_ rfl ⟨.inr ⟨ns, A, HE.out, .slice av ns.length cv, rfl, ?_⟩, ?_⟩
      · rw [results_cell3 rfl]; go_simp
      · exact own_le (own_set (own_set (own_set hown (by omega)) (by omega)) (by omega)) (by omega)
      · exact ((hB.setCell (Nat.le_refl _) _).setCell (Nat.le_refl _) _).setCell (Nat.le_refl _) _

set_option maxRecDepth 100000 in
set_option maxHeartbeats 4000000 in
theorem dr_3 (s : ByteArray) (l : List Int) (w : World) (hl47 : s.size ≤ 140737488355328) (hs : V.ints s = 3 :: l)  : Calls Tryd.prog 21 #[.string s] w fun e w' => (((tk 1 l = none ∨ ∃ ns A, tk 1 l = some (ns, A) ∧ rdPiece (l.drop A) = none) ∧ e = .returned (.tuple #[zeroF, .int .i64 0, .bool false])) ∨ (∃ ns A, tk 1 l = some (ns, A) ∧ ∃ q c, rdPiece (l.drop A) = some (q, c) ∧ ∃ v, e = .returned (.tuple #[.agg #[.int .i64 3, v, .string (s.extract (1 + A + c) (1 + A + c + q))], .int .i64 ((1 + A + c + q : Nat) : Int), .bool true]) ∧ OwnI w' w.heap.size v ns)) ∧ Below w.heap.size w w' := by
  have hne : (s.toList == []) = false := str_ne (by rw [← ints_length, hs]; simp)
  have hix := index0 s 3 l hs
  have hk0 := bytes_ints s 3 (by rw [hs]; simp)
  have hsz : s.size = l.length + 1 := by rw [← ints_length, hs]; rfl
  have hl : s.size ≤ 9223372036854775807 := by omega
  have hB2 : Below w.heap.size w ((w.alloc (.cells #[.int .i64 0, .slice none 0 0, .string { data := #[] }] 38)).alloc (.cells #[.int .i64 3, .slice none 0 0, .string { data := #[] }] 38)) := ((Below.refl _ w).alloc (Nat.le_refl _) _).alloc (by simp) _
  have bR : FBox ((w.alloc (.cells #[.int .i64 0, .slice none 0 0, .string { data := #[] }] 38)).alloc (.cells #[.int .i64 3, .slice none 0 0, .string { data := #[] }] 38)) w.heap.size 0 (.slice none 0 0) { data := #[] } := (FBox.new w 0 _ _).alloc _
  have bF : FBox ((w.alloc (.cells #[.int .i64 0, .slice none 0 0, .string { data := #[] }] 38)).alloc (.cells #[.int .i64 3, .slice none 0 0, .string { data := #[] }] 38)) (w.heap.size + 1) 3 (.slice none 0 0) { data := #[] } := by
    have := FBox.new (w.alloc (.cells #[.int .i64 0, .slice none 0 0, .string { data := #[] }] 38)) 3 (.slice none 0 0) { data := #[] }
    rwa [World.size_alloc] at this
  have hs2 : ((w.alloc (.cells #[.int .i64 0, .slice none 0 0, .string { data := #[] }] 38)).alloc (.cells #[.int .i64 3, .slice none 0 0, .string { data := #[] }] 38)).heap.size = w.heap.size + 2 := by simp
  have hd0 : s.size ≤ 9223372036854775807 := hl
  have HG : Hid (∀ A, 1 + A ≤ s.size → V.ints (s.extract (1 + A) s.size) = l.drop A) := by
    show ∀ A, _
    intro A hA
    rw [ints_drop s (1 + A) hA, hs, show 1 + A = A + 1 by omega, List.drop_succ_cons]
  have HSZ : Hid (s.size = l.length + 1) := hsz
  have hby : Hid (Bytes l) := fun z hz => bytes_ints s z (by rw [hs]; simp [hz])
  have HC := dcounts_calls 3
  obtain ⟨many, hm1⟩ : ∃ m : Nat, m = 1 := ⟨_, rfl⟩
  rw [show cntD 3 = (many : Int) by rw [hm1]; rfl] at HC
  have HMany : Hid (many ≤ 2) := by show _ ≤ _; omega
  have HM1 : Hid (many = 1) := hm1
  clear hm1
  clear hs hl hsz
  go_enter Tryd.func21, Tryd.ntmps21
  go_wp2_with (first | (go_at_call 25; refine (HC _).mono ?_; rintro e w1 ⟨rfl, rfl⟩))
  generalize ((w.alloc (.cells #[.int .i64 0, .slice none 0 0, .string { data := #[] }] 38)).alloc (.cells #[.int .i64 3, .slice none 0 0, .string { data := #[] }] 38)) = W2 at *
  go_loopw [10, 12] (fun a i wr => ∃ (A j : Nat) (ns : List Int) (v : Value), j ≤ many ∧ a = .int .i64 (1 + (A : Int)) ∧ i = .int .i64 (j : Int) ∧ FBox wr (w.heap.size + 1) 3 v { data := #[] } ∧ FBox wr w.heap.size 0 (.slice none 0 0) { data := #[] } ∧ OwnI wr (w.heap.size + 2) v ns ∧ ns.length = j ∧ 1 + A ≤ s.size ∧ Hid (tk many l = tkA (many - j) ns A l) ∧ w.heap.size + 2 ≤ wr.heap.size ∧ Below w.heap.size w wr) (fun _ i _ => many - (intOf i).toNat)
  case atStart => exact ⟨0, 0, [], _, Nat.zero_le _, rfl, rfl, bF, bR, World.ownsRow_nil _ _ _ _, rfl, by have := HSZ.out; omega, (show tk many l = tkA (many - 0) [] 0 l by rw [tkA_start]; rfl), by omega, hB2⟩
  case round =>
    clear bF bR hB2 hs2
    obtain ⟨A, j, ns, v, hj, rfl, rfl, bF, bR, hown, hnj, hA, hE, hw2, hB⟩ := hrel
    obtain ⟨av, cv, rfl⟩ := own_form hown
    have f0 := bF.c0
    have f1 := bF.c1
    have f2 := bF.c2
    have hjm : j ≤ 100 := by have := HMany.out; omega
    have hAb : (A : Int) + 1 ≤ (s.size : Int) := by omega
    have hat : ((1 : Int) + (A : Int)).toNat = 1 + A := by omega
    have hsl := run_from s (1 + A) hA hd0
    rw [show ((1 + A : Nat) : Int) = 1 + (A : Int) by omega] at hsl
    have hit := HG.out A hA
    have hts : (s.extract (1 + A) s.size).size = s.size - (1 + A) := by rw [ByteArray.size_extract]; omega
    obtain ⟨r, hr⟩ : ∃ r, s.extract (1 + A) s.size = r := ⟨_, rfl⟩
    rw [hr] at hsl hit hts
    have HRx : Hid (s.extract (1 + A) s.size = r) := hr
    clear hr
    have HGet := fun W => V.rget_all r W (by unfold maxLen; omega)
    rw [hit] at HGet
    by_cases hlt : j < many
    · have g1 : (j : Int) < (many : Int) := by omega
      have hmk : many - j = (many - (j + 1)) + 1 := by omega
      cases hg : V.getI (l.drop A) with
      | none =>
        rw [hg] at HGet
        simp only [V.getRV] at HGet
        have HE : Hid (tk many l = none) := by show _ = _; rw [hE.out, hmk]; exact tkA_none hg
        clear hE hg hit hnj hmk hts
        go_wp2_with fail
        refine (HGet _).mono ?_
        rintro e w4 ⟨rfl, hb4⟩
        have bR4 := bR.below hb4 bR.lt
        have hB4 := hB.trans (hb4.mono hB.size)
        clear HGet bR bF hb4
        have c40 := bR4.c0
        have c41 := bR4.c1
        have c42 := bR4.c2
        have z0 := bR4.fz 0
        have z1 := bR4.fz 1
        have z2 := bR4.fz 2
        go_wp2_with fail
        refine bodyPost_ret (v := .tuple #[zeroF, .int .i64 0, .bool false]) ?_ rfl ⟨.inl ⟨.inl (by have := HE.out; rwa [HM1.out] at this), rfl⟩, ?_⟩
        · rw [results_cell3 rfl]; go_simp
        · first | exact ((hB4.setCell (Nat.le_refl _) _).setCell (Nat.le_refl _) _).setCell (Nat.le_refl _) _ | exact hB4
      | some p =>
        obtain ⟨q, c⟩ := p
        obtain ⟨cn, rfl, hc4, hcl, hd1, hd2⟩ := get_nat (bytes_drop hby.out A) hg
        rw [List.length_drop] at hcl
        rw [hg] at HGet
        simp only [V.getRV] at HGet
        have HE : Hid (tk many l = tkA (many - (j + 1)) (ns ++ [q]) (A + cn) l) := by
          show _ = _
          rw [hE.out, hmk, tkA_some hg]; rfl
        have hA2 : 1 + (A + cn) ≤ s.size := by have := HSZ.out; omega
        have HA2 : Hid (1 + (A + cn) ≤ s.size) := hA2
        have hcn : (A : Int) + (cn : Int) + 1 ≤ (s.size : Int) := by omega
        have HNJ : Hid (ns.length = j) := hnj
        have hns : ns.length ≤ 100 := by omega
        clear hE hg hit hmk hts hnj hcl hA2
        go_wp2_with fail
        refine (HGet _).mono ?_
        rintro e w4 ⟨rfl, hb4⟩
        have bR4 := bR.below hb4 bR.lt
        have bF4 := bF.below hb4 bF.lt
        have hB4 := hB.trans (hb4.mono hB.size)
        have hw4 : w.heap.size + 2 ≤ w4.heap.size := Nat.le_trans hw2 hb4.size
        have ho4 := hown.below hb4
        have own4 := ho4.alloc (.cells #[.int .i64 q] 3)
        have hnv : some (w.heap.size + 1) ≠ (Value.slice av ns.length cv).ownBlock := fun e => by have := (ho4.lt _ e.symm).1; omega
        have hnv0 : some w.heap.size ≠ (Value.slice av ns.length cv).ownBlock := fun e => by have := (ho4.lt _ e.symm).1; omega
        have t1 := bF4.c1
        have bF4a := bF4.alloc (.cells #[.int .i64 q] 3)
        have bR4a := bR4.alloc (.cells #[.int .i64 q] 3)
        clear HGet bR bF hb4 hB hown f0 f1 f2
        go_wp2_with (at_builtin; refine append_ints rfl (.tmp 93) (.tmp 95) rfl (w.heap.size + 2) _ ns rfl own4 ⟨w4.heap.size, 0, none⟩ 1 1 [q] rfl rfl (cells_one w4 q) (by simp; omega) (by simp; omega) ?_; intro v5 w5 hown5 hg5; obtain ⟨a5, c5, hv5⟩ := own_form hown5; rw [show (ns ++ [q]).length = ns.length + 1 by simp] at hv5; subst hv5; have bF5 := FBox.kept bF4a hg5 hnv; have u1 := bF5.c1; have u2 := bF5.fz 1)
        have bF6 := bF5.set1 (.slice a5 (ns.length + 1) c5)
        have bR6 : FBox (w5.setCell ⟨w.heap.size + 1, 1, none⟩ (.slice a5 (ns.length + 1) c5)) w.heap.size 0 (.slice none 0 0) { data := #[] } := (FBox.kept bR4a hg5 hnv0).other (by omega) _
        have ho6 := own_set (B := w.heap.size + 1) (j := 1) (u := .slice a5 (ns.length + 1) c5) hown5 (by omega)
        have hB6 : Below w.heap.size w (w5.setCell ⟨w.heap.size + 1, 1, none⟩ (.slice a5 (ns.length + 1) c5)) := ((hB4.alloc hB4.size _).grown hg5 (by simp; omega) (fun z e => by have := (ho4.lt z e).1; omega)).setCell (by simp) _
        have hw6 : w.heap.size + 2 ≤ (w5.setCell ⟨w.heap.size + 1, 1, none⟩ (.slice a5 (ns.length + 1) c5)).heap.size := by
          have := hg5.size
          simp at this ⊢
          omega
        exact ⟨⟨A + cn, j + 1, ns ++ [q], _, by omega, by go_num, by go_num, bF6, bR6, ho6, by simp [HNJ.out], HA2.out, HE, hw6, hB6⟩, by simp [intOf]; omega⟩
    · obtain rfl : j = many := by omega
      have g1 : ¬ (j : Int) < (j : Int) := by omega
      have HE : Hid (tk j l = some (ns, A)) := by show _ = _; rw [hE.out, Nat.sub_self, tkA_zero]
      clear hE
      rw [HM1.out] at HE
      cases hg : V.getI (l.drop A) with
      | none =>
        rw [hg] at HGet
        simp only [V.getRV] at HGet
        have HP : Hid (rdPiece (l.drop A) = none) := by show _ = _; simp [rdPiece, hg]
        clear hg hit hnj hts
        go_wp2_with fail
        refine (HGet _).mono ?_
        rintro e w4 ⟨rfl, hb4⟩
        have bR4 := bR.below hb4 bR.lt
        have bF4 := bF.below hb4 bF.lt
        have hB4 := hB.trans (hb4.mono hB.size)
        have ho4 := hown.below hb4
        clear HGet bR bF hb4 hB hown f0 f1 f2 hsl
        have c40 := bR4.c0
        have c41 := bR4.c1
        have c42 := bR4.c2
        have z0 := bR4.fz 0
        have z1 := bR4.fz 1
        have z2 := bR4.fz 2
        go_wp2_with fail
        refine bodyPost_ret (v := .tuple #[zeroF, .int .i64 0, .bool false]) ?_ rfl ⟨.inl ⟨.inr ⟨ns, A, HE.out, HP.out⟩, rfl⟩, ?_⟩
        · rw [results_cell3 rfl]; go_simp
        · first | exact ((hB4.setCell (Nat.le_refl _) _).setCell (Nat.le_refl _) _).setCell (Nat.le_refl _) _ | exact hB4
      | some p =>
        obtain ⟨n, c⟩ := p
        obtain ⟨cn, rfl, hc4, hcl, hd1, hd2⟩ := get_nat (bytes_drop hby.out A) hg
        rw [List.length_drop] at hcl
        rw [hg] at HGet
        simp only [V.getRV] at HGet
        obtain ⟨q, rfl⟩ : ∃ q : Nat, n = (q : Int) := ⟨n.toNat, by omega⟩
        have hsl3 := HSZ.out
        have hcn : (A : Int) + (cn : Int) + 1 ≤ (s.size : Int) := by omega
        by_cases h20 : 20 < q
        · have HP : Hid (rdPiece (l.drop A) = none) := by show _ = _; simp only [rdPiece, hg]; rw [if_pos (.inl (by omega))]
          have g20 : (20 : Int) < (q : Int) := by omega
          clear hg hit hnj hts hcl hsl3 h20
          go_wp2_with fail
          refine (HGet _).mono ?_
          rintro e w4 ⟨rfl, hb4⟩
          have bR4 := bR.below hb4 bR.lt
          have bF4 := bF.below hb4 bF.lt
          have hB4 := hB.trans (hb4.mono hB.size)
          have ho4 := hown.below hb4
          clear HGet bR bF hb4 hB hown f0 f1 f2 hsl
          have c40 := bR4.c0
          have c41 := bR4.c1
          have c42 := bR4.c2
          have z0 := bR4.fz 0
          have z1 := bR4.fz 1
          have z2 := bR4.fz 2
          go_wp2_with fail
          refine bodyPost_ret (v := .tuple #[zeroF, .int .i64 0, .bool false]) ?_ rfl ⟨.inl ⟨.inr ⟨ns, A, HE.out, HP.out⟩, rfl⟩, ?_⟩
          · rw [results_cell3 rfl]; go_simp
          · first | exact ((hB4.setCell (Nat.le_refl _) _).setCell (Nat.le_refl _) _).setCell (Nat.le_refl _) _ | exact hB4
        · have g20 : ¬ (20 : Int) < (q : Int) := by omega
          by_cases hfit : s.size < 1 + A + cn + q
          · have HP : Hid (rdPiece (l.drop A) = none) := by show _ = _; simp only [rdPiece, hg, List.length_drop]; rw [if_pos (.inr (by omega))]
            have gf : (s.size : Int) < 1 + (A : Int) + (cn : Int) + (q : Int) := by omega
            clear hg hit hnj hts hcl hsl3 hfit h20
            go_wp2_with fail
            refine (HGet _).mono ?_
            rintro e w4 ⟨rfl, hb4⟩
            have bR4 := bR.below hb4 bR.lt
            have bF4 := bF.below hb4 bF.lt
            have hB4 := hB.trans (hb4.mono hB.size)
            have ho4 := hown.below hb4
            clear HGet bR bF hb4 hB hown f0 f1 f2 hsl
            have c40 := bR4.c0
            have c41 := bR4.c1
            have c42 := bR4.c2
            have z0 := bR4.fz 0
            have z1 := bR4.fz 1
            have z2 := bR4.fz 2
            go_wp2_with fail
            refine bodyPost_ret (v := .tuple #[zeroF, .int .i64 0, .bool false]) ?_ rfl ⟨.inl ⟨.inr ⟨ns, A, HE.out, HP.out⟩, rfl⟩, ?_⟩
            · rw [results_cell3 rfl]; go_simp
            · first | exact ((hB4.setCell (Nat.le_refl _) _).setCell (Nat.le_refl _) _).setCell (Nat.le_refl _) _ | exact hB4
          · have HP : Hid (rdPiece (l.drop A) = some (q, cn)) := by
              show _ = _
              simp only [rdPiece, hg, List.length_drop]
              rw [if_neg (by omega)]
              simp
            have gf : ¬ (s.size : Int) < 1 + (A : Int) + (cn : Int) + (q : Int) := by omega
            have hsb := run_both s (1 + A + cn) (1 + A + cn + q) (by omega) (by omega) hd0
            rw [show ((1 + A + cn + q : Nat) : Int) = 1 + (A : Int) + (cn : Int) + (q : Int) by omega, show ((1 + A + cn : Nat) : Int) = 1 + (A : Int) + (cn : Int) by omega] at hsb
            have HNq : Hid (((1 + A + cn + q : Nat) : Int) = 1 + (A : Int) + (cn : Int) + (q : Int)) := by show _ = _; omega
            obtain ⟨dd, hdd⟩ : ∃ dd, s.extract (1 + A + cn) (1 + A + cn + q) = dd := ⟨_, rfl⟩
            rw [hdd] at hsb
            have HDD : Hid (s.extract (1 + A + cn) (1 + A + cn + q) = dd) := hdd
            have HNJ : Hid (ns.length = j) := hnj
            clear hg hit hnj hts hcl hsl3 hdd hfit h20
            go_wp2_with fail
            refine (HGet _).mono ?_
            rintro e w4 ⟨rfl, hb4⟩
            have bR4 := bR.below hb4 bR.lt
            have bF4 := bF.below hb4 bF.lt
            have hB4 := hB.trans (hb4.mono hB.size)
            have ho4 := hown.below hb4
            clear HGet bR bF hb4 hB hown f0 f1 f2 hsl
            have t0 := bF4.c0
            have t1 := bF4.c1
            have t2 := bF4.c2
            have t3 := bF4.fz 2
            go_upto_region 26 with fail
            have hp0 : 0 ≤ (1 : Int) + (A : Int) + (cn : Int) := by omega
            have hp1 : (1 : Int) + (A : Int) + (cn : Int) + (q : Int) ≤ 140737488355328 := by omega
            generalize (1 : Int) + (A : Int) + (cn : Int) = p at *
            have gsum : wrap64 (p + (q : Int)) = p + (q : Int) := by unfold wrap64; omega
            have gfb : ¬ (s.size : Int) < p + (q : Int) := by omega
            have HW2 : Hid (ns.length ≤ 100) := by show _ ≤ _; have := HNJ.out; omega
            clear hj hlt g1 hl47 hAb hat hjm hp1 hd2 hA gf hcn hc4 hd1 hp0 hw2
            generalize hpq : p + (q : Int) = r at *
            go_upto_region 29 with fail
            have bF5 := bF4.set2 dd
            have bR5 : FBox (w4.setCell ⟨w.heap.size + 1, 2, none⟩ (.string dd)) w.heap.size 0 (.slice none 0 0) { data := #[] } := bR4.other (by omega) _
            have hB5 : Below w.heap.size w (w4.setCell ⟨w.heap.size + 1, 2, none⟩ (.string dd)) := hB4.setCell (by simp) _
            have ho5 := own_set (B := w.heap.size + 1) (j := 2) (u := .string dd) ho4 (by omega)
            generalize w4.setCell ⟨w.heap.size + 1, 2, none⟩ (.string dd) = W5 at *
            clear bF4 bR4 hB4 ho4 t0 t1 t2 t3
            have q0 := bF5.c0
            have q1 := bF5.c1
            have q2 := bF5.c2
            have c40 := bR5.c0
            have c41 := bR5.c1
            have c42 := bR5.c2
            have z0 := bR5.fz 0
            have z1 := bR5.fz 1
            have z2 := bR5.fz 2
            go_wp2_with fail
            refine bodyPost_ret (v := .tuple #[.agg #[.int .i64 3, .slice av ns.length cv, .string dd], .int .i64 r, .bool true]) ?_ rfl ⟨.inr ⟨ns, A, HE.out, q, cn, HP.out, .slice av ns.length cv, by rw [HDD.out, show (1 : Int) + (A : Int) + (cn : Int) + (q : Int) = r by have := HNq.out; omega], ?_⟩, ?_⟩
            · rw [results_cell3 rfl]; go_simp
            · exact own_le (own_set (own_set (own_set ho5 (by omega)) (by omega)) (by omega)) (by omega)
            · exact ((hB5.setCell (Nat.le_refl _) _).setCell (Nat.le_refl _) _).setCell (Nat.le_refl _) _

set_option maxRecDepth 100000 in
theorem dread_no (s : ByteArray) (w : World) (hl47 : s.size ≤ 140737488355328) (h : rdF s = none) : Calls Tryd.prog 21 #[.string s] w fun e w' => e = .returned (.tuple #[zeroF, .int .i64 0, .bool false]) ∧ Below w.heap.size w w' := by
  have hl : s.size ≤ maxLen := by unfold maxLen; omega
  unfold rdF at h
  cases hs : V.ints s with
  | nil =>
    obtain rfl : s = { data := #[] } := str_nil (by rw [← ints_length, hs]; rfl)
    exact dr_a w
  | cons k l =>
    rw [hs] at h
    simp only at h
    have hby : Bytes l := fun z hz => bytes_ints s z (by rw [hs]; simp [hz])
    cases h1 : kindB k with
    | false =>
      by_cases hk : k < 1
      · exact dr_b0 s k l w hs hk
      · exact dr_b9 s k l w hs (by simp [kindB] at h1; omega)
    | true =>
      rw [h1] at h
      simp only [Bool.true_eq_false, if_false] at h
      by_cases e2 : k = 2
      · subst e2
        have h2 : rdAck l = none := by
          cases hx : rdAck l with
          | none => rfl
          | some x => rw [show rdNums 2 l = (rdAck l).map fun x => (unr x.1, x.2) by simp [rdNums], hx] at h; simp at h
        exact dr_2no s l w hl hs h2
      · have en : rdNums k l = tk (cntK k) l := by simp [rdNums, e2]
        rw [en] at h
        by_cases e3 : k = 3
        · subst e3
          refine (dr_3 s l w hl47 hs).mono ?_
          rintro e w' ⟨⟨_, he⟩ | ⟨ns, A, ht, q, c, hp, v, _⟩, hb⟩
          · exact ⟨he, hb⟩
          · rw [show tk (cntK 3) l = tk 1 l from rfl, ht] at h
            simp [hp] at h
        · refine (dr_o s k l w hl47 hs h1 e2 e3).mono ?_
          rintro e w' ⟨⟨_, he⟩ | ⟨ns, A, ht, v, _⟩, hb⟩
          · exact ⟨he, hb⟩
          · rw [ht] at h
            simp [e3] at h
set_option maxRecDepth 100000 in
theorem dread_yes (s : ByteArray) (w : World) (hl47 : s.size ≤ 140737488355328) (k : Int) (ns : List Int) (d : ByteArray) (n : Nat) (h : rdF s = some ((k, ns, d), n)) :
    Calls Tryd.prog 21 #[.string s] w fun e w' => ∃ v, e = .returned (.tuple #[.agg #[.int .i64 k, v, .string d], .int .i64 (n : Int), .bool true]) ∧ OwnI w' w.heap.size v ns ∧ Below w.heap.size w w' := by
  have hl : s.size ≤ maxLen := by unfold maxLen; omega
  unfold rdF at h
  cases hs : V.ints s with
  | nil => rw [hs] at h; cases h
  | cons k' l =>
    rw [hs] at h
    simp only at h
    have hby : Bytes l := fun z hz => bytes_ints s z (by rw [hs]; simp [hz])
    cases h1 : kindB k' with
    | false => rw [h1] at h; simp at h
    | true =>
      rw [h1] at h
      simp only [Bool.true_eq_false, if_false] at h
      by_cases e2 : k' = 2
      · subst e2
        rw [show rdNums 2 l = (rdAck l).map fun x => (unr x.1, x.2) by simp [rdNums]] at h
        cases hx : rdAck l with
        | none => rw [hx] at h; simp at h
        | some x =>
          obtain ⟨zs, A⟩ := x
          obtain ⟨_, hg, _, hA⟩ := rdAck_inv hby hx
          rw [hx] at h
          simp at h
          obtain ⟨⟨rfl, rfl, rfl⟩, rfl⟩ := h
          exact dr_2yes s l w hl hs zs A _ hx hg.1 hA rfl
      · have en : rdNums k' l = tk (cntK k') l := by simp [rdNums, e2]
        rw [en] at h
        by_cases e3 : k' = 3
        · subst e3
          refine (dr_3 s l w hl47 hs).mono ?_
          rintro e w' ⟨⟨hno, _⟩ | ⟨ms, A, ht, q, c, hp, v, he, hR⟩, hb⟩
          · rcases hno with ht | ⟨ms, A, ht, hp⟩
            · rw [show tk (cntK 3) l = tk 1 l from rfl, ht] at h; simp at h
            · rw [show tk (cntK 3) l = tk 1 l from rfl, ht] at h; simp [hp] at h
          · rw [show tk (cntK 3) l = tk 1 l from rfl, ht] at h
            simp [hp] at h
            obtain ⟨⟨rfl, rfl, rfl⟩, rfl⟩ := h
            exact ⟨v, he, hR, hb⟩
        · refine (dr_o s k' l w hl47 hs h1 e2 e3).mono ?_
          rintro e w' ⟨⟨ht, _⟩ | ⟨ms, A, ht, v, he, hR⟩, hb⟩
          · rw [ht] at h; simp at h
          · rw [ht] at h
            simp [e3] at h
            obtain ⟨⟨rfl, rfl, rfl⟩, rfl⟩ := h
            refine ⟨v, ?_, hR, hb⟩
            rw [he, show (((1 + A : Nat)) : Int) = 1 + (A : Int) by omega]
end Go.Proofs.YtjpdembofiadbaaDoor
