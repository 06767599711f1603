/- What the document's Bytes of a frame answers. -/
import Derived.Test.YtjpdembofiadbaaDoorFT
import Derived.Test.YtjpdembofiadbaaDoorFE
namespace Go.Proofs.YtjpdembofiadbaaDoor
open Go.RowKit Go.Lib Go.Sort
set_option linter.unusedVariables false
set_option linter.unusedSimpArgs false
set_option linter.unusedSimpArgs false

theorem strNil' : strOfNums [] = ByteArray.empty := rfl
theorem app_nil (s : ByteArray) : s ++ ({ data := #[] } : ByteArray) = s := by
  apply ByteArray.ext
  simp

set_option maxRecDepth 100000 in
set_option maxHeartbeats 4000000 in
theorem db_2 (ao : Option Addr) (n c M : Nat) (d : ByteArray) (ns : List Int) (w : World) (hR0 : IRow w (.slice ao n c) ns) (hn : ns.length = n) (hM : n = 2 * M) (hM1 : 1 ≤ M) (hM12 : M ≤ 12) (hg : Good (rgs ns)) (hne : rgs ns ≠ []) :
    Calls Tryd.prog 16 #[.agg #[.int .i64 2, .slice ao n c, .string d]] w fun e w' => e = .returned (.string (strOfNums [2] ++ strOfNums (enc (rgs ns)))) ∧ Below w.heap.size w w' := by
  have bel : Below w.heap.size w (w.alloc (.cells #[.int .i64 2, .slice ao n c, .string d] 38)) := (Below.refl _ w).alloc (Nat.le_refl _) _
  have hcv := V.conv_new [2] (w.alloc (.cells #[.int .i64 2, .slice ao n c, .string d] 38)) #[.int .u8 2] rfl
  simp only [List.length_cons, List.length_nil, Nat.reduceAdd, World.size_alloc] at hcv
  have s1 : (strOfNums [2]).size = 1 := by rw [strOfNums_size]; rfl
  have bel2 : Below w.heap.size w ((w.alloc (.cells #[.int .i64 2, .slice ao n c, .string d] 38)).alloc (.cells #[.int .u8 2] 5)) := bel.alloc bel.size _
  have bx2 : FBox ((w.alloc (.cells #[.int .i64 2, .slice ao n c, .string d] 38)).alloc (.cells #[.int .u8 2] 5)) w.heap.size 2 (.slice ao n c) d := (FBox.new w 2 _ _).alloc _
  have HD := dranges_calls (.slice ao n c) ns M ((w.alloc (.cells #[.int .i64 2, .slice ao n c, .string d] 38)).alloc (.cells #[.int .u8 2] 5)) (hR0.below bel2) (by omega) hM1 hM12
  have HA0 := fun W v (h : Row W v (rgs ns)) => rack_calls v (rgs ns) W h hg hne
  have es := enc_size hg hne
  generalize strOfNums (enc (rgs ns)) = se at *
  generalize strOfNums [2] = sk at *
  have t1 : sk.size + se.size ≤ 9223372036854775807 := by omega
  clear hM hn hR0 hg hne
  go_enter Tryd.func16, Tryd.ntmps16
  go_wp2_with fail
  refine HD.mono ?_
  rintro e w3 ⟨v3, rfl, hR3, hb3⟩
  have hB3 := bel2.trans (hb3.mono bel2.size)
  have HX := HA0 _ _ hR3
  obtain ⟨a3, c3, hv3, _⟩ := id hR3
  subst hv3
  clear HA0 HD hR3
  go_wp2_with (first | (go_at_call 28; refine HX.mono ?_; rintro e w4 ⟨rfl, hb4⟩))
  go_ret
  exact ⟨rfl, hB3.trans (hb4.mono hB3.size)⟩

set_option maxRecDepth 100000 in
set_option maxHeartbeats 4000000 in
theorem db_3 (ao : Option Addr) (n c : Nat) (d : ByteArray) (ns : List Int) (w : World) (hR0 : IRow w (.slice ao n c) ns) (hn : ns.length = n) (hn2 : n ≤ 2) (hm : Mays ns) (hd : d.size ≤ 20) :
    Calls Tryd.prog 16 #[.agg #[.int .i64 3, .slice ao n c, .string d]] w fun e w' => e = .returned (.string (strOfNums [3] ++ strOfNums (ns.flatMap V.nums) ++ strOfNums (V.nums (d.size : Int)) ++ d)) ∧ Below w.heap.size w w' := by
  have bel : Below w.heap.size w (w.alloc (.cells #[.int .i64 3, .slice ao n c, .string d] 38)) := (Below.refl _ w).alloc (Nat.le_refl _) _
  have hcv := V.conv_new [3] (w.alloc (.cells #[.int .i64 3, .slice ao n c, .string d] 38)) #[.int .u8 3] rfl
  simp only [List.length_cons, List.length_nil, Nat.reduceAdd, World.size_alloc] at hcv
  have s1 : (strOfNums [3]).size = 1 := by rw [strOfNums_size]; rfl
  have bel2 : Below w.heap.size w ((w.alloc (.cells #[.int .i64 3, .slice ao n c, .string d] 38)).alloc (.cells #[.int .u8 3] 5)) := bel.alloc bel.size _
  have bx2 : FBox ((w.alloc (.cells #[.int .i64 3, .slice ao n c, .string d] 38)).alloc (.cells #[.int .u8 3] 5)) w.heap.size 3 (.slice ao n c) d := (FBox.new w 3 _ _).alloc _
  have HR : Hid (IRow w (.slice ao n c) ns) := hR0
  have HN : Hid (ns.length = n) := hn
  have HN2 : Hid (n ≤ 2) := hn2
  have HM : Hid (Mays ns) := hm
  generalize strOfNums [3] = sk at *
  clear hn hR0 hn2 hm
  go_enter Tryd.func16, Tryd.ntmps16
  go_wp2_with fail
  generalize (w.alloc (.cells #[.int .i64 3, .slice ao n c, .string d] 38)).alloc (.cells #[.int .u8 3] 5) = W2 at *
  go_loopw [4, 6] (fun sv i wr => ∃ j : Nat, j ≤ n ∧ i = .int .i64 (j : Int) ∧ sv = .string (sk ++ strOfNums ((ns.take j).flatMap V.nums)) ∧ FBox wr w.heap.size 3 (.slice ao n c) d ∧ Below w.heap.size w wr) (fun _ i _ => n - (intOf i).toNat)
  case atStart => exact ⟨0, Nat.zero_le _, rfl, by rw [List.take_zero, List.flatMap_nil, strNil, app_nil], bx2, bel2⟩
  case round =>
    obtain ⟨j, hj, rfl, rfl, bx, hB⟩ := hrel
    have f0 := bx.c0
    have f1 := bx.c1
    have f2 := bx.c2
    have hj2 : j ≤ 2 := by have := HN2.out; omega
    have hsz : (sk ++ strOfNums ((ns.take j).flatMap V.nums)).size ≤ 9 := by
      have h1 := flat_le (ns.take j)
      have h2 := List.length_take_le j ns
      rw [ByteArray.size_append, strOfNums_size]
      have h3 := HN.out
      have h4 := HN2.out
      rw [List.length_take] at h1
      omega
    by_cases hlt : j < n
    · have g1 : (j : Int) < (n : Int) := by omega
      have gj0 : (0 : Int) ≤ (j : Int) := by omega
      have hjl : j < ns.length := by have := HN.out; omega
      obtain ⟨b, off, rfl, hb, hC⟩ : ∃ b off, ao = some ⟨b, off, none⟩ ∧ b < w.heap.size ∧ ICells w b off ns := by
        obtain ⟨a', c', e', _, _, hz⟩ := HR.out
        injection e' with e1 _ _
        subst e1
        rcases hz with h | h
        · rw [h] at hjl; simp at hjl
        · exact h
      have z0 := hC.below hb hB j hjl
      have HT : Hid (sk ++ strOfNums ((ns.take j).flatMap V.nums) ++ strOfNums (V.nums (ns[j]?.getD 0)) = sk ++ strOfNums ((ns.take (j + 1)).flatMap V.nums)) := by
        show _ = _
        rw [V.take_snoc ns j hjl, List.flatMap_append, str_app, ByteArray.append_assoc]
        simp
      have hmy : V.mayB (ns[j]?.getD 0) = true := by rw [List.getElem?_eq_getElem hjl]; exact (mayB_iff _).2 (HM.out _ (List.getElem_mem hjl))
      generalize ns[j]?.getD 0 = y at *
      have HB := V.bytes_ref y wr hmy
      have s4 := nums4 y
      generalize strOfNums (V.nums y) = sy at *
      generalize sk ++ strOfNums ((ns.take j).flatMap V.nums) = sj at *
      have t1 : sj.size + sy.size ≤ 9223372036854775807 := by omega
      clear hC hjl hmy
      go_wp2_with (first | (go_at_call 29; refine HB.mono ?_; rintro e w4 ⟨rfl, hb4⟩))
      exact ⟨⟨j + 1, by omega, by go_num, by rw [HT.out], bx.below hb4 bx.lt, hB.trans (hb4.mono hB.size)⟩, by simp [intOf]; omega⟩
    · obtain rfl : j = n := by omega
      have g1 : ¬ (j : Int) < (j : Int) := by omega
      have HE : Hid (ns.take j = ns) := by show _ = _; rw [← HN.out, List.take_length]
      rw [HE.out] at hsz ⊢
      clear HE
      have hmd : V.mayB (d.size : Int) = true := (mayB_iff _).2 (by omega)
      have HB := V.bytes_ref (d.size : Int) wr hmd
      have s4 := nums4 (d.size : Int)
      obtain ⟨sd, hsd⟩ : ∃ sd, strOfNums (V.nums (d.size : Int)) = sd := ⟨_, rfl⟩
      rw [hsd] at HB s4
      obtain ⟨sj, hsj⟩ : ∃ sj, sk ++ strOfNums (ns.flatMap V.nums) = sj := ⟨_, rfl⟩
      rw [hsj] at hsz ⊢
      have HSD : Hid (sk ++ strOfNums (ns.flatMap V.nums) ++ strOfNums (V.nums (d.size : Int)) ++ d = sj ++ sd ++ d) := by show _ = _; rw [hsj, hsd]
      clear hsd hsj
      have t1 : sj.size + sd.size ≤ 9223372036854775807 := by omega
      have t12 : (sj ++ sd).size ≤ 13 := by rw [ByteArray.size_append]; omega
      have t2 : (sj ++ sd).size + d.size ≤ 9223372036854775807 := by omega
      have q2 : ∀ W', Below wr.heap.size wr W' → W'.cell? ⟨w.heap.size, 2, none⟩ = some (.string d) := fun W' hb' => (bx.below hb' bx.lt).c2
      go_wp2_with fail
      refine HB.mono ?_
      rintro e w4 ⟨rfl, hb4⟩
      have y2 := q2 _ hb4
      clear q2
      go_wp2_with fail
      go_ret
      exact ⟨by rw [HSD.out]; rfl, hB.trans (hb4.mono hB.size)⟩

set_option maxRecDepth 100000 in
set_option maxHeartbeats 4000000 in
theorem db_o (k : Int) (ao : Option Addr) (n c : Nat) (d : ByteArray) (ns : List Int) (w : World) (hR0 : IRow w (.slice ao n c) ns) (hn : ns.length = n) (hn2 : n ≤ 2) (hm : Mays ns) (h2 : k ≠ 2) (h3 : k ≠ 3) (hk : 1 ≤ k ∧ k ≤ 8) :
    Calls Tryd.prog 16 #[.agg #[.int .i64 k, .slice ao n c, .string d]] w fun e w' => e = .returned (.string (strOfNums [k] ++ strOfNums (ns.flatMap V.nums))) ∧ Below w.heap.size w w' := by
  have bel : Below w.heap.size w (w.alloc (.cells #[.int .i64 k, .slice ao n c, .string d] 38)) := (Below.refl _ w).alloc (Nat.le_refl _) _
  have hcv := V.conv_new [k] (w.alloc (.cells #[.int .i64 k, .slice ao n c, .string d] 38)) #[.int .u8 k] rfl
  simp only [List.length_cons, List.length_nil, Nat.reduceAdd, World.size_alloc] at hcv
  have s1 : (strOfNums [k]).size = 1 := by rw [strOfNums_size]; rfl
  have bel2 : Below w.heap.size w ((w.alloc (.cells #[.int .i64 k, .slice ao n c, .string d] 38)).alloc (.cells #[.int .u8 k] 5)) := bel.alloc bel.size _
  have bx2 : FBox ((w.alloc (.cells #[.int .i64 k, .slice ao n c, .string d] 38)).alloc (.cells #[.int .u8 k] 5)) w.heap.size k (.slice ao n c) d := (FBox.new w k _ _).alloc _
  have HR : Hid (IRow w (.slice ao n c) ns) := hR0
  have HN : Hid (ns.length = n) := hn
  have HN2 : Hid (n ≤ 2) := hn2
  have HM : Hid (Mays ns) := hm
  have hk2 : ¬ k = 2 := h2
  have hkb : (k == 2) = false := by simp [h2]
  have hkc : (k == 3) = false := by simp [h3]
  have hk3 : ¬ k = 3 := h3
  generalize strOfNums [k] = sk at *
  clear hn hR0 hn2 hm
  go_enter Tryd.func16, Tryd.ntmps16
  go_wp2_with fail
  generalize (w.alloc (.cells #[.int .i64 k, .slice ao n c, .string d] 38)).alloc (.cells #[.int .u8 k] 5) = W2 at *
  go_loopw [4, 6] (fun sv i wr => ∃ j : Nat, j ≤ n ∧ i = .int .i64 (j : Int) ∧ sv = .string (sk ++ strOfNums ((ns.take j).flatMap V.nums)) ∧ FBox wr w.heap.size k (.slice ao n c) d ∧ Below w.heap.size w wr) (fun _ i _ => n - (intOf i).toNat)
  case atStart => exact ⟨0, Nat.zero_le _, rfl, by rw [List.take_zero, List.flatMap_nil, strNil, app_nil], bx2, bel2⟩
  case round =>
    obtain ⟨j, hj, rfl, rfl, bx, hB⟩ := hrel
    have f0 := bx.c0
    have f1 := bx.c1
    have f2 := bx.c2
    have hj2 : j ≤ 2 := by have := HN2.out; omega
    have hsz : (sk ++ strOfNums ((ns.take j).flatMap V.nums)).size ≤ 9 := by
      have h1 := flat_le (ns.take j)
      have h2 := List.length_take_le j ns
      rw [ByteArray.size_append, strOfNums_size]
      have h3 := HN.out
      have h4 := HN2.out
      rw [List.length_take] at h1
      omega
    by_cases hlt : j < n
    · have g1 : (j : Int) < (n : Int) := by omega
      have gj0 : (0 : Int) ≤ (j : Int) := by omega
      have hjl : j < ns.length := by have := HN.out; omega
      obtain ⟨b, off, rfl, hb, hC⟩ : ∃ b off, ao = some ⟨b, off, none⟩ ∧ b < w.heap.size ∧ ICells w b off ns := by
        obtain ⟨a', c', e', _, _, hz⟩ := HR.out
        injection e' with e1 _ _
        subst e1
        rcases hz with h | h
        · rw [h] at hjl; simp at hjl
        · exact h
      have z0 := hC.below hb hB j hjl
      have HT : Hid (sk ++ strOfNums ((ns.take j).flatMap V.nums) ++ strOfNums (V.nums (ns[j]?.getD 0)) = sk ++ strOfNums ((ns.take (j + 1)).flatMap V.nums)) := by
        show _ = _
        rw [V.take_snoc ns j hjl, List.flatMap_append, str_app, ByteArray.append_assoc]
        simp
      have hmy : V.mayB (ns[j]?.getD 0) = true := by rw [List.getElem?_eq_getElem hjl]; exact (mayB_iff _).2 (HM.out _ (List.getElem_mem hjl))
      generalize ns[j]?.getD 0 = y at *
      have HB := V.bytes_ref y wr hmy
      have s4 := nums4 y
      generalize strOfNums (V.nums y) = sy at *
      generalize sk ++ strOfNums ((ns.take j).flatMap V.nums) = sj at *
      have t1 : sj.size + sy.size ≤ 9223372036854775807 := by omega
      clear hC hjl hmy
      go_wp2_with (first | (go_at_call 29; refine HB.mono ?_; rintro e w4 ⟨rfl, hb4⟩))
      exact ⟨⟨j + 1, by omega, by go_num, by rw [HT.out], bx.below hb4 bx.lt, hB.trans (hb4.mono hB.size)⟩, by simp [intOf]; omega⟩
    · obtain rfl : j = n := by omega
      have g1 : ¬ (j : Int) < (j : Int) := by omega
      have HE : Hid (ns.take j = ns) := by show _ = _; rw [← HN.out, List.take_length]
      rw [HE.out] at hsz ⊢
      clear HE
      go_wp2_with fail
      go_ret
      exact ⟨rfl, hB⟩
theorem dbytes_calls (k : Int) (v : Value) (d : ByteArray) (ns : List Int) (w : World) (hR : IRow w v ns) (h : frF k ns d = 0) :
    Calls Tryd.prog 16 #[.agg #[.int .i64 k, v, .string d]] w fun e w' => e = .returned (.string (frS k ns d)) ∧ Below w.heap.size w w' := by
  obtain ⟨h1, h2, h3, h4, h5, h6⟩ := frF_ok h
  have hk := (kindB_iff k).1 h1
  have hR' := hR
  obtain ⟨ao, c, rfl, hl, hc, hz⟩ := hR
  by_cases e2 : k = 2
  · subst e2
    obtain ⟨M, hM, hM1, hM12⟩ := cntB_ack h2
    obtain rfl := str_nil (h3 (by decide))
    rw [show frS 2 ns { data := #[] } = strOfNums [2] ++ strOfNums (enc (rgs ns)) by unfold frS; rw [show mid 2 ns { data := #[] } = enc (rgs ns) by simp [mid]]; exact app_nil _]
    exact db_2 ao _ c M _ ns w hR' rfl hM hM1 hM12 (h6 rfl) (fun e => by have := rgs_length M ns hM; rw [e] at this; simp at this; omega)
  · have hn : ns.length ≤ 2 := by
      have : ns.length = cntK k := by simpa [cntB, e2] using h2
      rw [this]; unfold cntK; split
      · omega
      · split <;> omega
    by_cases e3 : k = 3
    · subst e3
      rw [show frS 3 ns d = strOfNums [3] ++ strOfNums (ns.flatMap V.nums) ++ strOfNums (V.nums (d.size : Int)) ++ d by unfold frS; rw [show mid 3 ns d = ns.flatMap V.nums ++ V.nums (d.size : Int) by simp [mid], str_app, ← ByteArray.append_assoc]]
      exact db_3 ao _ c d ns w hR' rfl hn h4 h5
    · obtain rfl := str_nil (h3 e3)
      rw [show frS k ns { data := #[] } = strOfNums [k] ++ strOfNums (ns.flatMap V.nums) by unfold frS; rw [show mid k ns { data := #[] } = ns.flatMap V.nums by simp [mid, e2, e3]]; exact app_nil _]
      exact db_o k ao _ c _ ns w hR' rfl hn h4 e2 e3 hk
end Go.Proofs.YtjpdembofiadbaaDoor
