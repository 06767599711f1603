/- What the document's Open answers. -/
import Derived.Test.YtjpdembofiadbaaDoorQG
import Derived.Test.YtjpdembofiadbaaDoorFM
import Derived.Deep.LoopGhost
import Derived.Maps.AppendAt
namespace Go.Proofs.YtjpdembofiadbaaDoor
open Go.RowKit Go.Lib Go.Sort
set_option linter.unusedVariables false
set_option linter.unusedSimpArgs false
set_option linter.unusedSimpArgs false


theorem ext_two (s : ByteArray) (a n : Nat) (h : a ≤ s.size) (hn : n ≤ (s.extract a s.size).size) : (s.extract a s.size).extract n (s.extract a s.size).size = s.extract (a + n) s.size := by
  have hz : (s.extract a s.size).size = s.size - a := by rw [ByteArray.size_extract]; omega
  apply ints_inj
  rw [ints_drop _ _ hn, ints_drop _ _ h, ints_drop _ _ (by omega), List.drop_drop]
set_option maxRecDepth 100000 in
set_option maxHeartbeats 4000000 in
theorem dopen_a (s : ByteArray) (next : Int) (w : World) (hm : U.mayB next = false) : Calls Tryd.prog 9 #[.string s, .int .i64 next] w fun e w' => e = .returned (.tuple #[.int .i64 0, .slice none 0 0, .int .i64 1]) ∧ Below w.heap.size w w' := by
  have HM := fun W => U.rmay next W
  simp only [hm] at HM
  clear hm
  go_enter Tryd.func9, Tryd.ntmps9
  go_wp2_with (first | (go_at_call 12; refine (HM _).mono ?_; rintro e w1 ⟨rfl, rfl⟩))
  go_ret3
  exact ⟨rfl, Below.refl _ _⟩
set_option maxRecDepth 100000 in
set_option maxHeartbeats 4000000 in
theorem dopen_b (s : ByteArray) (next : Int) (w : World) (hm : U.mayB next = true) (h : 200 < s.size) (hl : s.size ≤ 9223372036854775807) : Calls Tryd.prog 9 #[.string s, .int .i64 next] w fun e w' => e = .returned (.tuple #[.int .i64 0, .slice none 0 0, .int .i64 4]) ∧ Below w.heap.size w w' := by
  have HM := fun W => U.rmay next W
  simp only [hm] at HM
  clear hm
  have g2 : (200 : Int) < (s.size : Int) := by omega
  go_enter Tryd.func9, Tryd.ntmps9
  go_wp2_with (first | (go_at_call 12; refine (HM _).mono ?_; rintro e w1 ⟨rfl, rfl⟩))
  go_ret3
  exact ⟨rfl, Below.refl _ _⟩
set_option maxRecDepth 100000 in
set_option maxHeartbeats 4000000 in
theorem dopen_c  (next : Int) (w : World) (hm : U.mayB next = true) : Calls Tryd.prog 9 #[.string { data := #[] }, .int .i64 next] w fun e w' => e = .returned (.tuple #[.int .i64 0, .slice none 0 0, .int .i64 2]) ∧ Below w.heap.size w w' := by
  have HM := fun W => U.rmay next W
  simp only [hm] at HM
  clear hm
  go_enter Tryd.func9, Tryd.ntmps9
  go_wp2_with (first | (go_at_call 12; refine (HM _).mono ?_; rintro e w1 ⟨rfl, rfl⟩))
  go_ret3
  exact ⟨rfl, Below.refl _ _⟩
set_option maxRecDepth 100000 in
set_option maxHeartbeats 4000000 in
theorem dopen_d (s : ByteArray) (k : Int) (l : List Int) (next : Int) (w : World) (hm : U.mayB next = true)(hs : V.ints s = k :: l) (hl : s.size ≤ 200) (h : k < 1) : Calls Tryd.prog 9 #[.string s, .int .i64 next] w fun e w' => e = .returned (.tuple #[.int .i64 0, .slice none 0 0, .int .i64 2]) ∧ Below w.heap.size w w' := by
  have HM := fun W => U.rmay next W
  simp only [hm] at HM
  clear hm
  have g2 : ¬ (200 : Int) < (s.size : Int) := by omega
  have tl : s.size ≤ 9223372036854775807 := by omega
  have hz : s.size = l.length + 1 := by rw [← ints_length, hs]; rfl
  have hk : 0 ≤ k ∧ k < 256 := bytes_ints s k (by rw [hs]; simp)
  have hne := str_ne (d := s) (by omega)
  have hi0 := fun W => index0 s k l hs W
  clear hs
  go_enter Tryd.func9, Tryd.ntmps9
  go_wp2_with (first | (go_at_call 12; refine (HM _).mono ?_; rintro e w1 ⟨rfl, rfl⟩))
  go_ret3
  exact ⟨rfl, Below.refl _ _⟩
set_option maxRecDepth 100000 in
set_option maxHeartbeats 4000000 in
theorem dopen_e (s : ByteArray) (k : Int) (l : List Int) (next : Int) (w : World) (hm : U.mayB next = true)(hs : V.ints s = k :: l) (hl : s.size ≤ 200) (h : 4 < k) : Calls Tryd.prog 9 #[.string s, .int .i64 next] w fun e w' => e = .returned (.tuple #[.int .i64 0, .slice none 0 0, .int .i64 2]) ∧ Below w.heap.size w w' := by
  have HM := fun W => U.rmay next W
  simp only [hm] at HM
  clear hm
  have g2 : ¬ (200 : Int) < (s.size : Int) := by omega
  have tl : s.size ≤ 9223372036854775807 := by omega
  have hz : s.size = l.length + 1 := by rw [← ints_length, hs]; rfl
  have hk : 0 ≤ k ∧ k < 256 := bytes_ints s k (by rw [hs]; simp)
  have hne := str_ne (d := s) (by omega)
  have hi0 := fun W => index0 s k l hs W
  clear hs
  have g3 : ¬ k < 1 := by omega
  go_enter Tryd.func9, Tryd.ntmps9
  go_wp2_with (first | (go_at_call 12; refine (HM _).mono ?_; rintro e w1 ⟨rfl, rfl⟩))
  go_ret3
  exact ⟨rfl, Below.refl _ _⟩
set_option maxRecDepth 100000 in
set_option maxHeartbeats 4000000 in
theorem dopen_f (s : ByteArray) (k : Int) (l : List Int) (next : Int) (w : World) (hm : U.mayB next = true)(hs : V.ints s = k :: l) (hl : s.size ≤ 200) (h1 : 1 ≤ k) (h4 : k ≤ 4) (h : (l.length : Int) < k) : Calls Tryd.prog 9 #[.string s, .int .i64 next] w fun e w' => e = .returned (.tuple #[.int .i64 0, .slice none 0 0, .int .i64 2]) ∧ Below w.heap.size w w' := by
  have HM := fun W => U.rmay next W
  simp only [hm] at HM
  clear hm
  have g2 : ¬ (200 : Int) < (s.size : Int) := by omega
  have tl : s.size ≤ 9223372036854775807 := by omega
  have hz : s.size = l.length + 1 := by rw [← ints_length, hs]; rfl
  have hk : 0 ≤ k ∧ k < 256 := bytes_ints s k (by rw [hs]; simp)
  have hne := str_ne (d := s) (by omega)
  have hi0 := fun W => index0 s k l hs W
  clear hs
  have g3 : ¬ k < 1 := by omega
  have g4 : ¬ 4 < k := by omega
  have g5 : (s.size : Int) ≤ k := by omega
  go_enter Tryd.func9, Tryd.ntmps9
  go_wp2_with (first | (go_at_call 12; refine (HM _).mono ?_; rintro e w1 ⟨rfl, rfl⟩))
  go_ret3
  exact ⟨rfl, Below.refl _ _⟩
set_option maxRecDepth 100000 in
set_option maxHeartbeats 4000000 in
theorem dopen_g (s : ByteArray) (K : Nat) (l : List Int) (next : Int) (w : World) (hm : U.mayB next = true) (hs : V.ints s = (K : Int) :: l) (hl : s.size ≤ 200) (h1 : 1 ≤ K) (h4 : K ≤ 4) (hK : K ≤ l.length) (hw : U.wholeB (big (l.take K)) K next = false) : Calls Tryd.prog 9 #[.string s, .int .i64 next] w fun e w' => e = .returned (.tuple #[.int .i64 0, .slice none 0 0, .int .i64 2]) ∧ Below w.heap.size w w' := by
  have hz : s.size = l.length + 1 := by rw [← ints_length, hs]; rfl
  have hne := str_ne (d := s) (by omega)
  have hi0 := fun W => index0 s K l hs W
  have g2 : ¬ (200 : Int) < (s.size : Int) := by omega
  have tl : s.size ≤ 9223372036854775807 := by omega
  have g3 : ¬ (K : Int) < 1 := by omega
  have g4 : ¬ (4 : Int) < (K : Int) := by omega
  have g5 : ¬ (s.size : Int) ≤ (K : Int) := by omega
  have HM : ∀ W, Calls Tryd.prog 12 #[.int .i64 next] W fun e w' => e = .returned (.bool true) ∧ W = w' := fun W => (U.rmay next W).mono fun e w' hh => ⟨by rw [hh.1, hm], hh.2.symm⟩
  have HIX : Hid (∀ (j : Nat) (W : World), j < l.length → (Instr.index 9 (.string s) (.int .i64 ((j : Int) + 1))).run Tryd.prog W = .ok (.int .u8 (l[j]?.getD 0)) W) := fun j W hj => by
    have := index_at (d := s) (k := j + 1) (by omega) W
    rw [hs, List.getElem?_cons_succ] at this
    exact this
  have HBY : Hid (Bytes l) := fun z hz => bytes_ints s z (by rw [hs]; simp [hz])
  have HKL : Hid (K ≤ l.length) := hK
  have HZ : Hid (s.size = l.length + 1) := hz
  have H4 : Hid (1 ≤ K ∧ K ≤ 4) := ⟨h1, h4⟩
  have HW : Hid (∀ W, Calls Tryd.prog 20 #[.int .i64 (big (l.take K)), .int .i64 (K : Int), .int .i64 next] W fun e w' => e = .returned (.tuple #[.int .i64 0, .bool false]) ∧ W = w') := fun W => (U.rwhole_no _ _ next W hw).mono fun e w' hh => ⟨hh.1, hh.2.symm⟩
  clear hz hs hm hK
  go_enter Tryd.func9, Tryd.ntmps9
  go_wp2_with (first | (go_at_call 12; refine (HM _).mono ?_; rintro e w1 ⟨rfl, rfl⟩))
  go_loopw [9, 10] (fun c i wr => ∃ (j : Nat) (t : Int), j ≤ K ∧ i = .int .i64 t ∧ t = (j : Int) + 1 ∧ c = .int .i64 (big (l.take j)) ∧ wr = w) (fun _ i _ => (5 - intOf i).toNat)
  case atStart => exact ⟨0, 1, Nat.zero_le _, rfl, rfl, rfl, rfl⟩
  case round =>
    obtain ⟨j, t, hj, rfl, ht, rfl, hwr⟩ := hrel
    by_cases hlt : j < K
    · have hjl : j < l.length := by have := HKL.out; omega
      have hix := fun W => HIX.out j W hjl
      have hbd := big_small HBY.out j (by omega) (by have := H4.out; omega)
      have HN : Hid (big (l.take (j + 1)) = 256 * big (l.take j) + l[j]?.getD 0) := big_next hjl
      have hy : 0 ≤ l[j]?.getD 0 ∧ l[j]?.getD 0 < 256 := by
        rw [List.getElem?_eq_getElem hjl]
        exact HBY.out _ (List.getElem_mem _)
      have g6 : t ≤ (K : Int) := by omega
      have t4 : t ≤ 4 := by have := H4.out; omega
      have t1 : 1 ≤ t := by omega
      rw [← ht] at hix
      have HT : Hid (t = (j : Int) + 1) := ht
      have HWR : Hid (wr = w) := hwr
      clear hjl ht hwr
      generalize l[j]?.getD 0 = y at hix hy HN
      generalize big (l.take j) = z at hbd HN
      obtain ⟨y0, y1⟩ := hy
      obtain ⟨z0, z1⟩ := hbd
      go_wp2_with fail
      exact ⟨⟨j + 1, t + 1, by omega, by go_num, by have := HT.out; omega, by rw [HN.out], HWR.out⟩, by simp [intOf]; omega⟩
    · obtain rfl : j = K := by omega
      have g6 : ¬ t ≤ (j : Int) := by omega
      have HWz := HW.out
      clear ht
      have hwr' := hwr.symm
      clear hwr
      subst hwr'
      generalize big (l.take j) = z at HWz
      go_wp2_with (first | (go_at_call 20; refine (HWz _).mono ?_; rintro e w1 ⟨rfl, rfl⟩))
      go_ret3
      exact ⟨rfl, Below.refl _ _⟩
abbrev OpPost (s : ByteArray) (c : Nat) (n : Int) (w : World) (e : Ending) (w' : World) : Prop :=
  ((fin (rdL (s.extract c s.size)) = none ∧ e = .returned (.tuple #[.int .i64 0, .slice none 0 0, .int .i64 2])) ∨ (∃ l' v us, fin (rdL (s.extract c s.size)) = some l' ∧ e = .returned (.tuple #[.int .i64 n, v, .int .i64 0]) ∧ FOwn w' w.heap.size v us l')) ∧ Below w.heap.size w w'
set_option maxRecDepth 100000 in
set_option maxHeartbeats 4000000 in
theorem dopen_h (s : ByteArray) (K : Nat) (l : List Int) (next : Int) (w : World) (hm : U.mayB next = true) (hs : V.ints s = (K : Int) :: l) (hl : s.size ≤ 200) (h1 : 1 ≤ K) (h4 : K ≤ 4) (hK : K ≤ l.length) (hw : U.wholeB (big (l.take K)) K next = true) : Calls Tryd.prog 9 #[.string s, .int .i64 next] w (OpPost s (1 + K) (U.near (big (l.take K)) (U.rnd K) next) w) := by
  obtain ⟨i0, hi, hz0, hz1, hz2⟩ := info_parts infoF
  have hz : s.size = l.length + 1 := by rw [← ints_length, hs]; rfl
  have hne := str_ne (d := s) (by omega)
  have hi0 := fun W => index0 s K l hs W
  have g2 : ¬ (200 : Int) < (s.size : Int) := by omega
  have tl : s.size ≤ 9223372036854775807 := by omega
  have g3 : ¬ (K : Int) < 1 := by omega
  have g4 : ¬ (4 : Int) < (K : Int) := by omega
  have g5 : ¬ (s.size : Int) ≤ (K : Int) := by omega
  have HM : ∀ W, Calls Tryd.prog 12 #[.int .i64 next] W fun e w' => e = .returned (.bool true) ∧ W = w' := fun W => (U.rmay next W).mono fun e w' hh => ⟨by rw [hh.1, hm], hh.2.symm⟩
  have HIX : Hid (∀ (j : Nat) (W : World), j < l.length → (Instr.index 9 (.string s) (.int .i64 ((j : Int) + 1))).run Tryd.prog W = .ok (.int .u8 (l[j]?.getD 0)) W) := fun j W hj => by
    have := index_at (d := s) (k := j + 1) (by omega) W
    rw [hs, List.getElem?_cons_succ] at this
    exact this
  have HBY : Hid (Bytes l) := fun z hz => bytes_ints s z (by rw [hs]; simp [hz])
  have HKL : Hid (K ≤ l.length) := hK
  have HZ : Hid (s.size = l.length + 1) := hz
  have H4 : Hid (1 ≤ K ∧ K ≤ 4) := ⟨h1, h4⟩
  have HW : Hid (∀ W, Calls Tryd.prog 20 #[.int .i64 (big (l.take K)), .int .i64 (K : Int), .int .i64 next] W fun e w' => e = .returned (.tuple #[.int .i64 (U.near (big (l.take K)) (U.rnd K) next), .bool true]) ∧ W = w') := fun W => (U.rwhole_yes _ _ next W hw).mono fun e w' hh => ⟨hh.1, hh.2.symm⟩
  obtain ⟨NN, hNN⟩ : ∃ NN, U.near (big (l.take K)) (U.rnd K) next = NN := ⟨_, rfl⟩
  rw [hNN] at HW ⊢
  clear hNN hw
  clear hz hs hm hK
  go_enter Tryd.func9, Tryd.ntmps9
  go_wp2_with (first | (go_at_call 12; refine (HM _).mono ?_; rintro e w1 ⟨rfl, rfl⟩))
  go_loopw [9, 10] (fun c i wr => ∃ (j : Nat) (t : Int), j ≤ K ∧ i = .int .i64 t ∧ t = (j : Int) + 1 ∧ c = .int .i64 (big (l.take j)) ∧ wr = w) (fun _ i _ => (5 - intOf i).toNat)
  case atStart => exact ⟨0, 1, Nat.zero_le _, rfl, rfl, rfl, rfl⟩
  case round =>
    obtain ⟨j, t, hj, rfl, ht, rfl, hwr⟩ := hrel
    by_cases hlt : j < K
    · have hjl : j < l.length := by have := HKL.out; omega
      have hix := fun W => HIX.out j W hjl
      have hbd := big_small HBY.out j (by omega) (by have := H4.out; omega)
      have HN : Hid (big (l.take (j + 1)) = 256 * big (l.take j) + l[j]?.getD 0) := big_next hjl
      have hy : 0 ≤ l[j]?.getD 0 ∧ l[j]?.getD 0 < 256 := by
        rw [List.getElem?_eq_getElem hjl]
        exact HBY.out _ (List.getElem_mem _)
      have g6 : t ≤ (K : Int) := by omega
      have t4 : t ≤ 4 := by have := H4.out; omega
      have t1 : 1 ≤ t := by omega
      rw [← ht] at hix
      have HT : Hid (t = (j : Int) + 1) := ht
      have HWR : Hid (wr = w) := hwr
      clear hjl ht hwr
      generalize l[j]?.getD 0 = y at hix hy HN
      generalize big (l.take j) = z at hbd HN
      obtain ⟨y0, y1⟩ := hy
      obtain ⟨z0, z1⟩ := hbd
      go_wp2_with fail
      exact ⟨⟨j + 1, t + 1, by omega, by go_num, by have := HT.out; omega, by rw [HN.out], HWR.out⟩, by simp [intOf]; omega⟩
    · obtain rfl : j = K := by omega
      have g6 : ¬ t ≤ (j : Int) := by omega
      have HWz := HW.out
      clear ht
      have hwr' := hwr.symm
      clear hwr
      subst hwr'
      generalize big (l.take j) = z at HWz
      have H200 : Hid (s.size ≤ 200) := hl
      clear HM HIX HBY hi0 hne g2 g3 g4 g5 HW hl
      go_wp2_with (first | (go_at_call 20; refine (HWz _).mono ?_; rintro e w1 ⟨rfl, rfl⟩))
      clear HWz
      go_loopg [13, 14] s.size (fun gg s13 s14 wq => ∃ (A : Nat) (L : List F) (us : List Value), s13 = .int .i64 (A : Int) ∧ A ≤ s.size ∧ s.size - A ≤ gg ∧ L.length ≤ A ∧ Hid (FOwn wq w.heap.size s14 us L) ∧ Hid (rdLA L (s.extract A s.size) = rdL (s.extract (1 + j) s.size)) ∧ Hid (Below w.heap.size w wq))
      case atStart => exact ⟨1 + j, [], [], by go_num, by have := HZ.out; have := HKL.out; omega, by omega, by simp, FOwn.nil _ _, rdLA_start _, Below.refl _ _⟩
      case round =>
        obtain ⟨A, L, us, rfl, hA, hgg, hLA, HO, HRD, HBq⟩ := hrel
        obtain ⟨a4, c4, hs4⟩ := own_shape HO.out.own
        subst hs4
        have h200 := H200.out
        have hex : (s.extract A s.size).size = s.size - A := by rw [ByteArray.size_extract]; omega
        by_cases hlt2 : A < s.size
        · have g7 : (A : Int) < (s.size : Int) := by omega
          have hsl := fun W => run_from s A hA tl W
          have hr0 : (s.extract A s.size).size ≠ 0 := by omega
          have hr47 : (s.extract A s.size).size ≤ 140737488355328 := by omega
          cases hf : rdF (s.extract A s.size) with
          | none =>
            have HP := dread_no (s.extract A s.size) wr hr47 hf
            have HFN : Hid (fin (rdL (s.extract (1 + j) s.size)) = none) := by
              show _ = _
              rw [← HRD.out, rdLA_none hr0 hf]; rfl
            simp only [zeroF] at HP
            clear hf hr47 hr0 HRD hex
            generalize L.length = m at *
            generalize s.extract A s.size = r at *
            go_wp2_with (first | (go_at_call 21; refine HP.mono ?_; rintro e w1 ⟨rfl, hb1⟩; have hB1 := HBq.out.trans (hb1.mono HBq.out.size)))
            go_ret3
            exact ⟨.inl ⟨HFN.out, rfl⟩, hB1.alloc hB1.size _⟩
          | some y =>
            obtain ⟨⟨kk, ns, d⟩, nn⟩ := y
            have HP := dread_yes (s.extract A s.size) wr hr47 kk ns d nn hf
            obtain ⟨hgood, hn1, hn2⟩ := rdLA_good (L := L) hf
            have HG : Hid (fF (kk, ns, d) = 0) := hgood
            have HRD2 : Hid (rdLA (L ++ [(kk, ns, d)]) (s.extract (A + nn) s.size) = rdL (s.extract (1 + j) s.size)) := by
              show _ = _
              rw [← ext_two s A nn hA hn2, ← rdLA_some hr0 hf]; exact HRD.out
            have hAn : A + nn ≤ s.size := by omega
            clear hf hr47 hgood HRD hr0 hn2 hex
            generalize s.extract A s.size = r at *
            go_wp2_with fail
            refine HP.mono ?_
            rintro e w1 ⟨v1, rfl, ho1, hb1⟩
            obtain ⟨a1, c1, hv1⟩ := own_shape ho1
            subst hv1
            have hB1 := HBq.out.trans (hb1.mono HBq.out.size)
            have bel2 : Below w1.heap.size w1 (w1.alloc (.cells #[.int .i64 kk, .slice a1 ns.length c1, .string d] 38)) := (Below.refl _ w1).alloc (Nat.le_refl _) _
            have bel3 : Below w1.heap.size w1 ((w1.alloc (.cells #[.int .i64 kk, .slice a1 ns.length c1, .string d] 38)).alloc (.cells #[.int .i64 kk, .slice a1 ns.length c1, .string d] 38)) := bel2.alloc bel2.size _
            have hB3 := hB1.trans (bel3.mono hB1.size)
            have hO3 := (HO.out.below hb1).below bel3
            have ho3 := own_le (ho1.below bel3) HBq.out.size
            have hcn := cells_frame_new (w1.alloc (.cells #[.int .i64 kk, .slice a1 ns.length c1, .string d] 38)) kk (.slice a1 ns.length c1) d 38
            have h1c := frame_one kk a1 ns.length c1 d
            have hsz3 : w.heap.size ≤ ((w1.alloc (.cells #[.int .i64 kk, .slice a1 ns.length c1, .string d] 38)).alloc (.cells #[.int .i64 kk, .slice a1 ns.length c1, .string d] 38)).heap.size := hB3.size
            have hszA : (w1.alloc (.cells #[.int .i64 kk, .slice a1 ns.length c1, .string d] 38)).heap.size = w1.heap.size + 1 := by simp
            rw [hszA] at hcn
            have HAn : Hid (A + nn ≤ s.size ∧ 1 ≤ nn ∧ L.length ≤ A) := ⟨hAn, hn1, hLA⟩
            have hAi : (A : Int) + (nn : Int) ≤ 200 := by omega
            clear HP bel2 bel3 hB1 hszA
            go_wp2_with (at_builtin; refine wpList_append_own_at _ rfl (.tmp 85) (.tmp 87) 22 rfl w.heap.size 38 i0 _ 3 48 Tryd.underlying22 hi hz0 hz1 hz2 rfl (by decide) _ _ (fcs us L) rfl hO3.own ⟨w1.heap.size + 1, 0, none⟩ 1 1 [Value.int .i64 kk, .slice a1 ns.length c1, .string d] rfl rfl hcn h1c (by unfold maxLen; omega) (by omega) hsz3 ?_; intro v5 w5 ho5 hg5 _ hl5)
            have hO5 := hO3.app (f := (kk, ns, d)) ho3 HG.out ho5 hg5
            have hB5 := hB3.grown hg5 hsz3 (fun k e => (hO3.own.lt k e).1)
            go_roundg (s.size - (A + nn))
            case measure => have := HAn.out; omega
            case rel => exact ⟨A + nn, L ++ [(kk, ns, d)], us ++ [Value.slice a1 ns.length c1], by go_num, HAn.out.1, Nat.le_refl _, by rw [List.length_append]; have := HAn.out; simp; omega, hO5, HRD2.out, hB5⟩
        · obtain rfl : A = s.size := by omega
          have g7 : ¬ (s.size : Int) < (s.size : Int) := by omega
          have HE : Hid (rdL (s.extract (1 + j) s.size) = some L) := by
            show _ = _
            rw [← HRD.out]; exact rdLA_nil (by omega)
          clear HRD hex
          by_cases hm0 : L.length = 0
          · have HFN : Hid (fin (rdL (s.extract (1 + j) s.size)) = none) := by
              show _ = _
              rw [HE.out, List.eq_nil_of_length_eq_zero hm0]; rfl
            rw [hm0] at *
            go_wp2_with fail
            go_ret3
            exact ⟨.inl ⟨HFN.out, rfl⟩, HBq.out⟩
          · have g8 : ¬ (L.length : Int) = 0 := by omega
            by_cases hm12 : 12 < L.length
            · have g9 : (12 : Int) < (L.length : Int) := by omega
              have HFN : Hid (fin (rdL (s.extract (1 + j) s.size)) = none) := by
                show _ = _
                rw [HE.out, fin_long hm12]
              go_wp2_with fail
              go_ret3
              exact ⟨.inl ⟨HFN.out, rfl⟩, HBq.out⟩
            · have g9 : ¬ (12 : Int) < (L.length : Int) := by omega
              have HFN : Hid (fin (rdL (s.extract (1 + j) s.size)) = some L) := by
                show _ = _
                rw [HE.out, fin_some (by omega) (by omega)]
              go_wp2_with fail
              go_ret3
              exact ⟨.inr ⟨L, _, us, HFN.out, rfl, HO.out⟩, HBq.out⟩
theorem dopen_no (s : ByteArray) (next : Int) (w : World) (hl : s.size ≤ 9223372036854775807) (h : opF s next ≠ 0) : Calls Tryd.prog 9 #[.string s, .int .i64 next] w fun e w' => e = .returned (.tuple #[.int .i64 0, .slice none 0 0, .int .i64 (opF s next)]) ∧ Below w.heap.size w w' := by
  rcases opF_no h with ⟨hm, e⟩ | ⟨hm, h1, e⟩ | ⟨hm, h1, h2, e⟩
  · rw [e]; exact dopen_a s next w hm
  · rw [e]; exact dopen_b s next w hm h1 hl
  · rw [e]
    cases hs : V.ints s with
    | nil =>
      obtain rfl : s = { data := #[] } := str_nil (by rw [← ints_length, hs]; rfl)
      exact dopen_c next w hm
    | cons k l =>
      have hz : s.size = l.length + 1 := by rw [← ints_length, hs]; rfl
      by_cases k1 : k < 1
      · exact dopen_d s k l next w hm hs h1 k1
      · by_cases k4 : 4 < k
        · exact dopen_e s k l next w hm hs h1 k4
        · by_cases kl : (l.length : Int) < k
          · exact dopen_f s k l next w hm hs h1 (by omega) (by omega) kl
          · obtain ⟨K, rfl⟩ : ∃ K : Nat, k = (K : Int) := ⟨k.toNat, by omega⟩
            have hlb : U.lenB (K : Int) = true := decide_eq_true (by omega)
            cases hw : U.wholeB (big (l.take K)) K next with
            | false => exact dopen_g s K l next w hm hs h1 (by omega) (by omega) (by omega) hw
            | true =>
              have hn : rdN s next = some (U.near (big (l.take K)) (U.rnd K) next, 1 + K) := by
                unfold rdN
                rw [hs]
                simp only [Int.toNat_natCast]
                rw [if_neg (fun hh => by rcases hh with e | e; rw [hlb] at e; cases e; exact kl e), if_neg (by rw [hw]; decide)]
              refine (dopen_h s K l next w hm hs h1 (by omega) (by omega) (by omega) hw).mono ?_
              rintro e w' ⟨⟨_, rfl⟩ | ⟨l', v, us, h3, _⟩, hb⟩
              · exact ⟨rfl, hb⟩
              · unfold rdP at h2
                rw [hn, Option.bind_some, h3] at h2
                cases h2
theorem dopen_yes (s : ByteArray) (next : Int) (w : World) (hm : U.mayB next = true) (hl : s.size ≤ 200) (n : Int) (l : List F) (h : rdP s next = some (n, l)) : Calls Tryd.prog 9 #[.string s, .int .i64 next] w fun e w' => ∃ v us, e = .returned (.tuple #[.int .i64 n, v, .int .i64 0]) ∧ FOwn w' w.heap.size v us l ∧ Below w.heap.size w w' := by
  obtain ⟨c, h1, h2⟩ := rdP_yes h
  unfold rdN at h1
  cases hs : V.ints s with
  | nil => rw [hs] at h1; cases h1
  | cons k l0 =>
    rw [hs] at h1
    simp only at h1
    split at h1
    · cases h1
    · rename_i hh
      split at h1
      · cases h1
      · rename_i hw
        simp only [Option.some.injEq, Prod.mk.injEq] at h1
        obtain ⟨rfl, rfl⟩ := h1
        have hlb : U.lenB k = true := by
          cases e : U.lenB k with
          | true => rfl
          | false => exact absurd (Or.inl e) hh
        have hk := U.lenB_yes hlb
        have hkl : ¬ (l0.length : Int) < k := fun e => hh (Or.inr e)
        obtain ⟨K, rfl⟩ : ∃ K : Nat, k = (K : Int) := ⟨k.toNat, by omega⟩
        rw [Int.toNat_natCast] at h2 hw ⊢
        have hw' : U.wholeB (big (l0.take K)) K next = true := by simpa using hw
        refine (dopen_h s K l0 next w hm hs hl (by omega) (by omega) (by omega) hw').mono ?_
        rintro e w' ⟨⟨h3, _⟩ | ⟨l', v, us, h3, rfl, ho⟩, hb⟩
        · rw [h2] at h3; cases h3
        · rw [h2] at h3; cases h3
          exact ⟨v, us, rfl, ho, hb⟩
end Go.Proofs.YtjpdembofiadbaaDoor
