/- What takeNumber, takeFrames and Parse answer. -/
import Derived.Test.YtjpdembofiadbaaDoorQB
import Derived.Deep.LoopGhost
import Derived.Maps.AppendAt
namespace Go.Proofs.YtjpdembofiadbaaDoor
open Go.RowKit Go.Lib Go.Sort
set_option linter.unusedVariables false
set_option linter.unusedSimpArgs false
set_option linter.unusedSimpArgs false


theorem index_at {d : ByteArray} {k : Nat} (h : k < d.size) (w : World) : (Instr.index 9 (.string d) (.int .i64 (k : Int))).run Tryd.prog w = .ok (.int .u8 ((V.ints d)[k]?.getD 0)) w := by
  have e : ((d[k].toNat : Nat) : Int) = (V.ints d)[k]?.getD 0 := by
    obtain ⟨⟨r⟩⟩ := d
    have h' : k < r.length := h
    simp [V.ints, h']
    rfl
  have hp : (k : Int) < (d.size : Int) := by omega
  have eu := Tryd.underlying9
  go_simp
  first | done | simp [e]
set_option maxRecDepth 100000 in
set_option maxHeartbeats 4000000 in
theorem tnum_nil (next : Int) (w : World) : Calls Tryd.prog 22 #[.string { data := #[] }, .int .i64 next] w fun e w' => e = .returned (.tuple #[.int .i64 0, .string { data := #[] }, .iface 48 (.int .i64 2)]) ∧ Below w.heap.size w w' := by
  go_enter Tryd.func22, Tryd.ntmps22
  go_wp2_with fail
  go_ret3
  exact ⟨rfl, Below.refl _ _⟩
set_option maxRecDepth 100000 in
set_option maxHeartbeats 4000000 in
theorem tnum_short (s : ByteArray) (next k : Int) (l : List Int) (w : World) (hs : V.ints s = k :: l) (hl : s.size ≤ 200) (h : (l.length : Int) < k) : Calls Tryd.prog 22 #[.string s, .int .i64 next] w fun e w' => e = .returned (.tuple #[.int .i64 0, .string { data := #[] }, .iface 48 (.int .i64 2)]) ∧ Below w.heap.size w w' := by
  have hz : s.size = l.length + 1 := by rw [← ints_length, hs]; rfl
  have hby : Bytes l := fun z hz => bytes_ints s z (by rw [hs]; simp [hz])
  have hk : 0 ≤ k ∧ k < 256 := bytes_ints s k (by rw [hs]; simp)
  have hne := str_ne (d := s) (by omega)
  have hi0 := fun W => index0 s k l hs W
  have tl : s.size ≤ 9223372036854775807 := by omega
  have gl : (s.size : Int) ≤ k := by omega
  clear hs hby hz h
  go_enter Tryd.func22, Tryd.ntmps22
  go_wp2_with fail
  go_ret3
  exact ⟨rfl, Below.refl _ _⟩
set_option maxRecDepth 100000 in
set_option maxHeartbeats 4000000 in
theorem tnum_bad (s : ByteArray) (next k : Int) (l : List Int) (w : World) (hs : V.ints s = k :: l) (hl : s.size ≤ 200) (h : ¬ (l.length : Int) < k) (hb : U.lenB k = false) : Calls Tryd.prog 22 #[.string s, .int .i64 next] w fun e w' => e = .returned (.tuple #[.int .i64 0, .string { data := #[] }, .iface 48 (.int .i64 2)]) ∧ Below w.heap.size w w' := by
  have hz : s.size = l.length + 1 := by rw [← ints_length, hs]; rfl
  have hby : Bytes l := fun z hz => bytes_ints s z (by rw [hs]; simp [hz])
  have hk : 0 ≤ k ∧ k < 256 := bytes_ints s k (by rw [hs]; simp)
  have hne := str_ne (d := s) (by omega)
  have hi0 := fun W => index0 s k l hs W
  have tl : s.size ≤ 9223372036854775807 := by omega
  have hsl : ∀ W : World, (Instr.slice 9 (.string s) (some (.int .i64 1)) none none).run Tryd.prog W = .ok (.string (s.extract 1 s.size)) W := fun W => run_from s 1 (by omega) tl W
  have hid : V.ints (s.extract 1 s.size) = l := by rw [ints_drop s 1 (by omega), hs]; rfl
  have hr1 : (s.extract 1 s.size).size = l.length := by rw [← ints_length, hid]
  have HIX : Hid (∀ (i : Nat) (W : World), i < l.length → (Instr.index 9 (.string (s.extract 1 s.size)) (.int .i64 (i : Int))).run Tryd.prog W = .ok (.int .u8 (l[i]?.getD 0)) W) := fun i W hi => by
    have := index_at (d := s.extract 1 s.size) (k := i) (by omega) W
    rw [hid] at this
    exact this
  obtain ⟨K, rfl⟩ : ∃ K : Nat, k = (K : Int) := ⟨k.toNat, by omega⟩
  have gl : ¬ (s.size : Int) ≤ (K : Int) := by omega
  have HEX : Hid (∀ a, a ≤ l.length → (s.extract 1 s.size).extract a (s.extract 1 s.size).size = s.extract (1 + a) s.size) := fun a ha => by
    apply ints_inj
    rw [ints_drop _ _ (by omega), hid, ints_drop _ _ (by omega), hs, show 1 + a = a + 1 by omega, List.drop_succ_cons]
  generalize hr1' : s.extract 1 s.size = r1 at *
  have HK : Hid ((K : Nat) ≤ l.length) := by show _ ≤ _; omega
  have HS : Hid (s.size = l.length + 1) := hz
  have HBY : Hid (Bytes l) := hby
  clear hz hs hid hr1' hby
  have HW : Hid (∀ z W, Calls Tryd.prog 37 #[.int .i64 z, .int .i64 (K : Int), .int .i64 next] W fun e w' => e = .returned (.tuple #[.int .i64 0, .iface 48 (.int .i64 1)]) ∧ w' = W) := fun z W => U.whole_no z K next W (by simp [U.wholeB, hb])
  clear hb h
  go_enter Tryd.func22, Tryd.ntmps22
  go_wp2_with fail
  go_quiet (fail)
  go_wp2_with fail
  go_loopw [9, 30] (fun c i wr => ∃ (j : Nat) (z : Int), j ≤ K ∧ i = .int .i64 (j : Int) ∧ c = .int .i64 z ∧ Hid (Below w.heap.size w wr)) (fun _ i _ => K - (intOf i).toNat)
  case atStart => exact ⟨0, 0, Nat.zero_le _, rfl, rfl, below_drewN (Below.refl _ _) _⟩
  case round =>
    obtain ⟨j, z, hj, rfl, rfl, HB⟩ := hrel
    by_cases hlt : j < K
    · have g1 : (j : Int) < (K : Int) := by omega
      have hix := fun W => HIX.out j W (by have := HK.out; omega)
      generalize l[j]?.getD 0 = y at hix
      go_wp2_with fail
      exact ⟨⟨j + 1, _, by omega, by go_num, rfl, HB⟩, by simp [intOf]; omega⟩
    · have g1 : ¬ (j : Int) < (K : Int) := by omega
      have HWz := HW.out z
      go_wp2_with (first | (go_at_call 37; refine (HWz _).mono ?_; rintro e w1 ⟨rfl, rfl⟩))
      go_ret3
      exact ⟨rfl, HB.out⟩
set_option maxRecDepth 100000 in
set_option maxHeartbeats 4000000 in
theorem tnum_no (s : ByteArray) (next k : Int) (l : List Int) (w : World) (hs : V.ints s = k :: l) (hl : s.size ≤ 200) (h : ¬ (l.length : Int) < k) (hb : U.lenB k = true) (hw : U.wholeB (big (l.take k.toNat)) k next = false) : Calls Tryd.prog 22 #[.string s, .int .i64 next] w fun e w' => e = .returned (.tuple #[.int .i64 0, .string { data := #[] }, .iface 48 (.int .i64 2)]) ∧ Below w.heap.size w w' := by
  have hz : s.size = l.length + 1 := by rw [← ints_length, hs]; rfl
  have hby : Bytes l := fun z hz => bytes_ints s z (by rw [hs]; simp [hz])
  have hk : 0 ≤ k ∧ k < 256 := bytes_ints s k (by rw [hs]; simp)
  have hne := str_ne (d := s) (by omega)
  have hi0 := fun W => index0 s k l hs W
  have tl : s.size ≤ 9223372036854775807 := by omega
  have hsl : ∀ W : World, (Instr.slice 9 (.string s) (some (.int .i64 1)) none none).run Tryd.prog W = .ok (.string (s.extract 1 s.size)) W := fun W => run_from s 1 (by omega) tl W
  have hid : V.ints (s.extract 1 s.size) = l := by rw [ints_drop s 1 (by omega), hs]; rfl
  have hr1 : (s.extract 1 s.size).size = l.length := by rw [← ints_length, hid]
  have HIX : Hid (∀ (i : Nat) (W : World), i < l.length → (Instr.index 9 (.string (s.extract 1 s.size)) (.int .i64 (i : Int))).run Tryd.prog W = .ok (.int .u8 (l[i]?.getD 0)) W) := fun i W hi => by
    have := index_at (d := s.extract 1 s.size) (k := i) (by omega) W
    rw [hid] at this
    exact this
  obtain ⟨K, rfl⟩ : ∃ K : Nat, k = (K : Int) := ⟨k.toNat, by omega⟩
  have gl : ¬ (s.size : Int) ≤ (K : Int) := by omega
  have HEX : Hid (∀ a, a ≤ l.length → (s.extract 1 s.size).extract a (s.extract 1 s.size).size = s.extract (1 + a) s.size) := fun a ha => by
    apply ints_inj
    rw [ints_drop _ _ (by omega), hid, ints_drop _ _ (by omega), hs, show 1 + a = a + 1 by omega, List.drop_succ_cons]
  generalize hr1' : s.extract 1 s.size = r1 at *
  have HK : Hid ((K : Nat) ≤ l.length) := by show _ ≤ _; omega
  have HS : Hid (s.size = l.length + 1) := hz
  have HBY : Hid (Bytes l) := hby
  clear hz hs hid hr1' hby
  rw [Int.toNat_natCast] at hw
  have H4 : Hid (K ≤ 4) := by show _ ≤ _; have := U.lenB_yes hb; omega
  have HW : Hid (∀ W, Calls Tryd.prog 37 #[.int .i64 (big (l.take K)), .int .i64 (K : Int), .int .i64 next] W fun e w' => e = .returned (.tuple #[.int .i64 0, .iface 48 (.int .i64 1)]) ∧ w' = W) := fun W => U.whole_no _ _ next W hw
  clear hb h hw
  go_enter Tryd.func22, Tryd.ntmps22
  go_wp2_with fail
  go_quiet (fail)
  go_wp2_with fail
  go_loopw [9, 30] (fun c i wr => ∃ (j : Nat), j ≤ K ∧ i = .int .i64 (j : Int) ∧ c = .int .i64 (big (l.take j)) ∧ Hid (Below w.heap.size w wr)) (fun _ i _ => K - (intOf i).toNat)
  case atStart => exact ⟨0, Nat.zero_le _, rfl, rfl, below_drewN (Below.refl _ _) _⟩
  case round =>
    obtain ⟨j, hj, rfl, rfl, HB⟩ := hrel
    by_cases hlt : j < K
    · have g1 : (j : Int) < (K : Int) := by omega
      have hjl : j < l.length := by have := HK.out; omega
      have hix := fun W => HIX.out j W hjl
      have hbd := big_small HBY.out j (by omega) (by have := H4.out; omega)
      have HN : Hid (big (l.take (j + 1)) = 256 * big (l.take j) + l[j]?.getD 0) := big_next hjl
      have hy : 0 ≤ l[j]?.getD 0 ∧ l[j]?.getD 0 < 256 := by
        rw [List.getElem?_eq_getElem hjl]
        exact HBY.out _ (List.getElem_mem _)
      clear hjl
      generalize l[j]?.getD 0 = y at hix hy HN
      generalize big (l.take j) = z at hbd HN
      obtain ⟨y0, y1⟩ := hy
      obtain ⟨z0, z1⟩ := hbd
      have ho := V.or_byte z y z0 (by omega) y0 y1
      go_wp2_with fail
      exact ⟨⟨j + 1, by omega, by go_num, by rw [HN.out, Int.mul_comm], HB⟩, by simp [intOf]; omega⟩
    · have g1 : ¬ (j : Int) < (K : Int) := by omega
      obtain rfl : j = K := by omega
      have HWz := HW.out
      generalize big (l.take j) = z at HWz
      go_wp2_with (first | (go_at_call 37; refine (HWz _).mono ?_; rintro e w1 ⟨rfl, rfl⟩))
      go_ret3
      exact ⟨rfl, HB.out⟩
set_option maxRecDepth 100000 in
set_option maxHeartbeats 4000000 in
theorem tnum_yes (s : ByteArray) (next k : Int) (l : List Int) (w : World) (hs : V.ints s = k :: l) (hl : s.size ≤ 200) (h : ¬ (l.length : Int) < k) (hb : U.lenB k = true) (hw : U.wholeB (big (l.take k.toNat)) k next = true) : Calls Tryd.prog 22 #[.string s, .int .i64 next] w fun e w' => e = .returned (.tuple #[.int .i64 (U.near (big (l.take k.toNat)) (U.rnd k) next), .string (s.extract (1 + k.toNat) s.size), .nilIface]) ∧ Below w.heap.size w w' := by
  have hz : s.size = l.length + 1 := by rw [← ints_length, hs]; rfl
  have hby : Bytes l := fun z hz => bytes_ints s z (by rw [hs]; simp [hz])
  have hk : 0 ≤ k ∧ k < 256 := bytes_ints s k (by rw [hs]; simp)
  have hne := str_ne (d := s) (by omega)
  have hi0 := fun W => index0 s k l hs W
  have tl : s.size ≤ 9223372036854775807 := by omega
  have hsl : ∀ W : World, (Instr.slice 9 (.string s) (some (.int .i64 1)) none none).run Tryd.prog W = .ok (.string (s.extract 1 s.size)) W := fun W => run_from s 1 (by omega) tl W
  have hid : V.ints (s.extract 1 s.size) = l := by rw [ints_drop s 1 (by omega), hs]; rfl
  have hr1 : (s.extract 1 s.size).size = l.length := by rw [← ints_length, hid]
  have HIX : Hid (∀ (i : Nat) (W : World), i < l.length → (Instr.index 9 (.string (s.extract 1 s.size)) (.int .i64 (i : Int))).run Tryd.prog W = .ok (.int .u8 (l[i]?.getD 0)) W) := fun i W hi => by
    have := index_at (d := s.extract 1 s.size) (k := i) (by omega) W
    rw [hid] at this
    exact this
  obtain ⟨K, rfl⟩ : ∃ K : Nat, k = (K : Int) := ⟨k.toNat, by omega⟩
  have gl : ¬ (s.size : Int) ≤ (K : Int) := by omega
  have HEX : Hid (∀ a, a ≤ l.length → (s.extract 1 s.size).extract a (s.extract 1 s.size).size = s.extract (1 + a) s.size) := fun a ha => by
    apply ints_inj
    rw [ints_drop _ _ (by omega), hid, ints_drop _ _ (by omega), hs, show 1 + a = a + 1 by omega, List.drop_succ_cons]
  generalize hr1' : s.extract 1 s.size = r1 at *
  have HK : Hid ((K : Nat) ≤ l.length) := by show _ ≤ _; omega
  have HS : Hid (s.size = l.length + 1) := hz
  have HBY : Hid (Bytes l) := hby
  clear hz hs hid hr1' hby
  rw [Int.toNat_natCast] at hw ⊢
  have H4 : Hid (K ≤ 4) := by show _ ≤ _; have := U.lenB_yes hb; omega
  have HW : Hid (∀ W, Calls Tryd.prog 37 #[.int .i64 (big (l.take K)), .int .i64 (K : Int), .int .i64 next] W fun e w' => e = .returned (.tuple #[.int .i64 (U.near (big (l.take K)) (U.rnd K) next), .nilIface]) ∧ w' = W) := fun W => U.whole_yes _ _ next W hw
  have hsl2 := fun W => run_from r1 K (by have := HK.out; omega) (by have := HS.out; omega) W
  rw [HEX.out K HK.out] at hsl2
  clear hb h hw
  generalize U.near (big (l.take K)) (U.rnd K) next = N at *
  generalize s.extract (1 + K) s.size = r2 at *
  go_enter Tryd.func22, Tryd.ntmps22
  go_wp2_with fail
  go_quiet (fail)
  go_wp2_with fail
  go_loopw [9, 30] (fun c i wr => ∃ (j : Nat), j ≤ K ∧ i = .int .i64 (j : Int) ∧ c = .int .i64 (big (l.take j)) ∧ Hid (Below w.heap.size w wr)) (fun _ i _ => K - (intOf i).toNat)
  case atStart => exact ⟨0, Nat.zero_le _, rfl, rfl, below_drewN (Below.refl _ _) _⟩
  case round =>
    obtain ⟨j, hj, rfl, rfl, HB⟩ := hrel
    by_cases hlt : j < K
    · have g1 : (j : Int) < (K : Int) := by omega
      have hjl : j < l.length := by have := HK.out; omega
      have hix := fun W => HIX.out j W hjl
      have hbd := big_small HBY.out j (by omega) (by have := H4.out; omega)
      have HN : Hid (big (l.take (j + 1)) = 256 * big (l.take j) + l[j]?.getD 0) := big_next hjl
      have hy : 0 ≤ l[j]?.getD 0 ∧ l[j]?.getD 0 < 256 := by
        rw [List.getElem?_eq_getElem hjl]
        exact HBY.out _ (List.getElem_mem _)
      clear hjl
      generalize l[j]?.getD 0 = y at hix hy HN
      generalize big (l.take j) = z at hbd HN
      obtain ⟨y0, y1⟩ := hy
      obtain ⟨z0, z1⟩ := hbd
      have ho := V.or_byte z y z0 (by omega) y0 y1
      go_wp2_with fail
      exact ⟨⟨j + 1, by omega, by go_num, by rw [HN.out, Int.mul_comm], HB⟩, by simp [intOf]; omega⟩
    · have g1 : ¬ (j : Int) < (K : Int) := by omega
      obtain rfl : j = K := by omega
      have HWz := HW.out
      generalize big (l.take j) = z at HWz
      go_wp2_with (first | (go_at_call 37; refine (HWz _).mono ?_; rintro e w1 ⟨rfl, rfl⟩))
      go_quiet (fail)
      go_wp2_with fail
      go_ret3
      exact ⟨rfl, below_drewN HB.out _⟩
end Go.Proofs.YtjpdembofiadbaaDoor
