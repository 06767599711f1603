/- What takeNumber, takeFrames and Parse answer. -/
import Derived.Test.YtoabfilliiopmaaDoorQB
import Derived.Deep.LoopGhost
import Derived.Maps.AppendAt
namespace Go.Proofs.YtoabfilliiopmaaDoor
open Go.RowKit Go.Lib Go.Sort
set_option linter.unusedVariables false
set_option linter.unusedSimpArgs false


theorem index_at {d : ByteArray} {k : Nat} (h : k < d.size) (w : World) : (Instr.index 9 (.string d) (.int .i64 (k : Int))).run Tryd.prog w = .ok (.int .u8 ((V.ints d)[k]?.getD 0)) w := by
  have e : ((d[k].toNat : Nat) : Int) = (V.ints d)[k]?.getD 0 := by
    obtain ⟨⟨r⟩⟩ := d
    have h' : k < r.length := h
    simp [V.ints, h']
    rfl
  have hp : (k : Int) < (d.size : Int) := by omega
  have eu := Tryd.underlying9
  go_simp
  first | done | simp [e]
set_option maxRecDepth 100000 in
set_option maxHeartbeats 4000000 in
theorem tnum_nil (next : Int) (w : World) : Calls Tryd.prog 11 #[.string { data := #[] }, .int .i64 next] w fun e w' => e = .returned (.tuple #[.int .i64 0, .string { data := #[] }, .iface 53 (.int .i64 2)]) ∧ Below w.heap.size w w' := by
  go_enter Tryd.func11, Tryd.ntmps11
  go_wp2_with fail
  go_ret3
  exact ⟨rfl, Below.refl _ _⟩
set_option maxRecDepth 100000 in
set_option maxHeartbeats 4000000 in
theorem tnum_short (s : ByteArray) (next k : Int) (l : List Int) (w : World) (hs : V.ints s = k :: l) (hl : s.size ≤ 200) (h : (l.length : Int) < k) : Calls Tryd.prog 11 #[.string s, .int .i64 next] w fun e w' => e = .returned (.tuple #[.int .i64 0, .string { data := #[] }, .iface 53 (.int .i64 2)]) ∧ Below w.heap.size w w' := by
  have hz : s.size = l.length + 1 := by rw [← ints_length, hs]; rfl
  have hby : Bytes l := fun z hz => bytes_ints s z (by rw [hs]; simp [hz])
  have hk : 0 ≤ k ∧ k < 256 := bytes_ints s k (by rw [hs]; simp)
  have hne := str_ne (d := s) (by omega)
  have hi0 := fun W => index0 s k l hs W
  have tl : s.size ≤ 9223372036854775807 := by omega
  have gl : (s.size : Int) ≤ k := by omega
  clear hs hby hz h
  go_enter Tryd.func11, Tryd.ntmps11
  go_wp2_with fail
  go_ret3
  exact ⟨rfl, Below.refl _ _⟩
set_option maxRecDepth 100000 in
set_option maxHeartbeats 4000000 in
theorem tnum_bad (s : ByteArray) (next k : Int) (l : List Int) (w : World) (hs : V.ints s = k :: l) (hl : s.size ≤ 200) (h : ¬ (l.length : Int) < k) (hb : U.lenB k = false) : Calls Tryd.prog 11 #[.string s, .int .i64 next] w fun e w' => e = .returned (.tuple #[.int .i64 0, .string { data := #[] }, .iface 53 (.int .i64 2)]) ∧ Below w.heap.size w w' := by
  have hz : s.size = l.length + 1 := by rw [← ints_length, hs]; rfl
  have hby : Bytes l := fun z hz => bytes_ints s z (by rw [hs]; simp [hz])
  have hk : 0 ≤ k ∧ k < 256 := bytes_ints s k (by rw [hs]; simp)
  have hne := str_ne (d := s) (by omega)
  have hi0 := fun W => index0 s k l hs W
  have tl : s.size ≤ 9223372036854775807 := by omega
  have hsl : ∀ W : World, (Instr.slice 9 (.string s) (some (.int .i64 1)) none none).run Tryd.prog W = .ok (.string (s.extract 1 s.size)) W := fun W => run_from s 1 (by omega) tl W
  have hid : V.ints (s.extract 1 s.size) = l := by rw [ints_drop s 1 (by omega), hs]; rfl
  have hr1 : (s.extract 1 s.size).size = l.length := by rw [← ints_length, hid]
  have HIX : Hid (∀ (i : Nat) (W : World), i < l.length → (Instr.index 9 (.string (s.extract 1 s.size)) (.int .i64 (i : Int))).run Tryd.prog W = .ok (.int .u8 (l[i]?.getD 0)) W) := fun i W hi => by
    have := index_at (d := s.extract 1 s.size) (k := i) (by omega) W
    rw [hid] at this
    exact this
  obtain ⟨K, rfl⟩ : ∃ K : Nat, k = (K : Int) := ⟨k.toNat, by omega⟩
  have gl : ¬ (s.size : Int) ≤ (K : Int) := by omega
  have HEX : Hid (∀ a, a ≤ l.length → (s.extract 1 s.size).extract a (s.extract 1 s.size).size = s.extract (1 + a) s.size) := fun a ha => by
    apply ints_inj
    rw [ints_drop _ _ (by omega), hid, ints_drop _ _ (by omega), hs, show 1 + a = a + 1 by omega, List.drop_succ_cons]
  generalize hr1' : s.extract 1 s.size = r1 at *
  have HK : Hid ((K : Nat) ≤ l.length) := by show _ ≤ _; omega
  have HS : Hid (s.size = l.length + 1) := hz
  have HBY : Hid (Bytes l) := hby
  clear hz hs hid hr1' hby
  have HW : Hid (∀ z W, Calls Tryd.prog 21 #[.int .i64 z, .int .i64 (K : Int), .int .i64 next] W fun e w' => e = .returned (.tuple #[.int .i64 0, .iface 53 (.int .i64 1)]) ∧ w' = W) := fun z W => U.whole_no z K next W (by simp [U.wholeB, hb])
  clear hb h
  go_enter Tryd.func11, Tryd.ntmps11
  go_wp2_with fail
  go_quiet (fail)
  go_wp2_with fail
  go_loopw [9, 30] (fun c i wr => ∃ (j : Nat) (z : Int), j ≤ K ∧ i = .int .i64 (j : Int) ∧ c = .int .i64 z ∧ Hid (Below w.heap.size w wr)) (fun _ i _ => K - (intOf i).toNat)
  case atStart => exact ⟨0, 0, Nat.zero_le _, rfl, rfl, below_drewN (Below.refl _ _) _⟩
  case round =>
    obtain ⟨j, z, hj, rfl, rfl, HB⟩ := hrel
    by_cases hlt : j < K
    · have g1 : (j : Int) < (K : Int) := by omega
      have hix := fun W => HIX.out j W (by have := HK.out; omega)
      generalize l[j]?.getD 0 = y at hix
      go_wp2_with fail
      exact ⟨⟨j + 1, _, by omega, by go_num, rfl, HB⟩, by simp [intOf]; omega⟩
    · have g1 : ¬ (j : Int) < (K : Int) := by omega
      have HWz := HW.out z
      go_wp2_with (first | (go_at_call 21; refine (HWz _).mono ?_; rintro e w1 ⟨rfl, rfl⟩))
      go_ret3
      exact ⟨rfl, HB.out⟩
set_option maxRecDepth 100000 in
set_option maxHeartbeats 4000000 in
theorem tnum_no (s : ByteArray) (next k : Int) (l : List Int) (w : World) (hs : V.ints s = k :: l) (hl : s.size ≤ 200) (h : ¬ (l.length : Int) < k) (hb : U.lenB k = true) (hw : U.wholeB (big (l.take k.toNat)) k next = false) : Calls Tryd.prog 11 #[.string s, .int .i64 next] w fun e w' => e = .returned (.tuple #[.int .i64 0, .string { data := #[] }, .iface 53 (.int .i64 2)]) ∧ Below w.heap.size w w' := by
  have hz : s.size = l.length + 1 := by rw [← ints_length, hs]; rfl
  have hby : Bytes l := fun z hz => bytes_ints s z (by rw [hs]; simp [hz])
  have hk : 0 ≤ k ∧ k < 256 := bytes_ints s k (by rw [hs]; simp)
  have hne := str_ne (d := s) (by omega)
  have hi0 := fun W => index0 s k l hs W
  have tl : s.size ≤ 9223372036854775807 := by omega
  have hsl : ∀ W : World, (Instr.slice 9 (.string s) (some (.int .i64 1)) none none).run Tryd.prog W = .ok (.string (s.extract 1 s.size)) W := fun W => run_from s 1 (by omega) tl W
  have hid : V.ints (s.extract 1 s.size) = l := by rw [ints_drop s 1 (by omega), hs]; rfl
  have hr1 : (s.extract 1 s.size).size = l.length := by rw [← ints_length, hid]
  have HIX : Hid (∀ (i : Nat) (W : World), i < l.length → (Instr.index 9 (.string (s.extract 1 s.size)) (.int .i64 (i : Int))).run Tryd.prog W = .ok (.int .u8 (l[i]?.getD 0)) W) := fun i W hi => by
    have := index_at (d := s.extract 1 s.size) (k := i) (by omega) W
    rw [hid] at this
    exact this
  obtain ⟨K, rfl⟩ : ∃ K : Nat, k = (K : Int) := ⟨k.toNat, by omega⟩
  have gl : ¬ (s.size : Int) ≤ (K : Int) := by omega
  have HEX : Hid (∀ a, a ≤ l.length → (s.extract 1 s.size).extract a (s.extract 1 s.size).size = s.extract (1 + a) s.size) := fun a ha => by
    apply ints_inj
    rw [ints_drop _ _ (by omega), hid, ints_drop _ _ (by omega), hs, show 1 + a = a + 1 by omega, List.drop_succ_cons]
  generalize hr1' : s.extract 1 s.size = r1 at *
  have HK : Hid ((K : Nat) ≤ l.length) := by show _ ≤ _; omega
  have HS : Hid (s.size = l.length + 1) := hz
  have HBY : Hid (Bytes l) := hby
  clear hz hs hid hr1' hby
  rw [Int.toNat_natCast] at hw
  have H4 : Hid (K ≤ 4) := by show _ ≤ _; have := U.lenB_yes hb; omega
  have HW : Hid (∀ W, Calls Tryd.prog 21 #[.int .i64 (big (l.take K)), .int .i64 (K : Int), .int .i64 next] W fun e w' => e = .returned (.tuple #[.int .i64 0, .iface 53 (.int .i64 1)]) ∧ w' = W) := fun W => U.whole_no _ _ next W hw
  clear hb h hw
  go_enter Tryd.func11, Tryd.ntmps11
  go_wp2_with fail
  go_quiet (fail)
  go_wp2_with fail
  go_loopw [9, 30] (fun c i wr => ∃ (j : Nat), j ≤ K ∧ i = .int .i64 (j : Int) ∧ c = .int .i64 (big (l.take j)) ∧ Hid (Below w.heap.size w wr)) (fun _ i _ => K - (intOf i).toNat)
  case atStart => exact ⟨0, Nat.zero_le _, rfl, rfl, below_drewN (Below.refl _ _) _⟩
  case round =>
    obtain ⟨j, hj, rfl, rfl, HB⟩ := hrel
    by_cases hlt : j < K
    · have g1 : (j : Int) < (K : Int) := by omega
      have hjl : j < l.length := by have := HK.out; omega
      have hix := fun W => HIX.out j W hjl
      have hbd := big_small HBY.out j (by omega) (by have := H4.out; omega)
      have HN : Hid (big (l.take (j + 1)) = 256 * big (l.take j) + l[j]?.getD 0) := big_next hjl
      have hy : 0 ≤ l[j]?.getD 0 ∧ l[j]?.getD 0 < 256 := by
        rw [List.getElem?_eq_getElem hjl]
        exact HBY.out _ (List.getElem_mem _)
      clear hjl
      generalize l[j]?.getD 0 = y at hix hy HN
      generalize big (l.take j) = z at hbd HN
      obtain ⟨y0, y1⟩ := hy
      obtain ⟨z0, z1⟩ := hbd
      have ho := V.or_byte z y z0 (by omega) y0 y1
      go_wp2_with fail
      exact ⟨⟨j + 1, by omega, by go_num, by rw [HN.out, Int.mul_comm], HB⟩, by simp [intOf]; omega⟩
    · have g1 : ¬ (j : Int) < (K : Int) := by omega
      obtain rfl : j = K := by omega
      have HWz := HW.out
      generalize big (l.take j) = z at HWz
      go_wp2_with (first | (go_at_call 21; refine (HWz _).mono ?_; rintro e w1 ⟨rfl, rfl⟩))
      go_ret3
      exact ⟨rfl, HB.out⟩
set_option maxRecDepth 100000 in
set_option maxHeartbeats 4000000 in
theorem tnum_yes (s : ByteArray) (next k : Int) (l : List Int) (w : World) (hs : V.ints s = k :: l) (hl : s.size ≤ 200) (h : ¬ (l.length : Int) < k) (hb : U.lenB k = true) (hw : U.wholeB (big (l.take k.toNat)) k next = true) : Calls Tryd.prog 11 #[.string s, .int .i64 next] w fun e w' => e = .returned (.tuple #[.int .i64 (U.near (big (l.take k.toNat)) (U.rnd k) next), .string (s.extract (1 + k.toNat) s.size), .nilIface]) ∧ Below w.heap.size w w' := by
  have hz : s.size = l.length + 1 := by rw [← ints_length, hs]; rfl
  have hby : Bytes l := fun z hz => bytes_ints s z (by rw [hs]; simp [hz])
  have hk : 0 ≤ k ∧ k < 256 := bytes_ints s k (by rw [hs]; simp)
  have hne := str_ne (d := s) (by omega)
  have hi0 := fun W => index0 s k l hs W
  have tl : s.size ≤ 9223372036854775807 := by omega
  have hsl : ∀ W : World, (Instr.slice 9 (.string s) (some (.int .i64 1)) none none).run Tryd.prog W = .ok (.string (s.extract 1 s.size)) W := fun W => run_from s 1 (by omega) tl W
  have hid : V.ints (s.extract 1 s.size) = l := by rw [ints_drop s 1 (by omega), hs]; rfl
  have hr1 : (s.extract 1 s.size).size = l.length := by rw [← ints_length, hid]
  have HIX : Hid (∀ (i : Nat) (W : World), i < l.length → (Instr.index 9 (.string (s.extract 1 s.size)) (.int .i64 (i : Int))).run Tryd.prog W = .ok (.int .u8 (l[i]?.getD 0)) W) := fun i W hi => by
    have := index_at (d := s.extract 1 s.size) (k := i) (by omega) W
    rw [hid] at this
    exact this
  obtain ⟨K, rfl⟩ : ∃ K : Nat, k = (K : Int) := ⟨k.toNat, by omega⟩
  have gl : ¬ (s.size : Int) ≤ (K : Int) := by omega
  have HEX : Hid (∀ a, a ≤ l.length → (s.extract 1 s.size).extract a (s.extract 1 s.size).size = s.extract (1 + a) s.size) := fun a ha => by
    apply ints_inj
    rw [ints_drop _ _ (by omega), hid, ints_drop _ _ (by omega), hs, show 1 + a = a + 1 by omega, List.drop_succ_cons]
  generalize hr1' : s.extract 1 s.size = r1 at *
  have HK : Hid ((K : Nat) ≤ l.length) := by show _ ≤ _; omega
  have HS : Hid (s.size = l.length + 1) := hz
  have HBY : Hid (Bytes l) := hby
  clear hz hs hid hr1' hby
  rw [Int.toNat_natCast] at hw ⊢
  have H4 : Hid (K ≤ 4) := by show _ ≤ _; have := U.lenB_yes hb; omega
  have HW : Hid (∀ W, Calls Tryd.prog 21 #[.int .i64 (big (l.take K)), .int .i64 (K : Int), .int .i64 next] W fun e w' => e = .returned (.tuple #[.int .i64 (U.near (big (l.take K)) (U.rnd K) next), .nilIface]) ∧ w' = W) := fun W => U.whole_yes _ _ next W hw
  have hsl2 := fun W => run_from r1 K (by have := HK.out; omega) (by have := HS.out; omega) W
  rw [HEX.out K HK.out] at hsl2
  clear hb h hw
  generalize U.near (big (l.take K)) (U.rnd K) next = N at *
  generalize s.extract (1 + K) s.size = r2 at *
  go_enter Tryd.func11, Tryd.ntmps11
  go_wp2_with fail
  go_quiet (fail)
  go_wp2_with fail
  go_loopw [9, 30] (fun c i wr => ∃ (j : Nat), j ≤ K ∧ i = .int .i64 (j : Int) ∧ c = .int .i64 (big (l.take j)) ∧ Hid (Below w.heap.size w wr)) (fun _ i _ => K - (intOf i).toNat)
  case atStart => exact ⟨0, Nat.zero_le _, rfl, rfl, below_drewN (Below.refl _ _) _⟩
  case round =>
    obtain ⟨j, hj, rfl, rfl, HB⟩ := hrel
    by_cases hlt : j < K
    · have g1 : (j : Int) < (K : Int) := by omega
      have hjl : j < l.length := by have := HK.out; omega
      have hix := fun W => HIX.out j W hjl
      have hbd := big_small HBY.out j (by omega) (by have := H4.out; omega)
      have HN : Hid (big (l.take (j + 1)) = 256 * big (l.take j) + l[j]?.getD 0) := big_next hjl
      have hy : 0 ≤ l[j]?.getD 0 ∧ l[j]?.getD 0 < 256 := by
        rw [List.getElem?_eq_getElem hjl]
        exact HBY.out _ (List.getElem_mem _)
      clear hjl
      generalize l[j]?.getD 0 = y at hix hy HN
      generalize big (l.take j) = z at hbd HN
      obtain ⟨y0, y1⟩ := hy
      obtain ⟨z0, z1⟩ := hbd
      have ho := V.or_byte z y z0 (by omega) y0 y1
      go_wp2_with fail
      exact ⟨⟨j + 1, by omega, by go_num, by rw [HN.out, Int.mul_comm], HB⟩, by simp [intOf]; omega⟩
    · have g1 : ¬ (j : Int) < (K : Int) := by omega
      obtain rfl : j = K := by omega
      have HWz := HW.out
      generalize big (l.take j) = z at HWz
      go_wp2_with (first | (go_at_call 21; refine (HWz _).mono ?_; rintro e w1 ⟨rfl, rfl⟩))
      go_quiet (fail)
      go_wp2_with fail
      go_ret3
      exact ⟨rfl, below_drewN HB.out _⟩

theorem own_shape {w : World} {B e size n : Nat} {v : Value} {xs : List Value} (h : w.ownsRow B e size v n xs) : ∃ a c, v = .slice a n c := by
  rcases h.2 with ⟨rfl, rfl⟩ | ⟨g, cap, cur, rfl, _⟩
  · exact ⟨none, 0, rfl⟩
  · exact ⟨_, cap, rfl⟩
theorem ownsRow_mono {w : World} {B B' e size n : Nat} {v : Value} {xs : List Value} (h : w.ownsRow B e size v n xs) (hb : B' ≤ B) : w.ownsRow B' e size v n xs :=
  ⟨h.1, h.2.imp id (fun ⟨g, cap, cur, a, b, c⟩ => ⟨g, cap, cur, a, Nat.le_trans hb b, c⟩)⟩
set_option maxRecDepth 100000 in
set_option maxHeartbeats 4000000 in
theorem tfr_nil (w : World) : Calls Tryd.prog 12 #[.string { data := #[] }] w fun e w' => e = .returned (.tuple #[.slice none 0 0, .iface 53 (.int .i64 2)]) ∧ Below w.heap.size w w' := by
  go_enter Tryd.func12, Tryd.ntmps12
  go_wp2_with fail
  go_ret2
  exact ⟨rfl, Below.refl _ _⟩
abbrev FrPost (s : ByteArray) (w : World) (e : Ending) (w' : World) : Prop :=
  ((fin (rdL s) = none ∧ e = .returned (.tuple #[.slice none 0 0, .iface 53 (.int .i64 2)])) ∨ (∃ l v us, fin (rdL s) = some l ∧ e = .returned (.tuple #[v, .nilIface]) ∧ FOwn w' w.heap.size v us l)) ∧ Below w.heap.size w w'
set_option maxRecDepth 100000 in
set_option maxHeartbeats 4000000 in
theorem tfr_some (s : ByteArray) (w : World) (hF : V.Forms w) (hC : Cnts w) (hl : s.size ≤ 200) (h0 : s.size ≠ 0) : Calls Tryd.prog 12 #[.string s] w (FrPost s w) := by
  obtain ⟨i0, hi, hz0, hz1, hz2⟩ := info_parts infoF
  have hne := str_ne (d := s) h0
  have HV : Hid (V.Forms w ∧ Cnts w) := ⟨hF, hC⟩
  have H0 : Hid (s.size ≠ 0) := h0
  have HL2 : Hid (s.size ≤ 200) := hl
  clear hF hC h0 hl
  go_enter Tryd.func12, Tryd.ntmps12
  go_wp2_with fail
  go_loopg [0, 4] s.size (fun gg s0 s4 wr => ∃ (r : ByteArray) (L : List F) (us : List Value), s0 = .string r ∧ r.size ≤ gg ∧ Hid (r.size ≤ 200) ∧ Hid (FOwn wr w.heap.size s4 us L) ∧ L.length ≤ 12 ∧ Hid (rdLA L r = rdL s) ∧ Hid (L.length = 0 → r.size ≠ 0) ∧ Hid (Below w.heap.size w wr))
  case atStart => exact ⟨s, [], [], rfl, Nat.le_refl _, HL2, FOwn.nil _ _, by simp, rdLA_start s, fun _ => H0.out, Below.refl _ _⟩
  case round =>
    obtain ⟨r, L, us, rfl, hg, HR2, HO, h12, HRD, HN0, HB⟩ := hrel
    obtain ⟨a4, c4, hs4⟩ := own_shape HO.out.own
    subst hs4
    have hr200 := HR2.out
    by_cases hr0 : r.size = 0
    · obtain rfl := str_nil hr0
      have hlen : 1 ≤ L.length := by
        by_cases e : L.length = 0
        · exact absurd hr0 (HN0.out e)
        · omega
      have HFN : Hid (fin (rdL s) = some L) := by
        show _ = _
        rw [← HRD.out, rdLA_nil hr0, fin_some hlen h12]
      go_wp2_with fail
      go_ret2
      exact ⟨.inr ⟨L, _, us, HFN.out, rfl, HO.out⟩, HB.out⟩
    · have hner := str_ne (d := r) hr0
      by_cases hfull : L.length = 12
      · have HFN : Hid (fin (rdL s) = none) := by
          show _ = _
          rw [← HRD.out, fin_full hfull hr0]
        rw [hfull] at *
        go_wp2_with fail
        go_ret2
        exact ⟨.inl ⟨HFN.out, rfl⟩, HB.out⟩
      · have gf : ¬ (L.length : Int) = 12 := by omega
        have hlm : r.size ≤ maxLen := by unfold maxLen; omega
        cases hf : rdF r with
        | none =>
          have HP := frame_parse_no r wr (HV.out.2.below HB.out) (HV.out.1.below HB.out) hlm hf
          have HFN : Hid (fin (rdL s) = none) := by
            show _ = _
            rw [← HRD.out, rdLA_none hr0 hf]; rfl
          simp only [noFrame, errS] at HP
          clear hf hlm
          generalize L.length = m at *
          go_wp2_with (first | (go_at_call 22; refine HP.mono ?_; rintro e w1 ⟨rfl, hb1⟩; have hB1 := HB.out.trans (hb1.mono HB.out.size)))
          go_ret2
          exact ⟨.inl ⟨HFN.out, rfl⟩, hB1.alloc hB1.size _⟩
        | some y =>
          obtain ⟨⟨kk, ns, d⟩, nn⟩ := y
          have HP := frame_parse_yes r wr (HV.out.2.below HB.out) (HV.out.1.below HB.out) hlm kk ns d nn hf
          obtain ⟨hgood, hn1, hn2⟩ := rdLA_good (L := L) hf
          have HG : Hid (fF (kk, ns, d) = 0) := hgood
          have HRD2 : Hid (rdLA (L ++ [(kk, ns, d)]) (r.extract nn r.size) = rdL s) := by
            show _ = _
            rw [← rdLA_some hr0 hf]; exact HRD.out
          have hsl := fun W => run_from r nn hn2 (by omega) W
          have hrs : (r.extract nn r.size).size = r.size - nn := by rw [ByteArray.size_extract]; omega
          have HM : Hid ((r.extract nn r.size).size < r.size) := by show _ < _; omega
          clear hf hlm hgood HRD
          generalize r.extract nn r.size = r2 at *
          clear hrs
          go_wp2_with fail
          refine HP.mono ?_
          rintro e w1 ⟨v1, rfl, ho1, hb1⟩
          obtain ⟨a1, c1, hv1⟩ := own_shape ho1
          subst hv1
          have hB1 := HB.out.trans (hb1.mono HB.out.size)
          have bel2 : Below w1.heap.size w1 (w1.alloc (.cells #[.int .i64 kk, .slice a1 ns.length c1, .string d] 33)) := (Below.refl _ w1).alloc (Nat.le_refl _) _
          have bel3 : Below w1.heap.size w1 ((w1.alloc (.cells #[.int .i64 kk, .slice a1 ns.length c1, .string d] 33)).alloc (.cells #[.int .i64 kk, .slice a1 ns.length c1, .string d] 33)) := bel2.alloc bel2.size _
          have hB3 := hB1.trans (bel3.mono hB1.size)
          have hO3 := (HO.out.below hb1).below bel3
          have ho3 := own_le (ho1.below bel3) HB.out.size
          have hcn := cells_frame_new (w1.alloc (.cells #[.int .i64 kk, .slice a1 ns.length c1, .string d] 33)) kk (.slice a1 ns.length c1) d 33
          have h1c := frame_one kk a1 ns.length c1 d
          have hsz3 : w.heap.size ≤ ((w1.alloc (.cells #[.int .i64 kk, .slice a1 ns.length c1, .string d] 33)).alloc (.cells #[.int .i64 kk, .slice a1 ns.length c1, .string d] 33)).heap.size := hB3.size
          have hszA : (w1.alloc (.cells #[.int .i64 kk, .slice a1 ns.length c1, .string d] 33)).heap.size = w1.heap.size + 1 := by simp
          rw [hszA] at hcn
          clear HP bel2 bel3 hB1 hszA
          go_wp2_with (at_builtin; refine wpList_append_own_at _ rfl (.tmp 26) (.tmp 28) 27 rfl w.heap.size 33 i0 _ 3 48 Tryd.underlying27 hi hz0 hz1 hz2 rfl (by decide) _ _ (fcs us L) rfl hO3.own ⟨w1.heap.size + 1, 0, none⟩ 1 1 [Value.int .i64 kk, .slice a1 ns.length c1, .string d] rfl rfl hcn h1c (by unfold maxLen; omega) (by omega) hsz3 ?_; intro v5 w5 ho5 hg5 _ hl5)
          have hO5 := hO3.app (f := (kk, ns, d)) ho3 HG.out ho5 hg5
          have hB5 := hB3.grown hg5 hsz3 (fun k e => (hO3.own.lt k e).1)
          go_roundg r2.size
          case measure => have := HM.out; omega
          case rel => exact ⟨r2, L ++ [(kk, ns, d)], us ++ [Value.slice a1 ns.length c1], rfl, Nat.le_refl _, (show _ ≤ _ by have := HM.out; omega), hO5, by rw [List.length_append]; simp; omega, HRD2.out, (fun e => by rw [List.length_append] at e; simp at e), hB5⟩
theorem tfr_calls (s : ByteArray) (w : World) (hF : V.Forms w) (hC : Cnts w) (hl : s.size ≤ 200) : Calls Tryd.prog 12 #[.string s] w (FrPost s w) := by
  by_cases h0 : s.size = 0
  · obtain rfl := str_nil h0
    exact (tfr_nil w).mono fun e w' hh => ⟨.inl ⟨by rw [rdL_nil h0]; rfl, hh.1⟩, hh.2⟩
  · exact tfr_some s w hF hC hl h0
theorem tfr_no (s : ByteArray) (w : World) (hF : V.Forms w) (hC : Cnts w) (hl : s.size ≤ 200) (h : fin (rdL s) = none) : Calls Tryd.prog 12 #[.string s] w fun e w' => e = .returned (.tuple #[.slice none 0 0, .iface 53 (.int .i64 2)]) ∧ Below w.heap.size w w' := by
  refine (tfr_calls s w hF hC hl).mono ?_
  rintro e w' ⟨⟨_, rfl⟩ | ⟨l, v, us, h1, _⟩, hb⟩
  · exact ⟨rfl, hb⟩
  · rw [h] at h1; cases h1
theorem tfr_yes (s : ByteArray) (w : World) (hF : V.Forms w) (hC : Cnts w) (hl : s.size ≤ 200) (l : List F) (h : fin (rdL s) = some l) : Calls Tryd.prog 12 #[.string s] w fun e w' => ∃ v us, e = .returned (.tuple #[v, .nilIface]) ∧ FOwn w' w.heap.size v us l ∧ Below w.heap.size w w' := by
  refine (tfr_calls s w hF hC hl).mono ?_
  rintro e w' ⟨⟨h1, _⟩ | ⟨l', v, us, h1, rfl, ho⟩, hb⟩
  · rw [h] at h1; cases h1
  · rw [h] at h1; cases h1
    exact ⟨v, us, rfl, ho, hb⟩
theorem tnum_calls (s : ByteArray) (next : Int) (w : World) (hl : s.size ≤ 200) : Calls Tryd.prog 11 #[.string s, .int .i64 next] w fun e w' => ((rdN s next = none ∧ e = .returned (.tuple #[.int .i64 0, .string { data := #[] }, .iface 53 (.int .i64 2)])) ∨ (∃ n c, rdN s next = some (n, c) ∧ e = .returned (.tuple #[.int .i64 n, .string (s.extract c s.size), .nilIface]))) ∧ Below w.heap.size w w' := by
  unfold rdN
  cases hs : V.ints s with
  | nil =>
    obtain rfl : s = { data := #[] } := str_nil (by rw [← ints_length, hs]; rfl)
    exact (tnum_nil next w).mono fun e w' hh => ⟨.inl ⟨rfl, hh.1⟩, hh.2⟩
  | cons k l =>
    simp only
    by_cases h : (l.length : Int) < k
    · rw [if_pos (Or.inr h)]
      exact (tnum_short s next k l w hs hl h).mono fun e w' hh => ⟨.inl ⟨rfl, hh.1⟩, hh.2⟩
    · cases hb : U.lenB k with
      | false =>
        rw [if_pos (Or.inl rfl)]
        exact (tnum_bad s next k l w hs hl h hb).mono fun e w' hh => ⟨.inl ⟨rfl, hh.1⟩, hh.2⟩
      | true =>
        rw [if_neg (fun hh => by rcases hh with e | e; cases e; exact h e)]
        cases hw : U.wholeB (big (l.take k.toNat)) k next with
        | false =>
          rw [if_pos rfl]
          exact (tnum_no s next k l w hs hl h hb hw).mono fun e w' hh => ⟨.inl ⟨rfl, hh.1⟩, hh.2⟩
        | true =>
          rw [if_neg (by decide)]
          exact (tnum_yes s next k l w hs hl h hb hw).mono fun e w' hh => ⟨.inr ⟨_, _, rfl, hh.1⟩, hh.2⟩
theorem tnum_none (s : ByteArray) (next : Int) (w : World) (hl : s.size ≤ 200) (h : rdN s next = none) : Calls Tryd.prog 11 #[.string s, .int .i64 next] w fun e w' => e = .returned (.tuple #[.int .i64 0, .string { data := #[] }, .iface 53 (.int .i64 2)]) ∧ Below w.heap.size w w' := by
  refine (tnum_calls s next w hl).mono ?_
  rintro e w' ⟨⟨_, rfl⟩ | ⟨n, c, h1, _⟩, hb⟩
  · exact ⟨rfl, hb⟩
  · rw [h] at h1; cases h1
theorem tnum_some (s : ByteArray) (next : Int) (w : World) (hl : s.size ≤ 200) (n : Int) (c : Nat) (h : rdN s next = some (n, c)) : Calls Tryd.prog 11 #[.string s, .int .i64 next] w fun e w' => e = .returned (.tuple #[.int .i64 n, .string (s.extract c s.size), .nilIface]) ∧ Below w.heap.size w w' := by
  refine (tnum_calls s next w hl).mono ?_
  rintro e w' ⟨⟨h1, _⟩ | ⟨n', c', h1, rfl⟩, hb⟩
  · rw [h] at h1; cases h1
  · rw [h] at h1; cases h1
    exact ⟨rfl, hb⟩
set_option maxRecDepth 100000 in
set_option maxHeartbeats 4000000 in
theorem pparse_a (s : ByteArray) (next : Int) (w : World) (h : next < 0) : Calls Tryd.prog 5 #[.string s, .int .i64 next] w fun e w' => e = .returned (.tuple #[.int .i64 0, .slice none 0 0, .iface 53 (.int .i64 1)]) ∧ Below w.heap.size w w' := by
  go_enter Tryd.func5, Tryd.ntmps5
  go_wp2_with fail
  go_ret3
  exact ⟨rfl, Below.refl _ _⟩
set_option maxRecDepth 100000 in
set_option maxHeartbeats 4000000 in
theorem pparse_b (s : ByteArray) (next : Int) (w : World) (h0 : ¬ next < 0) (h : 1073741823 < next) : Calls Tryd.prog 5 #[.string s, .int .i64 next] w fun e w' => e = .returned (.tuple #[.int .i64 0, .slice none 0 0, .iface 53 (.int .i64 1)]) ∧ Below w.heap.size w w' := by
  go_enter Tryd.func5, Tryd.ntmps5
  go_wp2_with fail
  go_ret3
  exact ⟨rfl, Below.refl _ _⟩
set_option maxRecDepth 100000 in
set_option maxHeartbeats 4000000 in
theorem pparse_c (s : ByteArray) (next : Int) (w : World) (hm : U.mayB next = true) (h : 200 < s.size) (hl : s.size ≤ 9223372036854775807) : Calls Tryd.prog 5 #[.string s, .int .i64 next] w fun e w' => e = .returned (.tuple #[.int .i64 0, .slice none 0 0, .iface 53 (.int .i64 4)]) ∧ Below w.heap.size w w' := by
  obtain ⟨n0, n1⟩ := U.mayB_yes hm
  have g0 : ¬ next < 0 := by omega
  have g1 : ¬ (1073741823 : Int) < next := by omega
  have g2 : (200 : Int) < (s.size : Int) := by omega
  clear hm
  go_enter Tryd.func5, Tryd.ntmps5
  go_wp2_with fail
  go_ret3
  exact ⟨rfl, Below.refl _ _⟩
set_option maxRecDepth 100000 in
set_option maxHeartbeats 4000000 in
theorem pparse_d (s : ByteArray) (next : Int) (w : World) (hm : U.mayB next = true) (hl : s.size ≤ 200) (h : rdN s next = none) : Calls Tryd.prog 5 #[.string s, .int .i64 next] w fun e w' => e = .returned (.tuple #[.int .i64 0, .slice none 0 0, .iface 53 (.int .i64 2)]) ∧ Below w.heap.size w w' := by
  obtain ⟨n0, n1⟩ := U.mayB_yes hm
  have g0 : ¬ next < 0 := by omega
  have g1 : ¬ (1073741823 : Int) < next := by omega
  have g2 : ¬ (200 : Int) < (s.size : Int) := by omega
  have tl : s.size ≤ 9223372036854775807 := by omega
  have HN := tnum_none s next w hl h
  clear hm hl h
  go_enter Tryd.func5, Tryd.ntmps5
  go_wp2_with (first | (go_at_call 11; refine HN.mono ?_; rintro e w1 ⟨rfl, hb1⟩))
  go_ret3
  exact ⟨rfl, hb1⟩
set_option maxRecDepth 100000 in
set_option maxHeartbeats 4000000 in
theorem pparse_e (s : ByteArray) (next : Int) (w : World) (hF : V.Forms w) (hC : Cnts w) (hm : U.mayB next = true) (hl : s.size ≤ 200) (n : Int) (c : Nat) (h : rdN s next = some (n, c)) (h2 : fin (rdL (s.extract c s.size)) = none) : Calls Tryd.prog 5 #[.string s, .int .i64 next] w fun e w' => e = .returned (.tuple #[.int .i64 0, .slice none 0 0, .iface 53 (.int .i64 2)]) ∧ Below w.heap.size w w' := by
  obtain ⟨n0, n1⟩ := U.mayB_yes hm
  have g0 : ¬ next < 0 := by omega
  have g1 : ¬ (1073741823 : Int) < next := by omega
  have g2 : ¬ (200 : Int) < (s.size : Int) := by omega
  have tl : s.size ≤ 9223372036854775807 := by omega
  have HN := tnum_some s next w hl n c h
  have hr : (s.extract c s.size).size ≤ 200 := by rw [ByteArray.size_extract]; omega
  have HT := fun W (hb : Below w.heap.size w W) => tfr_no (s.extract c s.size) W (hF.below hb) (hC.below hb) hr h2
  clear hm hl h h2 hF hC hr
  generalize s.extract c s.size = r at *
  go_enter Tryd.func5, Tryd.ntmps5
  go_wp2_with (first | (go_at_call 11; refine HN.mono ?_; rintro e w1 ⟨rfl, hb1⟩) | (go_at_call 12; refine (HT _ hb1).mono ?_; rintro e w2 ⟨rfl, hb2⟩; have hB2 := hb1.trans (hb2.mono hb1.size)))
  go_ret3
  exact ⟨rfl, hB2⟩
set_option maxRecDepth 100000 in
set_option maxHeartbeats 4000000 in
theorem pparse_f (s : ByteArray) (next : Int) (w : World) (hF : V.Forms w) (hC : Cnts w) (hm : U.mayB next = true) (hl : s.size ≤ 200) (n : Int) (c : Nat) (h : rdN s next = some (n, c)) (l : List F) (h2 : fin (rdL (s.extract c s.size)) = some l) : Calls Tryd.prog 5 #[.string s, .int .i64 next] w fun e w' => ∃ v us, e = .returned (.tuple #[.int .i64 n, v, .nilIface]) ∧ FOwn w' w.heap.size v us l ∧ Below w.heap.size w w' := by
  obtain ⟨n0, n1⟩ := U.mayB_yes hm
  have g0 : ¬ next < 0 := by omega
  have g1 : ¬ (1073741823 : Int) < next := by omega
  have g2 : ¬ (200 : Int) < (s.size : Int) := by omega
  have tl : s.size ≤ 9223372036854775807 := by omega
  have HN := tnum_some s next w hl n c h
  have hr : (s.extract c s.size).size ≤ 200 := by rw [ByteArray.size_extract]; omega
  have HT := fun W (hb : Below w.heap.size w W) => tfr_yes (s.extract c s.size) W (hF.below hb) (hC.below hb) hr l h2
  clear hm hl h h2 hF hC hr
  generalize s.extract c s.size = r at *
  go_enter Tryd.func5, Tryd.ntmps5
  go_wp2_with (first | (go_at_call 11; refine HN.mono ?_; rintro e w1 ⟨rfl, hb1⟩) | (go_at_call 12; refine (HT _ hb1).mono ?_; rintro e w2 ⟨v, us, rfl, ho, hb2⟩; obtain ⟨av, cv, hv⟩ := own_shape ho.own; subst hv; have hB2 := hb1.trans (hb2.mono hb1.size)))
  go_ret3
  exact ⟨_, us, rfl, ⟨ho.len, ownsRow_mono ho.own hb1.size, fun j hj => own_le (ho.rows j hj) hb1.size, ho.good⟩, hB2⟩
theorem opF_no {s : ByteArray} {next : Int} (h : opF s next ≠ 0) : (U.mayB next = false ∧ opF s next = 1) ∨ (U.mayB next = true ∧ 200 < s.size ∧ opF s next = 4) ∨ (U.mayB next = true ∧ s.size ≤ 200 ∧ rdP s next = none ∧ opF s next = 2) := by
  unfold opF at h ⊢
  cases hm : U.mayB next with
  | false => exact .inl ⟨rfl, by simp⟩
  | true =>
    rw [hm] at h
    simp only [Bool.true_eq_false, if_false] at h ⊢
    by_cases h1 : 200 < s.size
    · exact .inr (.inl ⟨trivial, h1, by rw [if_pos h1]⟩)
    · rw [if_neg h1] at h ⊢
      by_cases h2 : rdP s next = none
      · exact .inr (.inr ⟨trivial, by omega, h2, by rw [if_pos h2]⟩)
      · rw [if_neg h2] at h; exact absurd rfl h
theorem opF_yes {s : ByteArray} {next : Int} (h : opF s next = 0) : U.mayB next = true ∧ s.size ≤ 200 ∧ ∃ n l, rdP s next = some (n, l) := by
  unfold opF at h
  cases hm : U.mayB next with
  | false => rw [hm] at h; simp at h
  | true =>
    rw [hm] at h
    simp only [Bool.true_eq_false, if_false] at h
    by_cases h1 : 200 < s.size
    · rw [if_pos h1] at h; cases h
    · rw [if_neg h1] at h
      cases h2 : rdP s next with
      | none => rw [if_pos h2] at h; cases h
      | some x => exact ⟨rfl, by omega, x.1, x.2, rfl⟩
theorem opF_zero {s : ByteArray} {next n : Int} {l : List F} (hm : U.mayB next = true) (hl : s.size ≤ 200) (h : rdP s next = some (n, l)) : opF s next = 0 := by
  unfold opF
  rw [if_neg (by rw [hm]; decide), if_neg (by omega), if_neg (by rw [h]; simp)]
theorem rdP_no {s : ByteArray} {next : Int} (h : rdP s next = none) : rdN s next = none ∨ ∃ n c, rdN s next = some (n, c) ∧ fin (rdL (s.extract c s.size)) = none := by
  unfold rdP at h
  cases h1 : rdN s next with
  | none => exact .inl rfl
  | some x =>
    obtain ⟨n, c⟩ := x
    rw [h1, Option.bind_some] at h
    cases h2 : fin (rdL (s.extract c s.size)) with
    | none => exact .inr ⟨n, c, rfl, h2⟩
    | some l => rw [h2] at h; cases h
theorem rdP_yes {s : ByteArray} {next n : Int} {l : List F} (h : rdP s next = some (n, l)) : ∃ c, rdN s next = some (n, c) ∧ fin (rdL (s.extract c s.size)) = some l := by
  unfold rdP at h
  cases h1 : rdN s next with
  | none => rw [h1] at h; cases h
  | some x =>
    obtain ⟨n', c⟩ := x
    rw [h1, Option.bind_some] at h
    cases h2 : fin (rdL (s.extract c s.size)) with
    | none => rw [h2] at h; cases h
    | some l' =>
      rw [h2] at h
      simp only [Option.map_some, Option.some.injEq, Prod.mk.injEq] at h
      obtain ⟨rfl, rfl⟩ := h
      exact ⟨c, rfl, h2⟩
theorem pkt_parse_no (s : ByteArray) (next : Int) (w : World) (hF : V.Forms w) (hC : Cnts w) (hl : s.size ≤ 9223372036854775807) (h : opF s next ≠ 0) : Calls Tryd.prog 5 #[.string s, .int .i64 next] w fun e w' => e = .returned (.tuple #[.int .i64 0, .slice none 0 0, errV (opF s next)]) ∧ Below w.heap.size w w' := by
  rcases opF_no h with ⟨hm, e⟩ | ⟨hm, h1, e⟩ | ⟨hm, h1, h2, e⟩
  · rw [e]
    rcases U.mayB_no hm with h | h
    · exact pparse_a s next w h
    · exact pparse_b s next w (by omega) h
  · rw [e]; exact pparse_c s next w hm h1 hl
  · rw [e]
    rcases rdP_no h2 with h3 | ⟨n, c, h3, h4⟩
    · exact pparse_d s next w hm h1 h3
    · exact pparse_e s next w hF hC hm h1 n c h3 h4
theorem pkt_parse_yes (s : ByteArray) (next : Int) (w : World) (hF : V.Forms w) (hC : Cnts w) (hm : U.mayB next = true) (hl : s.size ≤ 200) (n : Int) (l : List F) (h : rdP s next = some (n, l)) : Calls Tryd.prog 5 #[.string s, .int .i64 next] w fun e w' => ∃ v us, e = .returned (.tuple #[.int .i64 n, v, .nilIface]) ∧ FOwn w' w.heap.size v us l ∧ Below w.heap.size w w' := by
  obtain ⟨c, h1, h2⟩ := rdP_yes h
  exact pparse_f s next w hF hC hm hl n c h1 l h2
end Go.Proofs.YtoabfilliiopmaaDoor
