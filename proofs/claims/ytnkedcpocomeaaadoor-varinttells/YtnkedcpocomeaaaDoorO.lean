/- The document's Get, said over the bytes as numbers; the walk of the law VarintTells. -/
import Derived.Test.YtnkedcpocomeaaaDoorJ
import Derived.Test.YtnkedcpocomeaaaDoorK
import Derived.Test.YtnkedcpocomeaaaDoorM
namespace Go.Proofs.YtnkedcpocomeaaaDoor
open Go.RowKit Go.Lib
set_option linter.unusedVariables false

theorem ret_tup {a b : Int} {k : Int} {t : Bool} (h : a = b) : Ending.returned (.tuple #[.int .i64 a, .int .i64 k, .bool t]) = .returned (.tuple #[.int .i64 b, .int .i64 k, .bool t]) := by rw [h]

set_option maxHeartbeats 1000000 in
theorem rget_all (s : ByteArray) (w : World) (hl : s.size ≤ maxLen) :
    Calls Tryd.prog 12 #[.string s] w fun e w' => e = .returned (getRV (getI (ints s))) ∧ Below w.heap.size w w' := by
  obtain ⟨⟨l⟩⟩ := s
  match l, hl with
  | [], hl => exact rget_empty _ w rfl
  | b0 :: r, hl =>
    have hp : 0 < (⟨⟨b0 :: r⟩⟩ : ByteArray).size := Nat.succ_pos _
    by_cases a0 : (b0.toNat : Int) < 64
    · have e : getI (ints ⟨⟨b0 :: r⟩⟩) = some ((b0.toNat : Int), 1) := by simp [ints, getI, a0]
      rw [e]
      exact (rget_0 ⟨⟨b0 :: r⟩⟩ w hl hp a0).mono fun _ _ ⟨he, hb⟩ => ⟨he.trans (ret_tup (show (b0.toNat : Int) % (64 : Int) = (b0.toNat : Int) by omega)), hb⟩
    · by_cases a1 : (b0.toNat : Int) < 128
      · match r, hl, hp with
        | [], hl, hp =>
          have e : getI (ints ⟨⟨[b0]⟩⟩) = none := by simp [ints, getI, a0, a1]
          rw [e]
          exact (rget_b1short ⟨⟨[b0]⟩⟩ w hl hp (Nat.lt_succ_self 1) (show (64 : Int) ≤ (b0.toNat : Int) by omega) a1).mono fun _ _ ⟨he, hb⟩ => ⟨he, hb⟩
        | b1 :: r, hl, hp =>
          have hp1 : 1 < (⟨⟨b0 :: b1 :: r⟩⟩ : ByteArray).size := Nat.succ_lt_succ (Nat.succ_pos _)
          by_cases c : (b0.toNat : Int) * 256 + (b1.toNat : Int) - 16384 < 64
          · have e : getI (ints ⟨⟨b0 :: b1 :: r⟩⟩) = none := by simp [ints, getI, a0, a1, c]
            rw [e]
            exact (rget_1no ⟨⟨b0 :: b1 :: r⟩⟩ w hl hp1 (show (64 : Int) ≤ (b0.toNat : Int) by omega) a1 (show (256 : Int) * ((b0.toNat : Int) % (64 : Int)) + (b1.toNat : Int) < 64 by omega)).mono fun _ _ ⟨he, hb⟩ => ⟨he, hb⟩
          · have e : getI (ints ⟨⟨b0 :: b1 :: r⟩⟩) = some ((b0.toNat : Int) * 256 + (b1.toNat : Int) - 16384, 2) := by simp [ints, getI, a0, a1, c]
            rw [e]
            exact (rget_1 ⟨⟨b0 :: b1 :: r⟩⟩ w hl hp1 (show (64 : Int) ≤ (b0.toNat : Int) by omega) a1 (show (64 : Int) ≤ (256 : Int) * ((b0.toNat : Int) % (64 : Int)) + (b1.toNat : Int) by omega)).mono fun _ _ ⟨he, hb⟩ => ⟨he.trans (ret_tup (show (256 : Int) * ((b0.toNat : Int) % (64 : Int)) + (b1.toNat : Int) = (b0.toNat : Int) * 256 + (b1.toNat : Int) - 16384 by omega)), hb⟩
      · by_cases a2 : (b0.toNat : Int) < 192
        · match r, hl, hp with
          | b1 :: b2 :: b3 :: r, hl, hp =>
            have hp3 : 3 < (⟨⟨b0 :: b1 :: b2 :: b3 :: r⟩⟩ : ByteArray).size := Nat.succ_lt_succ (Nat.succ_lt_succ (Nat.succ_lt_succ (Nat.succ_pos _)))
            by_cases c : (((b0.toNat : Int) * 256 + (b1.toNat : Int)) * 256 + (b2.toNat : Int)) * 256 + (b3.toNat : Int) - 2147483648 < 16384
            · have e : getI (ints ⟨⟨b0 :: b1 :: b2 :: b3 :: r⟩⟩) = none := by simp [ints, getI, a0, a1, a2, c]
              rw [e]
              exact (rget_2no ⟨⟨b0 :: b1 :: b2 :: b3 :: r⟩⟩ w hl hp3 (show (128 : Int) ≤ (b0.toNat : Int) by omega) a2 (show (256 : Int) * ((256 : Int) * ((256 : Int) * ((b0.toNat : Int) % (64 : Int)) + (b1.toNat : Int)) + (b2.toNat : Int)) + (b3.toNat : Int) < 16384 by omega)).mono fun _ _ ⟨he, hb⟩ => ⟨he, hb⟩
            · have e : getI (ints ⟨⟨b0 :: b1 :: b2 :: b3 :: r⟩⟩) = some ((((b0.toNat : Int) * 256 + (b1.toNat : Int)) * 256 + (b2.toNat : Int)) * 256 + (b3.toNat : Int) - 2147483648, 4) := by simp [ints, getI, a0, a1, a2, c]
              rw [e]
              exact (rget_2 ⟨⟨b0 :: b1 :: b2 :: b3 :: r⟩⟩ w hl hp3 (show (128 : Int) ≤ (b0.toNat : Int) by omega) a2 (show (16384 : Int) ≤ (256 : Int) * ((256 : Int) * ((256 : Int) * ((b0.toNat : Int) % (64 : Int)) + (b1.toNat : Int)) + (b2.toNat : Int)) + (b3.toNat : Int) by omega)).mono fun _ _ ⟨he, hb⟩ => ⟨he.trans (ret_tup (show (256 : Int) * ((256 : Int) * ((256 : Int) * ((b0.toNat : Int) % (64 : Int)) + (b1.toNat : Int)) + (b2.toNat : Int)) + (b3.toNat : Int) = (((b0.toNat : Int) * 256 + (b1.toNat : Int)) * 256 + (b2.toNat : Int)) * 256 + (b3.toNat : Int) - 2147483648 by omega)), hb⟩
          | [], hl, hp =>
            have e : getI (ints ⟨⟨[b0]⟩⟩) = none := by simp [ints, getI, a0, a1]
            rw [e]
            exact (rget_b2short ⟨⟨[b0]⟩⟩ w hl hp (show 1 < 4 by decide) (show (128 : Int) ≤ (b0.toNat : Int) by omega) a2).mono fun _ _ ⟨he, hb⟩ => ⟨he, hb⟩
          | [b1], hl, hp =>
            have e : getI (ints ⟨⟨[b0, b1]⟩⟩) = none := by simp [ints, getI, a0, a1]
            rw [e]
            exact (rget_b2short ⟨⟨[b0, b1]⟩⟩ w hl hp (show 2 < 4 by decide) (show (128 : Int) ≤ (b0.toNat : Int) by omega) a2).mono fun _ _ ⟨he, hb⟩ => ⟨he, hb⟩
          | [b1, b2], hl, hp =>
            have e : getI (ints ⟨⟨[b0, b1, b2]⟩⟩) = none := by simp [ints, getI, a0, a1]
            rw [e]
            exact (rget_b2short ⟨⟨[b0, b1, b2]⟩⟩ w hl hp (show 3 < 4 by decide) (show (128 : Int) ≤ (b0.toNat : Int) by omega) a2).mono fun _ _ ⟨he, hb⟩ => ⟨he, hb⟩
        · have e : getI (ints ⟨⟨b0 :: r⟩⟩) = none := by simp [ints, getI, a0, a1, a2]
          rw [e]
          exact (rget_b3 ⟨⟨b0 :: r⟩⟩ w hl hp (show (192 : Int) ≤ (b0.toNat : Int) by omega)).mono fun _ _ ⟨he, hb⟩ => ⟨he, hb⟩

theorem allS_snoc (zs : List Int) (k : Nat) (h : k < zs.length) : allS (zs.take (k + 1)) = allS (zs.take k) ++ strOfNums (nums (zs[k]?.getD 0)) := by
  rw [take_snoc zs k h]
  apply ByteArray.ext
  simp [allS, strOfNums]
theorem bytes_same (s : ByteArray) : (s.toList == s.toList) = true := by simp

set_option maxRecDepth 100000 in
set_option maxHeartbeats 8000000 in
theorem tells_ttl (n : Int) (b : ByteArray) (a : Option Addr) (len cap : Nat) (zs : List Int) (w : World) (hF : Forms w) (hH : Handle w) (hI : IntsAt w a len zs) (hlm : len ≤ maxLen) (hbl : b.size ≤ maxLen) (hn : mayB n = true) (gx gk : Int) (hg : getI (ints b) = some (gx, gk)) (h40 : len ≤ 40) :
    Calls Tryd.prog 3 #[.int .i64 n, .string b, .slice a len cap] w fun e w' => e = .returned (.bool true) ∧ Below w.heap.size w w' := by
  have h40' : ¬ (40 : Int) < (len : Int) := by omega
  have hB0 : Below w.heap.size w w := Below.refl _ _
  have hbs := bytes_same (strOfNums (nums n))
  go_enter Tryd.func3, Tryd.ntmps3
  go_wp2_with fail
  refine (may_ref n _).mono ?_
  rintro e wq ⟨rfl, hq⟩
  subst hq
  rw [hn]
  go_wp2_with fail
  refine (bytes_ref n _ hn).mono ?_
  rintro e w1 ⟨rfl, hb1⟩
  have hB1 := hB0.trans (hb1.mono hB0.size)
  have hF1 := hF.below hB1
  have hH1 := hH.below hB1
  go_wp2_with fail
  refine (long_ref n _).mono ?_
  rintro e wq ⟨rfl, hq⟩
  subst hq
  go_wp2_with fail
  refine (put_yes n _ hF1 hn).mono ?_
  rintro e w2 ⟨rfl, hb2⟩
  have hB2 := hB1.trans (hb2.mono hB1.size)
  have hF2 := hF.below hB2
  have hH2 := hH.below hB2
  go_wp2_with fail
  refine (same_nil 0 _).mono ?_
  rintro e w3 ⟨rfl, hb3⟩
  have hB3 := hB2.trans (hb3.mono hB2.size)
  have hF3 := hF.below hB3
  have hH3 := hH.below hB3
  rw [show ((0 : Int) == 0) = true from rfl]
  go_wp2_with fail
  refine (long_yes n _ hF3 hn).mono ?_
  rintro e w4 ⟨rfl, hb4⟩
  have hB4 := hB3.trans (hb4.mono hB3.size)
  have hF4 := hF.below hB4
  have hH4 := hH.below hB4
  go_wp2_with fail
  refine (same_nil 0 _).mono ?_
  rintro e w5 ⟨rfl, hb5⟩
  have hB5 := hB4.trans (hb5.mono hB4.size)
  have hF5 := hF.below hB5
  have hH5 := hH.below hB5
  rw [show ((0 : Int) == 0) = true from rfl]
  have hll : (lng n == lng n) = true := by simp
  go_wp2_with fail
  refine (rget_all b _ hbl).mono ?_
  rintro e w6 ⟨rfl, hb6⟩
  have hB6 := hB5.trans (hb6.mono hB5.size)
  have hF6 := hF.below hB6
  have hH6 := hH.below hB6
  rw [hg]
  dsimp only [getRV]
  go_wp2_with fail
  refine (get_all b _ hF6 hbl).mono ?_
  rintro e w7 ⟨rfl, hb7⟩
  have hB7 := hB6.trans (hb7.mono hB6.size)
  have hF7 := hF.below hB7
  have hH7 := hH.below hB7
  rw [hg]
  dsimp only [getV]
  go_wp2_with fail
  refine (same_nil 0 _).mono ?_
  rintro e w8 ⟨rfl, hb8⟩
  have hB8 := hB7.trans (hb8.mono hB7.size)
  have hF8 := hF.below hB8
  have hH8 := hH.below hB8
  rw [show ((0 : Int) == 0) = true from rfl]
  have hx1 : (gx == gx) = true := by simp
  have hx2 : (gk == gk) = true := by simp
  go_wp2_with fail
  go_loopw [7, 8, 22] (fun e s i wr => ∃ k : Nat, k ≤ len ∧ i = .int .i64 k ∧ ((e = .int .i64 0 ∧ s = .string (allS (zs.take k)) ∧ (zs.take k).all mayB = true) ∨ (e = .int .i64 1 ∧ s = .string { data := #[] } ∧ zs.all mayB = false)) ∧ Below w.heap.size w wr) (fun _ _ i _ => len - (intOf i).toNat)
  case atStart => exact ⟨0, Nat.zero_le _, rfl, .inl ⟨rfl, rfl, rfl⟩, hB8⟩
  case round =>
    obtain ⟨k, hk, rfl, hst, hB⟩ := hrel
    have hFr := hF.below hB
    have hHr := hH.below hB
    rcases hst with ⟨rfl, rfl, hall⟩ | ⟨rfl, rfl, hbad⟩
    · by_cases hlt : k < len
      · rcases hI.2 with h0 | ⟨ba, off, rfl, hba, hc⟩
        · omega
        have hl := hI.1
        have hkl : k < zs.length := by omega
        have hcx : wr.cell? ⟨ba, off + k, none⟩ = some (.int .i64 (zs[k]?.getD 0)) := (hB.cell (p := ⟨ba, off + k, none⟩) hba).trans (hc k hlt)
        have HS : Hid (allS (zs.take (k + 1)) = allS (zs.take k) ++ strOfNums (nums (zs[k]?.getD 0))) := allS_snoc zs k hkl
        have HA : Hid (mayB (zs[k]?.getD 0) = true → (zs.take (k + 1)).all mayB = true) := by
          show mayB (zs[k]?.getD 0) = true → (zs.take (k + 1)).all mayB = true
          intro hz
          rw [take_snoc zs k hkl, List.all_append, hall]
          simp [hz]
        have HM : Hid (zs[k]?.getD 0 ∈ zs) := by
          show zs[k]?.getD 0 ∈ zs
          simp [hkl]
        have g1 : (k : Int) < (len : Int) := by omega
        have hsz1 : (allS (zs.take k)).size ≤ 160 := by
          have := allS_size (zs.take k)
          rw [List.length_take] at this
          omega
        have hsz2 : (strOfNums (nums (zs[k]?.getD 0))).size ≤ 4 := by rw [strOfNums_size]; exact nums_length_le _
        clear hl hkl hall hc
        generalize zs[k]?.getD 0 = z at *
        cases hz : mayB z with
        | true =>
          have HA1 : Hid ((zs.take (k + 1)).all mayB = true) := HA.out hz
          clear HA
          obtain ⟨so, hso⟩ : ∃ so, allS (zs.take k) = so := ⟨_, rfl⟩
          rw [hso] at HS hsz1 ⊢
          clear hso
          go_wp2_with fail
          refine (may_ref z _).mono ?_
          rintro e wq ⟨rfl, hq⟩
          subst hq
          rw [hz]
          go_wp2_with fail
          refine (bytes_ref z _ hz).mono ?_
          rintro e w9 ⟨rfl, hb9⟩
          have hB9 := hB.trans (hb9.mono hB.size)
          clear hz
          go_wp2_with fail
          exact ⟨⟨k + 1, by omega, by go_num, .inl ⟨rfl, by rw [HS.out], HA1.out⟩, hB9⟩, by simp [intOf]; omega⟩
        | false =>
          have HB : Hid (zs.all mayB = false) := by
            show zs.all mayB = false
            cases h : zs.all mayB with
            | false => rfl
            | true => have := List.all_eq_true.1 h _ HM.out; rw [hz] at this; cases this
          go_wp2_with fail
          refine (may_ref z _).mono ?_
          rintro e wq ⟨rfl, hq⟩
          subst hq
          rw [hz]
          clear hz HA
          go_wp2_with fail
          exact ⟨⟨k + 1, by omega, by go_num, .inr ⟨rfl, rfl, HB.out⟩, hB⟩, by simp [intOf]; omega⟩
      · have hl := hI.1
        obtain rfl : k = len := by omega
        have e1 : zs.take k = zs := List.take_of_length_le (by omega)
        have HOK : Hid (allOk zs = true) := by
          show allOk zs = true
          rw [e1] at hall
          simp only [allOk, hall, Bool.and_true, decide_eq_true_eq]
          omega
        rw [e1]
        clear hall e1 hl
        go_wp2_with fail
        refine (all_any a k cap zs _ hFr (hI.below hB) (by omega)).mono ?_
        rintro e w9 ⟨⟨hok, rfl⟩ | ⟨hok, rfl⟩, hb9⟩
        · have hB9 := hB.trans (hb9.mono hB.size)
          clear hok
          go_wp2_with fail
          refine (same_nil 0 _).mono ?_
          rintro e w10 ⟨rfl, hb10⟩
          have hB10 := hB9.trans (hb10.mono hB9.size)
          rw [show ((0 : Int) == 0) = true from rfl]
          have hss := bytes_same (allS zs)
          go_wp2_with fail
          go_ret
          exact ⟨rfl, hB10⟩
        · exfalso
          rw [HOK.out] at hok
          cases hok
    · have HOK : Hid (allOk zs = false ∧ allErr zs = 1) := by
        show allOk zs = false ∧ allErr zs = 1
        have hl := hI.1
        refine ⟨by simp [allOk, hbad], by simp [allErr]; omega⟩
      clear hbad
      by_cases hlt : k < len
      all_goals
        go_wp2_with fail
        refine (all_any a len cap zs _ hFr (hI.below hB) (by omega)).mono ?_
        rintro e w9 ⟨⟨hok, rfl⟩ | ⟨hok, rfl⟩, hb9⟩
        · exfalso
          rw [HOK.out.1] at hok
          cases hok
        · have hB9 := hB.trans (hb9.mono hB.size)
          have hH9 := hH.below hB9
          rw [HOK.out.2]
          clear hok
          go_wp2_with fail
          refine (same_err 1 1 _ hH9).mono ?_
          rintro e w10 ⟨rfl, hb10⟩
          have hB10 := hB9.trans (hb10.mono hB9.size)
          rw [show ((1 : Int) == 1) = true from rfl]
          go_wp2_with fail
          go_ret
          exact ⟨rfl, hB10⟩

set_option maxRecDepth 100000 in
set_option maxHeartbeats 8000000 in
theorem tells_ttf (n : Int) (b : ByteArray) (a : Option Addr) (len cap : Nat) (zs : List Int) (w : World) (hF : Forms w) (hH : Handle w) (hI : IntsAt w a len zs) (hlm : len ≤ maxLen) (hbl : b.size ≤ maxLen) (hn : mayB n = true) (gx gk : Int) (hg : getI (ints b) = some (gx, gk)) (h40 : (40 : Int) < (len : Int)) :
    Calls Tryd.prog 3 #[.int .i64 n, .string b, .slice a len cap] w fun e w' => e = .returned (.bool true) ∧ Below w.heap.size w w' := by
  have hB0 : Below w.heap.size w w := Below.refl _ _
  have hbs := bytes_same (strOfNums (nums n))
  go_enter Tryd.func3, Tryd.ntmps3
  go_wp2_with fail
  refine (may_ref n _).mono ?_
  rintro e wq ⟨rfl, hq⟩
  subst hq
  rw [hn]
  go_wp2_with fail
  refine (bytes_ref n _ hn).mono ?_
  rintro e w1 ⟨rfl, hb1⟩
  have hB1 := hB0.trans (hb1.mono hB0.size)
  have hF1 := hF.below hB1
  have hH1 := hH.below hB1
  go_wp2_with fail
  refine (long_ref n _).mono ?_
  rintro e wq ⟨rfl, hq⟩
  subst hq
  go_wp2_with fail
  refine (put_yes n _ hF1 hn).mono ?_
  rintro e w2 ⟨rfl, hb2⟩
  have hB2 := hB1.trans (hb2.mono hB1.size)
  have hF2 := hF.below hB2
  have hH2 := hH.below hB2
  go_wp2_with fail
  refine (same_nil 0 _).mono ?_
  rintro e w3 ⟨rfl, hb3⟩
  have hB3 := hB2.trans (hb3.mono hB2.size)
  have hF3 := hF.below hB3
  have hH3 := hH.below hB3
  rw [show ((0 : Int) == 0) = true from rfl]
  go_wp2_with fail
  refine (long_yes n _ hF3 hn).mono ?_
  rintro e w4 ⟨rfl, hb4⟩
  have hB4 := hB3.trans (hb4.mono hB3.size)
  have hF4 := hF.below hB4
  have hH4 := hH.below hB4
  go_wp2_with fail
  refine (same_nil 0 _).mono ?_
  rintro e w5 ⟨rfl, hb5⟩
  have hB5 := hB4.trans (hb5.mono hB4.size)
  have hF5 := hF.below hB5
  have hH5 := hH.below hB5
  rw [show ((0 : Int) == 0) = true from rfl]
  have hll : (lng n == lng n) = true := by simp
  go_wp2_with fail
  refine (rget_all b _ hbl).mono ?_
  rintro e w6 ⟨rfl, hb6⟩
  have hB6 := hB5.trans (hb6.mono hB5.size)
  have hF6 := hF.below hB6
  have hH6 := hH.below hB6
  rw [hg]
  dsimp only [getRV]
  go_wp2_with fail
  refine (get_all b _ hF6 hbl).mono ?_
  rintro e w7 ⟨rfl, hb7⟩
  have hB7 := hB6.trans (hb7.mono hB6.size)
  have hF7 := hF.below hB7
  have hH7 := hH.below hB7
  rw [hg]
  dsimp only [getV]
  go_wp2_with fail
  refine (same_nil 0 _).mono ?_
  rintro e w8 ⟨rfl, hb8⟩
  have hB8 := hB7.trans (hb8.mono hB7.size)
  have hF8 := hF.below hB8
  have hH8 := hH.below hB8
  rw [show ((0 : Int) == 0) = true from rfl]
  have hx1 : (gx == gx) = true := by simp
  have hx2 : (gk == gk) = true := by simp
  go_wp2_with fail
  refine wp_loop_rounds 1 ?_
  rw [rounds_succ]
  go_wp2_with fail
  refine (all_any a len cap zs _ hF8 (hI.below hB8) (by unfold maxLen at hlm; omega)).mono ?_
  rintro e w9 ⟨⟨hok, rfl⟩ | ⟨hok, rfl⟩, hb9⟩
  · exfalso
    have h1 := hI.1
    simp only [allOk, Bool.and_eq_true, decide_eq_true_eq] at hok
    omega
  · have hB9 := hB8.trans (hb9.mono hB8.size)
    have hH9 := hH.below hB9
    have e4 : allErr zs = 4 := by
      have h1 := hI.1
      simp [allErr]; omega
    rw [e4]
    clear hok e4
    go_wp2_with fail
    refine (same_err 4 4 _ hH9).mono ?_
    rintro e w10 ⟨rfl, hb10⟩
    have hB10 := hB9.trans (hb10.mono hB9.size)
    rw [show ((4 : Int) == 4) = true from rfl]
    go_wp2_with fail
    go_ret
    exact ⟨rfl, hB10⟩

set_option maxRecDepth 100000 in
set_option maxHeartbeats 8000000 in
theorem tells_tfl (n : Int) (b : ByteArray) (a : Option Addr) (len cap : Nat) (zs : List Int) (w : World) (hF : Forms w) (hH : Handle w) (hI : IntsAt w a len zs) (hlm : len ≤ maxLen) (hbl : b.size ≤ maxLen) (hn : mayB n = true) (hg : getI (ints b) = none) (h40 : len ≤ 40) :
    Calls Tryd.prog 3 #[.int .i64 n, .string b, .slice a len cap] w fun e w' => e = .returned (.bool true) ∧ Below w.heap.size w w' := by
  have h40' : ¬ (40 : Int) < (len : Int) := by omega
  have hB0 : Below w.heap.size w w := Below.refl _ _
  have hbs := bytes_same (strOfNums (nums n))
  go_enter Tryd.func3, Tryd.ntmps3
  go_wp2_with fail
  refine (may_ref n _).mono ?_
  rintro e wq ⟨rfl, hq⟩
  subst hq
  rw [hn]
  go_wp2_with fail
  refine (bytes_ref n _ hn).mono ?_
  rintro e w1 ⟨rfl, hb1⟩
  have hB1 := hB0.trans (hb1.mono hB0.size)
  have hF1 := hF.below hB1
  have hH1 := hH.below hB1
  go_wp2_with fail
  refine (long_ref n _).mono ?_
  rintro e wq ⟨rfl, hq⟩
  subst hq
  go_wp2_with fail
  refine (put_yes n _ hF1 hn).mono ?_
  rintro e w2 ⟨rfl, hb2⟩
  have hB2 := hB1.trans (hb2.mono hB1.size)
  have hF2 := hF.below hB2
  have hH2 := hH.below hB2
  go_wp2_with fail
  refine (same_nil 0 _).mono ?_
  rintro e w3 ⟨rfl, hb3⟩
  have hB3 := hB2.trans (hb3.mono hB2.size)
  have hF3 := hF.below hB3
  have hH3 := hH.below hB3
  rw [show ((0 : Int) == 0) = true from rfl]
  go_wp2_with fail
  refine (long_yes n _ hF3 hn).mono ?_
  rintro e w4 ⟨rfl, hb4⟩
  have hB4 := hB3.trans (hb4.mono hB3.size)
  have hF4 := hF.below hB4
  have hH4 := hH.below hB4
  go_wp2_with fail
  refine (same_nil 0 _).mono ?_
  rintro e w5 ⟨rfl, hb5⟩
  have hB5 := hB4.trans (hb5.mono hB4.size)
  have hF5 := hF.below hB5
  have hH5 := hH.below hB5
  rw [show ((0 : Int) == 0) = true from rfl]
  have hll : (lng n == lng n) = true := by simp
  go_wp2_with fail
  refine (rget_all b _ hbl).mono ?_
  rintro e w6 ⟨rfl, hb6⟩
  have hB6 := hB5.trans (hb6.mono hB5.size)
  have hF6 := hF.below hB6
  have hH6 := hH.below hB6
  rw [hg]
  dsimp only [getRV]
  go_wp2_with fail
  refine (get_all b _ hF6 hbl).mono ?_
  rintro e w7 ⟨rfl, hb7⟩
  have hB7 := hB6.trans (hb7.mono hB6.size)
  have hF7 := hF.below hB7
  have hH7 := hH.below hB7
  rw [hg]
  dsimp only [getV]
  go_wp2_with fail
  refine (same_err 2 2 _ hH7).mono ?_
  rintro e w8 ⟨rfl, hb8⟩
  have hB8 := hB7.trans (hb8.mono hB7.size)
  have hF8 := hF.below hB8
  have hH8 := hH.below hB8
  rw [show ((2 : Int) == 2) = true from rfl]
  go_wp2_with fail
  go_loopw [7, 8, 22] (fun e s i wr => ∃ k : Nat, k ≤ len ∧ i = .int .i64 k ∧ ((e = .int .i64 0 ∧ s = .string (allS (zs.take k)) ∧ (zs.take k).all mayB = true) ∨ (e = .int .i64 1 ∧ s = .string { data := #[] } ∧ zs.all mayB = false)) ∧ Below w.heap.size w wr) (fun _ _ i _ => len - (intOf i).toNat)
  case atStart => exact ⟨0, Nat.zero_le _, rfl, .inl ⟨rfl, rfl, rfl⟩, hB8⟩
  case round =>
    obtain ⟨k, hk, rfl, hst, hB⟩ := hrel
    have hFr := hF.below hB
    have hHr := hH.below hB
    rcases hst with ⟨rfl, rfl, hall⟩ | ⟨rfl, rfl, hbad⟩
    · by_cases hlt : k < len
      · rcases hI.2 with h0 | ⟨ba, off, rfl, hba, hc⟩
        · omega
        have hl := hI.1
        have hkl : k < zs.length := by omega
        have hcx : wr.cell? ⟨ba, off + k, none⟩ = some (.int .i64 (zs[k]?.getD 0)) := (hB.cell (p := ⟨ba, off + k, none⟩) hba).trans (hc k hlt)
        have HS : Hid (allS (zs.take (k + 1)) = allS (zs.take k) ++ strOfNums (nums (zs[k]?.getD 0))) := allS_snoc zs k hkl
        have HA : Hid (mayB (zs[k]?.getD 0) = true → (zs.take (k + 1)).all mayB = true) := by
          show mayB (zs[k]?.getD 0) = true → (zs.take (k + 1)).all mayB = true
          intro hz
          rw [take_snoc zs k hkl, List.all_append, hall]
          simp [hz]
        have HM : Hid (zs[k]?.getD 0 ∈ zs) := by
          show zs[k]?.getD 0 ∈ zs
          simp [hkl]
        have g1 : (k : Int) < (len : Int) := by omega
        have hsz1 : (allS (zs.take k)).size ≤ 160 := by
          have := allS_size (zs.take k)
          rw [List.length_take] at this
          omega
        have hsz2 : (strOfNums (nums (zs[k]?.getD 0))).size ≤ 4 := by rw [strOfNums_size]; exact nums_length_le _
        clear hl hkl hall hc
        generalize zs[k]?.getD 0 = z at *
        cases hz : mayB z with
        | true =>
          have HA1 : Hid ((zs.take (k + 1)).all mayB = true) := HA.out hz
          clear HA
          obtain ⟨so, hso⟩ : ∃ so, allS (zs.take k) = so := ⟨_, rfl⟩
          rw [hso] at HS hsz1 ⊢
          clear hso
          go_wp2_with fail
          refine (may_ref z _).mono ?_
          rintro e wq ⟨rfl, hq⟩
          subst hq
          rw [hz]
          go_wp2_with fail
          refine (bytes_ref z _ hz).mono ?_
          rintro e w9 ⟨rfl, hb9⟩
          have hB9 := hB.trans (hb9.mono hB.size)
          clear hz
          go_wp2_with fail
          exact ⟨⟨k + 1, by omega, by go_num, .inl ⟨rfl, by rw [HS.out], HA1.out⟩, hB9⟩, by simp [intOf]; omega⟩
        | false =>
          have HB : Hid (zs.all mayB = false) := by
            show zs.all mayB = false
            cases h : zs.all mayB with
            | false => rfl
            | true => have := List.all_eq_true.1 h _ HM.out; rw [hz] at this; cases this
          go_wp2_with fail
          refine (may_ref z _).mono ?_
          rintro e wq ⟨rfl, hq⟩
          subst hq
          rw [hz]
          clear hz HA
          go_wp2_with fail
          exact ⟨⟨k + 1, by omega, by go_num, .inr ⟨rfl, rfl, HB.out⟩, hB⟩, by simp [intOf]; omega⟩
      · have hl := hI.1
        obtain rfl : k = len := by omega
        have e1 : zs.take k = zs := List.take_of_length_le (by omega)
        have HOK : Hid (allOk zs = true) := by
          show allOk zs = true
          rw [e1] at hall
          simp only [allOk, hall, Bool.and_true, decide_eq_true_eq]
          omega
        rw [e1]
        clear hall e1 hl
        go_wp2_with fail
        refine (all_any a k cap zs _ hFr (hI.below hB) (by omega)).mono ?_
        rintro e w9 ⟨⟨hok, rfl⟩ | ⟨hok, rfl⟩, hb9⟩
        · have hB9 := hB.trans (hb9.mono hB.size)
          clear hok
          go_wp2_with fail
          refine (same_nil 0 _).mono ?_
          rintro e w10 ⟨rfl, hb10⟩
          have hB10 := hB9.trans (hb10.mono hB9.size)
          rw [show ((0 : Int) == 0) = true from rfl]
          have hss := bytes_same (allS zs)
          go_wp2_with fail
          go_ret
          exact ⟨rfl, hB10⟩
        · exfalso
          rw [HOK.out] at hok
          cases hok
    · have HOK : Hid (allOk zs = false ∧ allErr zs = 1) := by
        show allOk zs = false ∧ allErr zs = 1
        have hl := hI.1
        refine ⟨by simp [allOk, hbad], by simp [allErr]; omega⟩
      clear hbad
      by_cases hlt : k < len
      all_goals
        go_wp2_with fail
        refine (all_any a len cap zs _ hFr (hI.below hB) (by omega)).mono ?_
        rintro e w9 ⟨⟨hok, rfl⟩ | ⟨hok, rfl⟩, hb9⟩
        · exfalso
          rw [HOK.out.1] at hok
          cases hok
        · have hB9 := hB.trans (hb9.mono hB.size)
          have hH9 := hH.below hB9
          rw [HOK.out.2]
          clear hok
          go_wp2_with fail
          refine (same_err 1 1 _ hH9).mono ?_
          rintro e w10 ⟨rfl, hb10⟩
          have hB10 := hB9.trans (hb10.mono hB9.size)
          rw [show ((1 : Int) == 1) = true from rfl]
          go_wp2_with fail
          go_ret
          exact ⟨rfl, hB10⟩

set_option maxRecDepth 100000 in
set_option maxHeartbeats 8000000 in
theorem tells_tff (n : Int) (b : ByteArray) (a : Option Addr) (len cap : Nat) (zs : List Int) (w : World) (hF : Forms w) (hH : Handle w) (hI : IntsAt w a len zs) (hlm : len ≤ maxLen) (hbl : b.size ≤ maxLen) (hn : mayB n = true) (hg : getI (ints b) = none) (h40 : (40 : Int) < (len : Int)) :
    Calls Tryd.prog 3 #[.int .i64 n, .string b, .slice a len cap] w fun e w' => e = .returned (.bool true) ∧ Below w.heap.size w w' := by
  have hB0 : Below w.heap.size w w := Below.refl _ _
  have hbs := bytes_same (strOfNums (nums n))
  go_enter Tryd.func3, Tryd.ntmps3
  go_wp2_with fail
  refine (may_ref n _).mono ?_
  rintro e wq ⟨rfl, hq⟩
  subst hq
  rw [hn]
  go_wp2_with fail
  refine (bytes_ref n _ hn).mono ?_
  rintro e w1 ⟨rfl, hb1⟩
  have hB1 := hB0.trans (hb1.mono hB0.size)
  have hF1 := hF.below hB1
  have hH1 := hH.below hB1
  go_wp2_with fail
  refine (long_ref n _).mono ?_
  rintro e wq ⟨rfl, hq⟩
  subst hq
  go_wp2_with fail
  refine (put_yes n _ hF1 hn).mono ?_
  rintro e w2 ⟨rfl, hb2⟩
  have hB2 := hB1.trans (hb2.mono hB1.size)
  have hF2 := hF.below hB2
  have hH2 := hH.below hB2
  go_wp2_with fail
  refine (same_nil 0 _).mono ?_
  rintro e w3 ⟨rfl, hb3⟩
  have hB3 := hB2.trans (hb3.mono hB2.size)
  have hF3 := hF.below hB3
  have hH3 := hH.below hB3
  rw [show ((0 : Int) == 0) = true from rfl]
  go_wp2_with fail
  refine (long_yes n _ hF3 hn).mono ?_
  rintro e w4 ⟨rfl, hb4⟩
  have hB4 := hB3.trans (hb4.mono hB3.size)
  have hF4 := hF.below hB4
  have hH4 := hH.below hB4
  go_wp2_with fail
  refine (same_nil 0 _).mono ?_
  rintro e w5 ⟨rfl, hb5⟩
  have hB5 := hB4.trans (hb5.mono hB4.size)
  have hF5 := hF.below hB5
  have hH5 := hH.below hB5
  rw [show ((0 : Int) == 0) = true from rfl]
  have hll : (lng n == lng n) = true := by simp
  go_wp2_with fail
  refine (rget_all b _ hbl).mono ?_
  rintro e w6 ⟨rfl, hb6⟩
  have hB6 := hB5.trans (hb6.mono hB5.size)
  have hF6 := hF.below hB6
  have hH6 := hH.below hB6
  rw [hg]
  dsimp only [getRV]
  go_wp2_with fail
  refine (get_all b _ hF6 hbl).mono ?_
  rintro e w7 ⟨rfl, hb7⟩
  have hB7 := hB6.trans (hb7.mono hB6.size)
  have hF7 := hF.below hB7
  have hH7 := hH.below hB7
  rw [hg]
  dsimp only [getV]
  go_wp2_with fail
  refine (same_err 2 2 _ hH7).mono ?_
  rintro e w8 ⟨rfl, hb8⟩
  have hB8 := hB7.trans (hb8.mono hB7.size)
  have hF8 := hF.below hB8
  have hH8 := hH.below hB8
  rw [show ((2 : Int) == 2) = true from rfl]
  go_wp2_with fail
  refine wp_loop_rounds 1 ?_
  rw [rounds_succ]
  go_wp2_with fail
  refine (all_any a len cap zs _ hF8 (hI.below hB8) (by unfold maxLen at hlm; omega)).mono ?_
  rintro e w9 ⟨⟨hok, rfl⟩ | ⟨hok, rfl⟩, hb9⟩
  · exfalso
    have h1 := hI.1
    simp only [allOk, Bool.and_eq_true, decide_eq_true_eq] at hok
    omega
  · have hB9 := hB8.trans (hb9.mono hB8.size)
    have hH9 := hH.below hB9
    have e4 : allErr zs = 4 := by
      have h1 := hI.1
      simp [allErr]; omega
    rw [e4]
    clear hok e4
    go_wp2_with fail
    refine (same_err 4 4 _ hH9).mono ?_
    rintro e w10 ⟨rfl, hb10⟩
    have hB10 := hB9.trans (hb10.mono hB9.size)
    rw [show ((4 : Int) == 4) = true from rfl]
    go_wp2_with fail
    go_ret
    exact ⟨rfl, hB10⟩

set_option maxRecDepth 100000 in
set_option maxHeartbeats 8000000 in
theorem tells_ftl (n : Int) (b : ByteArray) (a : Option Addr) (len cap : Nat) (zs : List Int) (w : World) (hF : Forms w) (hH : Handle w) (hI : IntsAt w a len zs) (hlm : len ≤ maxLen) (hbl : b.size ≤ maxLen) (hn : mayB n = false) (gx gk : Int) (hg : getI (ints b) = some (gx, gk)) (h40 : len ≤ 40) :
    Calls Tryd.prog 3 #[.int .i64 n, .string b, .slice a len cap] w fun e w' => e = .returned (.bool true) ∧ Below w.heap.size w w' := by
  have h40' : ¬ (40 : Int) < (len : Int) := by omega
  have hB0 : Below w.heap.size w w := Below.refl _ _
  have hbs := bytes_same (strOfNums (nums n))
  go_enter Tryd.func3, Tryd.ntmps3
  go_wp2_with fail
  refine (may_ref n _).mono ?_
  rintro e wq ⟨rfl, hq⟩
  subst hq
  rw [hn]
  go_wp2_with fail
  have hB1 := hB0
  have hF1 := hF
  have hH1 := hH
  refine (put_no n _ hF1 hn).mono ?_
  rintro e w2 ⟨rfl, hb2⟩
  have hB2 := hB1.trans (hb2.mono hB1.size)
  have hF2 := hF.below hB2
  have hH2 := hH.below hB2
  go_wp2_with fail
  refine (same_err 1 1 _ hH2).mono ?_
  rintro e w3 ⟨rfl, hb3⟩
  have hB3 := hB2.trans (hb3.mono hB2.size)
  have hF3 := hF.below hB3
  have hH3 := hH.below hB3
  rw [show ((1 : Int) == 1) = true from rfl]
  go_wp2_with fail
  refine (long_no n _ hF3 hn).mono ?_
  rintro e w4 ⟨rfl, hb4⟩
  have hB4 := hB3.trans (hb4.mono hB3.size)
  have hF4 := hF.below hB4
  have hH4 := hH.below hB4
  go_wp2_with fail
  refine (same_err 1 1 _ hH4).mono ?_
  rintro e w5 ⟨rfl, hb5⟩
  have hB5 := hB4.trans (hb5.mono hB4.size)
  have hF5 := hF.below hB5
  have hH5 := hH.below hB5
  rw [show ((1 : Int) == 1) = true from rfl]
  go_wp2_with fail
  refine (rget_all b _ hbl).mono ?_
  rintro e w6 ⟨rfl, hb6⟩
  have hB6 := hB5.trans (hb6.mono hB5.size)
  have hF6 := hF.below hB6
  have hH6 := hH.below hB6
  rw [hg]
  dsimp only [getRV]
  go_wp2_with fail
  refine (get_all b _ hF6 hbl).mono ?_
  rintro e w7 ⟨rfl, hb7⟩
  have hB7 := hB6.trans (hb7.mono hB6.size)
  have hF7 := hF.below hB7
  have hH7 := hH.below hB7
  rw [hg]
  dsimp only [getV]
  go_wp2_with fail
  refine (same_nil 0 _).mono ?_
  rintro e w8 ⟨rfl, hb8⟩
  have hB8 := hB7.trans (hb8.mono hB7.size)
  have hF8 := hF.below hB8
  have hH8 := hH.below hB8
  rw [show ((0 : Int) == 0) = true from rfl]
  have hx1 : (gx == gx) = true := by simp
  have hx2 : (gk == gk) = true := by simp
  go_wp2_with fail
  go_loopw [7, 8, 22] (fun e s i wr => ∃ k : Nat, k ≤ len ∧ i = .int .i64 k ∧ ((e = .int .i64 0 ∧ s = .string (allS (zs.take k)) ∧ (zs.take k).all mayB = true) ∨ (e = .int .i64 1 ∧ s = .string { data := #[] } ∧ zs.all mayB = false)) ∧ Below w.heap.size w wr) (fun _ _ i _ => len - (intOf i).toNat)
  case atStart => exact ⟨0, Nat.zero_le _, rfl, .inl ⟨rfl, rfl, rfl⟩, hB8⟩
  case round =>
    obtain ⟨k, hk, rfl, hst, hB⟩ := hrel
    have hFr := hF.below hB
    have hHr := hH.below hB
    rcases hst with ⟨rfl, rfl, hall⟩ | ⟨rfl, rfl, hbad⟩
    · by_cases hlt : k < len
      · rcases hI.2 with h0 | ⟨ba, off, rfl, hba, hc⟩
        · omega
        have hl := hI.1
        have hkl : k < zs.length := by omega
        have hcx : wr.cell? ⟨ba, off + k, none⟩ = some (.int .i64 (zs[k]?.getD 0)) := (hB.cell (p := ⟨ba, off + k, none⟩) hba).trans (hc k hlt)
        have HS : Hid (allS (zs.take (k + 1)) = allS (zs.take k) ++ strOfNums (nums (zs[k]?.getD 0))) := allS_snoc zs k hkl
        have HA : Hid (mayB (zs[k]?.getD 0) = true → (zs.take (k + 1)).all mayB = true) := by
          show mayB (zs[k]?.getD 0) = true → (zs.take (k + 1)).all mayB = true
          intro hz
          rw [take_snoc zs k hkl, List.all_append, hall]
          simp [hz]
        have HM : Hid (zs[k]?.getD 0 ∈ zs) := by
          show zs[k]?.getD 0 ∈ zs
          simp [hkl]
        have g1 : (k : Int) < (len : Int) := by omega
        have hsz1 : (allS (zs.take k)).size ≤ 160 := by
          have := allS_size (zs.take k)
          rw [List.length_take] at this
          omega
        have hsz2 : (strOfNums (nums (zs[k]?.getD 0))).size ≤ 4 := by rw [strOfNums_size]; exact nums_length_le _
        clear hl hkl hall hc
        generalize zs[k]?.getD 0 = z at *
        cases hz : mayB z with
        | true =>
          have HA1 : Hid ((zs.take (k + 1)).all mayB = true) := HA.out hz
          clear HA
          obtain ⟨so, hso⟩ : ∃ so, allS (zs.take k) = so := ⟨_, rfl⟩
          rw [hso] at HS hsz1 ⊢
          clear hso
          go_wp2_with fail
          refine (may_ref z _).mono ?_
          rintro e wq ⟨rfl, hq⟩
          subst hq
          rw [hz]
          go_wp2_with fail
          refine (bytes_ref z _ hz).mono ?_
          rintro e w9 ⟨rfl, hb9⟩
          have hB9 := hB.trans (hb9.mono hB.size)
          clear hz
          go_wp2_with fail
          exact ⟨⟨k + 1, by omega, by go_num, .inl ⟨rfl, by rw [HS.out], HA1.out⟩, hB9⟩, by simp [intOf]; omega⟩
        | false =>
          have HB : Hid (zs.all mayB = false) := by
            show zs.all mayB = false
            cases h : zs.all mayB with
            | false => rfl
            | true => have := List.all_eq_true.1 h _ HM.out; rw [hz] at this; cases this
          go_wp2_with fail
          refine (may_ref z _).mono ?_
          rintro e wq ⟨rfl, hq⟩
          subst hq
          rw [hz]
          clear hz HA
          go_wp2_with fail
          exact ⟨⟨k + 1, by omega, by go_num, .inr ⟨rfl, rfl, HB.out⟩, hB⟩, by simp [intOf]; omega⟩
      · have hl := hI.1
        obtain rfl : k = len := by omega
        have e1 : zs.take k = zs := List.take_of_length_le (by omega)
        have HOK : Hid (allOk zs = true) := by
          show allOk zs = true
          rw [e1] at hall
          simp only [allOk, hall, Bool.and_true, decide_eq_true_eq]
          omega
        rw [e1]
        clear hall e1 hl
        go_wp2_with fail
        refine (all_any a k cap zs _ hFr (hI.below hB) (by omega)).mono ?_
        rintro e w9 ⟨⟨hok, rfl⟩ | ⟨hok, rfl⟩, hb9⟩
        · have hB9 := hB.trans (hb9.mono hB.size)
          clear hok
          go_wp2_with fail
          refine (same_nil 0 _).mono ?_
          rintro e w10 ⟨rfl, hb10⟩
          have hB10 := hB9.trans (hb10.mono hB9.size)
          rw [show ((0 : Int) == 0) = true from rfl]
          have hss := bytes_same (allS zs)
          go_wp2_with fail
          go_ret
          exact ⟨rfl, hB10⟩
        · exfalso
          rw [HOK.out] at hok
          cases hok
    · have HOK : Hid (allOk zs = false ∧ allErr zs = 1) := by
        show allOk zs = false ∧ allErr zs = 1
        have hl := hI.1
        refine ⟨by simp [allOk, hbad], by simp [allErr]; omega⟩
      clear hbad
      by_cases hlt : k < len
      all_goals
        go_wp2_with fail
        refine (all_any a len cap zs _ hFr (hI.below hB) (by omega)).mono ?_
        rintro e w9 ⟨⟨hok, rfl⟩ | ⟨hok, rfl⟩, hb9⟩
        · exfalso
          rw [HOK.out.1] at hok
          cases hok
        · have hB9 := hB.trans (hb9.mono hB.size)
          have hH9 := hH.below hB9
          rw [HOK.out.2]
          clear hok
          go_wp2_with fail
          refine (same_err 1 1 _ hH9).mono ?_
          rintro e w10 ⟨rfl, hb10⟩
          have hB10 := hB9.trans (hb10.mono hB9.size)
          rw [show ((1 : Int) == 1) = true from rfl]
          go_wp2_with fail
          go_ret
          exact ⟨rfl, hB10⟩

set_option maxRecDepth 100000 in
set_option maxHeartbeats 8000000 in
theorem tells_ftf (n : Int) (b : ByteArray) (a : Option Addr) (len cap : Nat) (zs : List Int) (w : World) (hF : Forms w) (hH : Handle w) (hI : IntsAt w a len zs) (hlm : len ≤ maxLen) (hbl : b.size ≤ maxLen) (hn : mayB n = false) (gx gk : Int) (hg : getI (ints b) = some (gx, gk)) (h40 : (40 : Int) < (len : Int)) :
    Calls Tryd.prog 3 #[.int .i64 n, .string b, .slice a len cap] w fun e w' => e = .returned (.bool true) ∧ Below w.heap.size w w' := by
  have hB0 : Below w.heap.size w w := Below.refl _ _
  have hbs := bytes_same (strOfNums (nums n))
  go_enter Tryd.func3, Tryd.ntmps3
  go_wp2_with fail
  refine (may_ref n _).mono ?_
  rintro e wq ⟨rfl, hq⟩
  subst hq
  rw [hn]
  go_wp2_with fail
  have hB1 := hB0
  have hF1 := hF
  have hH1 := hH
  refine (put_no n _ hF1 hn).mono ?_
  rintro e w2 ⟨rfl, hb2⟩
  have hB2 := hB1.trans (hb2.mono hB1.size)
  have hF2 := hF.below hB2
  have hH2 := hH.below hB2
  go_wp2_with fail
  refine (same_err 1 1 _ hH2).mono ?_
  rintro e w3 ⟨rfl, hb3⟩
  have hB3 := hB2.trans (hb3.mono hB2.size)
  have hF3 := hF.below hB3
  have hH3 := hH.below hB3
  rw [show ((1 : Int) == 1) = true from rfl]
  go_wp2_with fail
  refine (long_no n _ hF3 hn).mono ?_
  rintro e w4 ⟨rfl, hb4⟩
  have hB4 := hB3.trans (hb4.mono hB3.size)
  have hF4 := hF.below hB4
  have hH4 := hH.below hB4
  go_wp2_with fail
  refine (same_err 1 1 _ hH4).mono ?_
  rintro e w5 ⟨rfl, hb5⟩
  have hB5 := hB4.trans (hb5.mono hB4.size)
  have hF5 := hF.below hB5
  have hH5 := hH.below hB5
  rw [show ((1 : Int) == 1) = true from rfl]
  go_wp2_with fail
  refine (rget_all b _ hbl).mono ?_
  rintro e w6 ⟨rfl, hb6⟩
  have hB6 := hB5.trans (hb6.mono hB5.size)
  have hF6 := hF.below hB6
  have hH6 := hH.below hB6
  rw [hg]
  dsimp only [getRV]
  go_wp2_with fail
  refine (get_all b _ hF6 hbl).mono ?_
  rintro e w7 ⟨rfl, hb7⟩
  have hB7 := hB6.trans (hb7.mono hB6.size)
  have hF7 := hF.below hB7
  have hH7 := hH.below hB7
  rw [hg]
  dsimp only [getV]
  go_wp2_with fail
  refine (same_nil 0 _).mono ?_
  rintro e w8 ⟨rfl, hb8⟩
  have hB8 := hB7.trans (hb8.mono hB7.size)
  have hF8 := hF.below hB8
  have hH8 := hH.below hB8
  rw [show ((0 : Int) == 0) = true from rfl]
  have hx1 : (gx == gx) = true := by simp
  have hx2 : (gk == gk) = true := by simp
  go_wp2_with fail
  refine wp_loop_rounds 1 ?_
  rw [rounds_succ]
  go_wp2_with fail
  refine (all_any a len cap zs _ hF8 (hI.below hB8) (by unfold maxLen at hlm; omega)).mono ?_
  rintro e w9 ⟨⟨hok, rfl⟩ | ⟨hok, rfl⟩, hb9⟩
  · exfalso
    have h1 := hI.1
    simp only [allOk, Bool.and_eq_true, decide_eq_true_eq] at hok
    omega
  · have hB9 := hB8.trans (hb9.mono hB8.size)
    have hH9 := hH.below hB9
    have e4 : allErr zs = 4 := by
      have h1 := hI.1
      simp [allErr]; omega
    rw [e4]
    clear hok e4
    go_wp2_with fail
    refine (same_err 4 4 _ hH9).mono ?_
    rintro e w10 ⟨rfl, hb10⟩
    have hB10 := hB9.trans (hb10.mono hB9.size)
    rw [show ((4 : Int) == 4) = true from rfl]
    go_wp2_with fail
    go_ret
    exact ⟨rfl, hB10⟩

set_option maxRecDepth 100000 in
set_option maxHeartbeats 8000000 in
theorem tells_ffl (n : Int) (b : ByteArray) (a : Option Addr) (len cap : Nat) (zs : List Int) (w : World) (hF : Forms w) (hH : Handle w) (hI : IntsAt w a len zs) (hlm : len ≤ maxLen) (hbl : b.size ≤ maxLen) (hn : mayB n = false) (hg : getI (ints b) = none) (h40 : len ≤ 40) :
    Calls Tryd.prog 3 #[.int .i64 n, .string b, .slice a len cap] w fun e w' => e = .returned (.bool true) ∧ Below w.heap.size w w' := by
  have h40' : ¬ (40 : Int) < (len : Int) := by omega
  have hB0 : Below w.heap.size w w := Below.refl _ _
  have hbs := bytes_same (strOfNums (nums n))
  go_enter Tryd.func3, Tryd.ntmps3
  go_wp2_with fail
  refine (may_ref n _).mono ?_
  rintro e wq ⟨rfl, hq⟩
  subst hq
  rw [hn]
  go_wp2_with fail
  have hB1 := hB0
  have hF1 := hF
  have hH1 := hH
  refine (put_no n _ hF1 hn).mono ?_
  rintro e w2 ⟨rfl, hb2⟩
  have hB2 := hB1.trans (hb2.mono hB1.size)
  have hF2 := hF.below hB2
  have hH2 := hH.below hB2
  go_wp2_with fail
  refine (same_err 1 1 _ hH2).mono ?_
  rintro e w3 ⟨rfl, hb3⟩
  have hB3 := hB2.trans (hb3.mono hB2.size)
  have hF3 := hF.below hB3
  have hH3 := hH.below hB3
  rw [show ((1 : Int) == 1) = true from rfl]
  go_wp2_with fail
  refine (long_no n _ hF3 hn).mono ?_
  rintro e w4 ⟨rfl, hb4⟩
  have hB4 := hB3.trans (hb4.mono hB3.size)
  have hF4 := hF.below hB4
  have hH4 := hH.below hB4
  go_wp2_with fail
  refine (same_err 1 1 _ hH4).mono ?_
  rintro e w5 ⟨rfl, hb5⟩
  have hB5 := hB4.trans (hb5.mono hB4.size)
  have hF5 := hF.below hB5
  have hH5 := hH.below hB5
  rw [show ((1 : Int) == 1) = true from rfl]
  go_wp2_with fail
  refine (rget_all b _ hbl).mono ?_
  rintro e w6 ⟨rfl, hb6⟩
  have hB6 := hB5.trans (hb6.mono hB5.size)
  have hF6 := hF.below hB6
  have hH6 := hH.below hB6
  rw [hg]
  dsimp only [getRV]
  go_wp2_with fail
  refine (get_all b _ hF6 hbl).mono ?_
  rintro e w7 ⟨rfl, hb7⟩
  have hB7 := hB6.trans (hb7.mono hB6.size)
  have hF7 := hF.below hB7
  have hH7 := hH.below hB7
  rw [hg]
  dsimp only [getV]
  go_wp2_with fail
  refine (same_err 2 2 _ hH7).mono ?_
  rintro e w8 ⟨rfl, hb8⟩
  have hB8 := hB7.trans (hb8.mono hB7.size)
  have hF8 := hF.below hB8
  have hH8 := hH.below hB8
  rw [show ((2 : Int) == 2) = true from rfl]
  go_wp2_with fail
  go_loopw [7, 8, 22] (fun e s i wr => ∃ k : Nat, k ≤ len ∧ i = .int .i64 k ∧ ((e = .int .i64 0 ∧ s = .string (allS (zs.take k)) ∧ (zs.take k).all mayB = true) ∨ (e = .int .i64 1 ∧ s = .string { data := #[] } ∧ zs.all mayB = false)) ∧ Below w.heap.size w wr) (fun _ _ i _ => len - (intOf i).toNat)
  case atStart => exact ⟨0, Nat.zero_le _, rfl, .inl ⟨rfl, rfl, rfl⟩, hB8⟩
  case round =>
    obtain ⟨k, hk, rfl, hst, hB⟩ := hrel
    have hFr := hF.below hB
    have hHr := hH.below hB
    rcases hst with ⟨rfl, rfl, hall⟩ | ⟨rfl, rfl, hbad⟩
    · by_cases hlt : k < len
      · rcases hI.2 with h0 | ⟨ba, off, rfl, hba, hc⟩
        · omega
        have hl := hI.1
        have hkl : k < zs.length := by omega
        have hcx : wr.cell? ⟨ba, off + k, none⟩ = some (.int .i64 (zs[k]?.getD 0)) := (hB.cell (p := ⟨ba, off + k, none⟩) hba).trans (hc k hlt)
        have HS : Hid (allS (zs.take (k + 1)) = allS (zs.take k) ++ strOfNums (nums (zs[k]?.getD 0))) := allS_snoc zs k hkl
        have HA : Hid (mayB (zs[k]?.getD 0) = true → (zs.take (k + 1)).all mayB = true) := by
          show mayB (zs[k]?.getD 0) = true → (zs.take (k + 1)).all mayB = true
          intro hz
          rw [take_snoc zs k hkl, List.all_append, hall]
          simp [hz]
        have HM : Hid (zs[k]?.getD 0 ∈ zs) := by
          show zs[k]?.getD 0 ∈ zs
          simp [hkl]
        have g1 : (k : Int) < (len : Int) := by omega
        have hsz1 : (allS (zs.take k)).size ≤ 160 := by
          have := allS_size (zs.take k)
          rw [List.length_take] at this
          omega
        have hsz2 : (strOfNums (nums (zs[k]?.getD 0))).size ≤ 4 := by rw [strOfNums_size]; exact nums_length_le _
        clear hl hkl hall hc
        generalize zs[k]?.getD 0 = z at *
        cases hz : mayB z with
        | true =>
          have HA1 : Hid ((zs.take (k + 1)).all mayB = true) := HA.out hz
          clear HA
          obtain ⟨so, hso⟩ : ∃ so, allS (zs.take k) = so := ⟨_, rfl⟩
          rw [hso] at HS hsz1 ⊢
          clear hso
          go_wp2_with fail
          refine (may_ref z _).mono ?_
          rintro e wq ⟨rfl, hq⟩
          subst hq
          rw [hz]
          go_wp2_with fail
          refine (bytes_ref z _ hz).mono ?_
          rintro e w9 ⟨rfl, hb9⟩
          have hB9 := hB.trans (hb9.mono hB.size)
          clear hz
          go_wp2_with fail
          exact ⟨⟨k + 1, by omega, by go_num, .inl ⟨rfl, by rw [HS.out], HA1.out⟩, hB9⟩, by simp [intOf]; omega⟩
        | false =>
          have HB : Hid (zs.all mayB = false) := by
            show zs.all mayB = false
            cases h : zs.all mayB with
            | false => rfl
            | true => have := List.all_eq_true.1 h _ HM.out; rw [hz] at this; cases this
          go_wp2_with fail
          refine (may_ref z _).mono ?_
          rintro e wq ⟨rfl, hq⟩
          subst hq
          rw [hz]
          clear hz HA
          go_wp2_with fail
          exact ⟨⟨k + 1, by omega, by go_num, .inr ⟨rfl, rfl, HB.out⟩, hB⟩, by simp [intOf]; omega⟩
      · have hl := hI.1
        obtain rfl : k = len := by omega
        have e1 : zs.take k = zs := List.take_of_length_le (by omega)
        have HOK : Hid (allOk zs = true) := by
          show allOk zs = true
          rw [e1] at hall
          simp only [allOk, hall, Bool.and_true, decide_eq_true_eq]
          omega
        rw [e1]
        clear hall e1 hl
        go_wp2_with fail
        refine (all_any a k cap zs _ hFr (hI.below hB) (by omega)).mono ?_
        rintro e w9 ⟨⟨hok, rfl⟩ | ⟨hok, rfl⟩, hb9⟩
        · have hB9 := hB.trans (hb9.mono hB.size)
          clear hok
          go_wp2_with fail
          refine (same_nil 0 _).mono ?_
          rintro e w10 ⟨rfl, hb10⟩
          have hB10 := hB9.trans (hb10.mono hB9.size)
          rw [show ((0 : Int) == 0) = true from rfl]
          have hss := bytes_same (allS zs)
          go_wp2_with fail
          go_ret
          exact ⟨rfl, hB10⟩
        · exfalso
          rw [HOK.out] at hok
          cases hok
    · have HOK : Hid (allOk zs = false ∧ allErr zs = 1) := by
        show allOk zs = false ∧ allErr zs = 1
        have hl := hI.1
        refine ⟨by simp [allOk, hbad], by simp [allErr]; omega⟩
      clear hbad
      by_cases hlt : k < len
      all_goals
        go_wp2_with fail
        refine (all_any a len cap zs _ hFr (hI.below hB) (by omega)).mono ?_
        rintro e w9 ⟨⟨hok, rfl⟩ | ⟨hok, rfl⟩, hb9⟩
        · exfalso
          rw [HOK.out.1] at hok
          cases hok
        · have hB9 := hB.trans (hb9.mono hB.size)
          have hH9 := hH.below hB9
          rw [HOK.out.2]
          clear hok
          go_wp2_with fail
          refine (same_err 1 1 _ hH9).mono ?_
          rintro e w10 ⟨rfl, hb10⟩
          have hB10 := hB9.trans (hb10.mono hB9.size)
          rw [show ((1 : Int) == 1) = true from rfl]
          go_wp2_with fail
          go_ret
          exact ⟨rfl, hB10⟩

set_option maxRecDepth 100000 in
set_option maxHeartbeats 8000000 in
theorem tells_fff (n : Int) (b : ByteArray) (a : Option Addr) (len cap : Nat) (zs : List Int) (w : World) (hF : Forms w) (hH : Handle w) (hI : IntsAt w a len zs) (hlm : len ≤ maxLen) (hbl : b.size ≤ maxLen) (hn : mayB n = false) (hg : getI (ints b) = none) (h40 : (40 : Int) < (len : Int)) :
    Calls Tryd.prog 3 #[.int .i64 n, .string b, .slice a len cap] w fun e w' => e = .returned (.bool true) ∧ Below w.heap.size w w' := by
  have hB0 : Below w.heap.size w w := Below.refl _ _
  have hbs := bytes_same (strOfNums (nums n))
  go_enter Tryd.func3, Tryd.ntmps3
  go_wp2_with fail
  refine (may_ref n _).mono ?_
  rintro e wq ⟨rfl, hq⟩
  subst hq
  rw [hn]
  go_wp2_with fail
  have hB1 := hB0
  have hF1 := hF
  have hH1 := hH
  refine (put_no n _ hF1 hn).mono ?_
  rintro e w2 ⟨rfl, hb2⟩
  have hB2 := hB1.trans (hb2.mono hB1.size)
  have hF2 := hF.below hB2
  have hH2 := hH.below hB2
  go_wp2_with fail
  refine (same_err 1 1 _ hH2).mono ?_
  rintro e w3 ⟨rfl, hb3⟩
  have hB3 := hB2.trans (hb3.mono hB2.size)
  have hF3 := hF.below hB3
  have hH3 := hH.below hB3
  rw [show ((1 : Int) == 1) = true from rfl]
  go_wp2_with fail
  refine (long_no n _ hF3 hn).mono ?_
  rintro e w4 ⟨rfl, hb4⟩
  have hB4 := hB3.trans (hb4.mono hB3.size)
  have hF4 := hF.below hB4
  have hH4 := hH.below hB4
  go_wp2_with fail
  refine (same_err 1 1 _ hH4).mono ?_
  rintro e w5 ⟨rfl, hb5⟩
  have hB5 := hB4.trans (hb5.mono hB4.size)
  have hF5 := hF.below hB5
  have hH5 := hH.below hB5
  rw [show ((1 : Int) == 1) = true from rfl]
  go_wp2_with fail
  refine (rget_all b _ hbl).mono ?_
  rintro e w6 ⟨rfl, hb6⟩
  have hB6 := hB5.trans (hb6.mono hB5.size)
  have hF6 := hF.below hB6
  have hH6 := hH.below hB6
  rw [hg]
  dsimp only [getRV]
  go_wp2_with fail
  refine (get_all b _ hF6 hbl).mono ?_
  rintro e w7 ⟨rfl, hb7⟩
  have hB7 := hB6.trans (hb7.mono hB6.size)
  have hF7 := hF.below hB7
  have hH7 := hH.below hB7
  rw [hg]
  dsimp only [getV]
  go_wp2_with fail
  refine (same_err 2 2 _ hH7).mono ?_
  rintro e w8 ⟨rfl, hb8⟩
  have hB8 := hB7.trans (hb8.mono hB7.size)
  have hF8 := hF.below hB8
  have hH8 := hH.below hB8
  rw [show ((2 : Int) == 2) = true from rfl]
  go_wp2_with fail
  refine wp_loop_rounds 1 ?_
  rw [rounds_succ]
  go_wp2_with fail
  refine (all_any a len cap zs _ hF8 (hI.below hB8) (by unfold maxLen at hlm; omega)).mono ?_
  rintro e w9 ⟨⟨hok, rfl⟩ | ⟨hok, rfl⟩, hb9⟩
  · exfalso
    have h1 := hI.1
    simp only [allOk, Bool.and_eq_true, decide_eq_true_eq] at hok
    omega
  · have hB9 := hB8.trans (hb9.mono hB8.size)
    have hH9 := hH.below hB9
    have e4 : allErr zs = 4 := by
      have h1 := hI.1
      simp [allErr]; omega
    rw [e4]
    clear hok e4
    go_wp2_with fail
    refine (same_err 4 4 _ hH9).mono ?_
    rintro e w10 ⟨rfl, hb10⟩
    have hB10 := hB9.trans (hb10.mono hB9.size)
    rw [show ((4 : Int) == 4) = true from rfl]
    go_wp2_with fail
    go_ret
    exact ⟨rfl, hB10⟩

theorem tells_calls (n : Int) (b : ByteArray) (a : Option Addr) (len cap : Nat) (zs : List Int) (w : World) (hF : Forms w) (hH : Handle w) (hI : IntsAt w a len zs) (hlm : len ≤ maxLen) (hbl : b.size ≤ maxLen) :
    Calls Tryd.prog 3 #[.int .i64 n, .string b, .slice a len cap] w fun e w' => e = .returned (.bool true) ∧ Below w.heap.size w w' := by
  by_cases h : len ≤ 40
  · cases hn : mayB n with
    | true =>
      cases hg : getI (ints b) with
      | some x => exact tells_ttl n b a len cap zs w hF hH hI hlm hbl hn x.1 x.2 hg h
      | none => exact tells_tfl n b a len cap zs w hF hH hI hlm hbl hn hg h
    | false =>
      cases hg : getI (ints b) with
      | some x => exact tells_ftl n b a len cap zs w hF hH hI hlm hbl hn x.1 x.2 hg h
      | none => exact tells_ffl n b a len cap zs w hF hH hI hlm hbl hn hg h
  · have h' : (40 : Int) < (len : Int) := by omega
    cases hn : mayB n with
    | true =>
      cases hg : getI (ints b) with
      | some x => exact tells_ttf n b a len cap zs w hF hH hI hlm hbl hn x.1 x.2 hg h'
      | none => exact tells_tff n b a len cap zs w hF hH hI hlm hbl hn hg h'
    | false =>
      cases hg : getI (ints b) with
      | some x => exact tells_ftf n b a len cap zs w hF hH hI hlm hbl hn x.1 x.2 hg h'
      | none => exact tells_fff n b a len cap zs w hF hH hI hlm hbl hn hg h'

end Go.Proofs.YtnkedcpocomeaaaDoor
