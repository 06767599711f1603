/- LogStops' walk. -/
import Derived.Test.YtegelodkopommaaDoorSA
import Derived.Test.YtegelodkopommaaDoorK
import Derived.Deep.LoopGhost
import Derived.Deep.Cut
namespace Go.Proofs.YtegelodkopommaaDoor
open Go.RowKit Go.Lib Go.Sort
set_option linter.unusedVariables false
set_option linter.unusedSimpArgs false

open Lo
set_option maxRecDepth 100000 in
set_option maxHeartbeats 2000000 in
theorem stops_a (a m n : Int) (w : World) (h : a < 0) : Calls Tryd.prog 3 #[.int .i64 a, .int .i64 m, .int .i64 n] w fun e w' => e = .returned (.bool true) ∧ Below w.heap.size w w' := by
  go_enter Tryd.func3, Tryd.ntmps3
  go_wp2_with fail
  go_ret
  exact ⟨rfl, Below.refl _ _⟩
set_option maxRecDepth 100000 in
set_option maxHeartbeats 2000000 in
theorem stops_b (a m n : Int) (w : World) (h0 : ¬ a < 0) (h : 20 < a) : Calls Tryd.prog 3 #[.int .i64 a, .int .i64 m, .int .i64 n] w fun e w' => e = .returned (.bool true) ∧ Below w.heap.size w w' := by
  go_enter Tryd.func3, Tryd.ntmps3
  go_wp2_with fail
  go_ret
  exact ⟨rfl, Below.refl _ _⟩
set_option maxRecDepth 100000 in
set_option maxHeartbeats 2000000 in
theorem stops_c (a m n : Int) (w : World) (h0 : ¬ a < 0) (h1 : ¬ 20 < a) (h : m < 0) : Calls Tryd.prog 3 #[.int .i64 a, .int .i64 m, .int .i64 n] w fun e w' => e = .returned (.bool true) ∧ Below w.heap.size w w' := by
  go_enter Tryd.func3, Tryd.ntmps3
  go_wp2_with fail
  go_ret
  exact ⟨rfl, Below.refl _ _⟩
set_option maxRecDepth 100000 in
set_option maxHeartbeats 2000000 in
theorem stops_d (a m n : Int) (w : World) (h0 : ¬ a < 0) (h1 : ¬ 20 < a) (h2 : ¬ m < 0) (h : 20 < m) : Calls Tryd.prog 3 #[.int .i64 a, .int .i64 m, .int .i64 n] w fun e w' => e = .returned (.bool true) ∧ Below w.heap.size w w' := by
  go_enter Tryd.func3, Tryd.ntmps3
  go_wp2_with fail
  go_ret
  exact ⟨rfl, Below.refl _ _⟩
set_option maxRecDepth 100000 in
set_option maxHeartbeats 4000000 in
theorem stops_e (A M : Nat) (n : Int) (w : World) (hH : Handle w) (hA : A ≤ 20) (hM : M ≤ 20) (hn0 : -9223372036854775808 ≤ n) (hn1 : n ≤ 9223372036854775807) : Calls Tryd.prog 3 #[.int .i64 (A : Int), .int .i64 (M : Int), .int .i64 n] w fun e w' => e = .returned (.bool true) ∧ Below w.heap.size w w' := by
  have HH : Hid (Handle w) := hH
  have g1 : ¬ (A : Int) < 0 := by omega
  have g2 : ¬ (20 : Int) < (A : Int) := by omega
  have g3 : ¬ (M : Int) < 0 := by omega
  have g4 : ¬ (20 : Int) < (M : Int) := by omega
  clear hH
  go_enter Tryd.func3, Tryd.ntmps3
  go_wp2_with fail
  refine (q_new (Below.refl _ _)).mono ?_
  rintro e w1 ⟨lb, rfl, hq⟩
  go_wp2_with fail
  refine (q_fail hq (A : Int) (by omega) (by omega)).mono ?_
  rintro e w2 ⟨⟨v, rfl⟩, hq2⟩
  clear hq
  have hq : Hid (Gq w w2 lb _) := hq2
  clear hq2 g1 g2 g3 g4
  go_wp2_with fail
  go_loopg [8, 9] M (fun gk s8 s9 wr => ∃ (k : Nat) (s : Lg), Hid (gk + k = M) ∧ s8 = .int .i64 (k : Int) ∧ s9 = .int .i64 (k : Int) ∧ Hid (P1 A k s) ∧ Hid (Gq w wr lb s))
  case atStart => exact ⟨0, _, rfl, rfl, rfl, p1_start A, hq⟩
  case round =>
    clear hq
    obtain ⟨k, s, hgk, rfl, rfl, hp, hq⟩ := hrel
    by_cases hkm : k < M
    · have gk1 : (k : Int) < (M : Int) := by omega
      rcases (show k < A ∨ k = A ∨ A < k by omega) with hk | hk | hk
      · have e1 : ¬ (A : Int) < (k : Int) := by omega
        have e2 : (k : Int) ≤ (A : Int) := by omega
        have e3 : ((k : Int) == (A : Int)) = false := by simp; omega
        have e4 : (k : Int) < (A : Int) := by omega
        have HP := p1_lt hp.out hk (by omega)
        have HB := p1_bad hp.out (by omega)
        have hc := q_came hq.out (-1) (hp.out.few)
        rw [HB.1, HB.2.1, HB.2.2] at hc
        rw [errV_f (by decide)] at hc
        go_wp2_with fail
        refine hc.mono ?_
        clear hc
        rintro e w2 ⟨rfl, hq2⟩
        have HQ : Hid (Gq w w2 lb _) := hq2
        clear hq hq2
        have hq := HQ
        clear HQ
        have hc := q_came hq.out ((k : Int)) (hp.out.few)
        rw [HP.1, HP.2.1] at hc
        rw [errV_0] at hc
        go_wp2_with fail
        refine hc.mono ?_
        clear hc
        rintro e w2 ⟨rfl, hq2⟩
        have HQ : Hid (Gq w w2 lb _) := hq2
        clear hq hq2
        have hq := HQ
        clear HQ
        go_wp2_with fail
        refine (same_err 1 6 _ (HH.out.below hq.out.bel)).mono ?_
        rintro e w2 ⟨rfl, hb⟩
        have HQ : Hid (Gq w w2 lb _) := hq.out.below hb
        clear hq hb
        have hq := HQ
        clear HQ
        go_wp2_with fail
        refine (same_err 1 1 _ (HH.out.below hq.out.bel)).mono ?_
        rintro e w2 ⟨rfl, hb⟩
        have HQ : Hid (Gq w w2 lb _) := hq.out.below hb
        clear hq hb
        have hq := HQ
        clear HQ
        go_wp2_with fail
        refine (same_nil 6 _).mono ?_
        rintro e w2 ⟨rfl, hb⟩
        have HQ : Hid (Gq w w2 lb _) := hq.out.below hb
        clear hq hb
        have hq := HQ
        clear HQ
        have hn : Hid (P1 A (k + 1) _) := HP.2.2
        go_wp2_with fail
        go_roundg (M - (k + 1))
        case measure => have := hgk.out; omega
        case rel => exact ⟨k + 1, _, by show _ = _; have := hgk.out; omega, by go_num, by go_num, hn, hq⟩
      · subst hk
        have HP := p1_eq hp.out (by omega)
        have HB := p1_bad hp.out (Nat.le_refl _)
        have hc := q_came hq.out (-1) (hp.out.few)
        rw [HB.1, HB.2.1, HB.2.2] at hc
        rw [errV_f (by decide)] at hc
        go_wp2_with fail
        refine hc.mono ?_
        clear hc
        rintro e w2 ⟨rfl, hq2⟩
        have HQ : Hid (Gq w w2 lb _) := hq2
        clear hq hq2
        have hq := HQ
        clear HQ
        have hc := q_came hq.out ((k : Int)) (hp.out.few)
        rw [HP.1, HP.2.1] at hc
        rw [errV_f (by decide)] at hc
        go_wp2_with fail
        refine hc.mono ?_
        clear hc
        rintro e w2 ⟨rfl, hq2⟩
        have HQ : Hid (Gq w w2 lb _) := hq2
        clear hq hq2
        have hq := HQ
        clear HQ
        go_wp2_with fail
        refine (same_err 1 6 _ (HH.out.below hq.out.bel)).mono ?_
        rintro e w2 ⟨rfl, hb⟩
        have HQ : Hid (Gq w w2 lb _) := hq.out.below hb
        clear hq hb
        have hq := HQ
        clear HQ
        go_wp2_with fail
        refine (same_err 1 1 _ (HH.out.below hq.out.bel)).mono ?_
        rintro e w2 ⟨rfl, hb⟩
        have HQ : Hid (Gq w w2 lb _) := hq.out.below hb
        clear hq hb
        have hq := HQ
        clear HQ
        go_wp2_with fail
        refine (same_err 6 6 _ (HH.out.below hq.out.bel)).mono ?_
        rintro e w2 ⟨rfl, hb⟩
        have HQ : Hid (Gq w w2 lb _) := hq.out.below hb
        clear hq hb
        have hq := HQ
        clear HQ
        have hn : Hid (P1 k (k + 1) _) := HP.2.2
        go_wp2_with fail
        go_roundg (M - (k + 1))
        case measure => have := hgk.out; omega
        case rel => exact ⟨k + 1, _, by show _ = _; have := hgk.out; omega, by go_num, by go_num, hn, hq⟩
      · have e1 : (A : Int) < (k : Int) := by omega
        have e2 : ¬ (k : Int) ≤ (A : Int) := by omega
        have e3 : ((k : Int) == (A : Int)) = false := by simp; omega
        have e4 : ¬ (k : Int) < (A : Int) := by omega
        have HP := p1_gt hp.out hk
        have HB := st_stop HP.1 (-1)
        have HC := st_stop HP.1 (k : Int)
        have hc := q_came hq.out (-1) (hp.out.few)
        rw [HB.1, HB.2.1, HB.2.2] at hc
        rw [errV_f (by decide)] at hc
        go_wp2_with fail
        refine hc.mono ?_
        clear hc
        rintro e w2 ⟨rfl, hq2⟩
        have HQ : Hid (Gq w w2 lb _) := hq2
        clear hq hq2
        have hq := HQ
        clear HQ
        have hc := q_came hq.out ((k : Int)) (hp.out.few)
        rw [HC.1, HC.2.1, HC.2.2] at hc
        rw [errV_f (by decide)] at hc
        go_wp2_with fail
        refine hc.mono ?_
        clear hc
        rintro e w2 ⟨rfl, hq2⟩
        have HQ : Hid (Gq w w2 lb _) := hq2
        clear hq hq2
        have hq := HQ
        clear HQ
        go_wp2_with fail
        refine (same_err 6 6 _ (HH.out.below hq.out.bel)).mono ?_
        rintro e w2 ⟨rfl, hb⟩
        have HQ : Hid (Gq w w2 lb _) := hq.out.below hb
        clear hq hb
        have hq := HQ
        clear HQ
        go_wp2_with fail
        refine (same_err 6 1 _ (HH.out.below hq.out.bel)).mono ?_
        rintro e w2 ⟨rfl, hb⟩
        have HQ : Hid (Gq w w2 lb _) := hq.out.below hb
        clear hq hb
        have hq := HQ
        clear HQ
        go_wp2_with fail
        refine (same_err 6 6 _ (HH.out.below hq.out.bel)).mono ?_
        rintro e w2 ⟨rfl, hb⟩
        have HQ : Hid (Gq w w2 lb _) := hq.out.below hb
        clear hq hb
        have hq := HQ
        clear HQ
        have hn : Hid (P1 A (k + 1) _) := HP.2
        go_wp2_with fail
        go_roundg (M - (k + 1))
        case measure => have := hgk.out; omega
        case rel => exact ⟨k + 1, _, by show _ = _; have := hgk.out; omega, by go_num, by go_num, hn, hq⟩
    · have gk1 : ¬ (k : Int) < (M : Int) := by omega
      have HP2 : Hid (P2 A k s) := hp.out.two
      have HK : Hid (k ≤ 20) := by have := hgk.out; show k ≤ 20; omega
      clear hp hkm hgk
      go_wp2_with fail
      go_loopg [8] (22 - k) (fun gk2 s8 wr2 => ∃ (j : Nat) (s : Lg), Hid (gk2 + j = 22) ∧ s8 = .int .i64 (j : Int) ∧ Hid (P2 A j s) ∧ Hid (Gq w wr2 lb s))
      case atStart => exact ⟨k, s, by show _ = _; have := HK.out; omega, rfl, HP2, hq⟩
      case round =>
        clear hq HP2 HK
        obtain ⟨j, s, hgj, rfl, hp, hq⟩ := hrel
        rcases (show j < A ∨ j = A ∨ A < j by omega) with hj | hj | hj
        · have e2 : (j : Int) ≤ (A : Int) := by omega
          have e3 : ((j : Int) == (A : Int)) = false := by simp; omega
          have HP := p2_lt hp.out hj
          have hc := q_sync hq.out
          rw [HP.1, errV_0] at hc
          go_wp2_with fail
          refine hc.mono ?_
          clear hc hq
          rintro e w2 ⟨rfl, hq2⟩
          have hq : Hid (Gq w w2 lb _) := hq2
          clear hq2
          have hn : Hid (P2 A (j + 1) _) := HP.2
          go_wp2_with fail
          go_roundg (21 - j)
          case measure => have := hgj.out; omega
          case rel => exact ⟨j + 1, _, by show _ = _; have := hgj.out; omega, by go_num, hn, hq⟩
        · subst hj
          have HP := p2_eq hp.out
          have hc := q_sync hq.out
          rw [HP.1, errV_f (by decide)] at hc
          go_wp2_with fail
          refine hc.mono ?_
          clear hc hq
          rintro e w2 ⟨rfl, hq2⟩
          have hq : Hid (Gq w w2 lb _) := hq2
          clear hq2
          have hn : Hid (P2 j (j + 1) _) := HP.2
          go_wp2_with fail
          go_roundg (21 - j)
          case measure => have := hgj.out; omega
          case rel => exact ⟨j + 1, _, by show _ = _; have := hgj.out; omega, by go_num, hn, hq⟩
        · have e2 : ¬ (j : Int) ≤ (A : Int) := by omega
          obtain ⟨f1, f2, f3, f4, f5⟩ := p2_end hp.out hj
          have hc := q_sync hq.out
          rw [f1, f2, errV_f (by decide)] at hc
          go_wp2_with fail
          refine hc.mono ?_
          clear hc hq
          rintro e w2 ⟨rfl, hq2⟩
          have hq : Hid (Gq w w2 lb _) := hq2
          clear hq2
          have hc := q_came hq.out (3) (hp.out.few)
          rw [f3, f4, f5] at hc
          rw [errV_f (by decide)] at hc
          go_wp2_with fail
          refine hc.mono ?_
          clear hc
          rintro e w2 ⟨rfl, hq2⟩
          have HQ : Hid (Gq w w2 lb _) := hq2
          clear hq hq2
          have hq := HQ
          clear HQ
          go_wp2_with fail
          refine (same_err 6 6 _ (HH.out.below hq.out.bel)).mono ?_
          rintro e w2 ⟨rfl, hb⟩
          have HQ : Hid (Gq w w2 lb _) := hq.out.below hb
          clear hq hb
          have hq := HQ
          clear HQ
          go_wp2_with fail
          refine (same_err 6 6 _ (HH.out.below hq.out.bel)).mono ?_
          rintro e w2 ⟨rfl, hb⟩
          have HQ : Hid (Gq w w2 lb _) := hq.out.below hb
          clear hq hb
          have hq := HQ
          clear HQ
          have hc := q_crash hq.out n hn0 hn1
          obtain ⟨m, hm, f6⟩ := p2_crash hp.out n
          rw [f6] at hc
          generalize 4 * crN s n = qq at hc
          go_wp2_with fail
          refine hc.mono ?_
          clear hc hq f6
          rintro e w2 ⟨⟨v, rfl⟩, hq2⟩
          have hq : Hid (Gq w w2 lb _) := hq2
          clear hq2
          have hc := q_came hq.out (500) (by show (seqN m).length < 100000; rw [seqN_length]; omega)
          rw [(p3 hm qq).1, (p3 hm qq).2.1, (p3 hm qq).2.2] at hc
          rw [errV_0] at hc
          go_wp2_with fail
          refine hc.mono ?_
          clear hc
          rintro e w2 ⟨rfl, hq2⟩
          have HQ : Hid (Gq w w2 lb _) := hq2
          clear hq hq2
          have hq := HQ
          clear HQ
          have hc := q_sync hq.out
          rw [(p4 m qq).1, (p4 m qq).2, errV_0] at hc
          go_wp2_with fail
          refine hc.mono ?_
          clear hc hq
          rintro e w2 ⟨rfl, hq2⟩
          have hq : Hid (Gq w w2 lb _) := hq2
          clear hq2
          have hc := q_has hq.out 500 (by decide)
          rw [show memB (rgN (⟨seqN m ++ [500], [], 4 * (seqN m ++ [500]).length, -1, false⟩ : Lg).ns) 500 = true from p5 hm] at hc
          go_wp2_with fail
          refine hc.mono ?_
          clear hc hq
          rintro e w2 ⟨rfl, hq2⟩
          have hs := q_safe hq2
          have hy := q_bytes hq2
          rw [p6 m] at hy
          have hbel : Hid (Below w.heap.size w w2) := hq2.bel
          clear hq2
          change Calls Tryd.prog 12 _ w2 (fun e w' => e = .returned (.int .i64 ((4 * (seqN m ++ [500]).length : Nat) : Int)) ∧ w' = w2) at hs
          generalize 4 * (seqN m ++ [500]).length = N at hs hy
          go_wp2_with (first | (go_at_call 12; refine hs.mono ?_; rintro e w3 ⟨rfl, hw3⟩; obtain rfl := hw3.symm) | (go_at_call 13; refine hy.mono ?_; rintro e w4 ⟨rfl, hw4⟩; obtain rfl := hw4.symm))
          go_ret
          exact ⟨rfl, hbel.out⟩
theorem stops_walk (a m n : Int) (w : World) (hH : Handle w) (hn0 : -9223372036854775808 ≤ n) (hn1 : n ≤ 9223372036854775807) : Calls Tryd.prog 3 #[.int .i64 a, .int .i64 m, .int .i64 n] w fun e w' => e = .returned (.bool true) ∧ Below w.heap.size w w' := by
  by_cases h0 : a < 0
  · exact stops_a a m n w h0
  by_cases h1 : 20 < a
  · exact stops_b a m n w h0 h1
  by_cases h2 : m < 0
  · exact stops_c a m n w h0 h1 h2
  by_cases h3 : 20 < m
  · exact stops_d a m n w h0 h1 h2 h3
  obtain ⟨A, rfl⟩ := Int.eq_ofNat_of_zero_le (show 0 ≤ a by omega)
  obtain ⟨M, rfl⟩ := Int.eq_ofNat_of_zero_le (show 0 ≤ m by omega)
  exact stops_e A M n w hH (by omega) (by omega) hn0 hn1
end Go.Proofs.YtegelodkopommaaDoor
