/- What the laws of package run need. -/
import Derived.Test.YtdokgalidhmbbaaGreatDoorHWX
import Derived.Test.YtdokgalidhmbbaaGreatDoorHXB
import Derived.Test.YtdokgalidhmbbaaGreatDoorHXC
set_option linter.unusedVariables false
set_option linter.unusedSimpArgs false
set_option maxRecDepth 100000
set_option maxHeartbeats 8000000
namespace Go.Proofs.YtdokgalidhmbbaaGreatDoor
namespace Rn
open Go.RowKit

theorem dig_piece : ∀ n : Nat, n < 10 → (([48, 49, 50, 51, 52, 53, 54, 55, 56, 57] : List UInt8).drop n).take (n + 1 - n) = digF n := by decide +kernel
theorem digit_calls (n : Nat) (h : n < 10) (w : World) : Calls Tryz.prog 10 #[.int .i64 (n : Int)] w fun e w' => e = .returned (.string (str (digF n))) ∧ w' = w := by
  have hs : ∀ W, (Instr.slice 9 (.string ⟨#[48, 49, 50, 51, 52, 53, 54, 55, 56, 57]⟩) (some (.int .i64 (n : Int))) (some (.int .i64 ((n : Int) + 1))) none).run Tryz.prog W = .ok (.string (str (digF n))) W := fun W => by
    have := sl_both (str [48, 49, 50, 51, 52, 53, 54, 55, 56, 57]) n (n + 1) (by omega) (by rw [str_size]; simp; omega) (by rw [str_size]; decide) W
    rw [str_both, dig_piece n h] at this
    exact this
  have g : (n : Int) < 10 := by omega
  generalize str (digF n) = d at *
  go_enter Tryz.func10, Tryz.ntmps10
  go_wp2
  go_ret
  exact ⟨rfl, rfl⟩
theorem reps_len (l : List UInt8) : ∀ k, (reps k l).length = k * l.length
  | 0 => by simp [reps]
  | k + 1 => by rw [reps_succ, List.length_append, reps_len l k, Nat.succ_mul]
theorem str_app (a b : List UInt8) : str a ++ str b = str (a ++ b) := by
  apply bytes_ext
  rw [str_list]
  simp [str]
theorem row_cell {w : World} {B n : Nat} {v : Value} {ps : List (List UInt8)} (h : w.ownsRow B 9 1 v n (vals ps)) (h0 : 0 < n) : ∃ g cap, v = .slice (some ⟨g, 0, none⟩) n cap ∧ ∀ (j : Nat) p, ps[j]? = some p → w.cell? ⟨g, j, none⟩ = some (.string (str p)) := by
  rcases h.2 with ⟨_, hz⟩ | ⟨g, cap, cur, rfl, _, hg, hn, _, _, ht⟩
  · omega
  · refine ⟨g, cap, rfl, fun j p hp => ?_⟩
    rw [Lib.cell_of_heap hg]
    have h1 : (vals ps)[j]? = some (.string (str p)) := by unfold vals; rw [List.getElem?_map, hp]; rfl
    rw [← ht, Nat.mul_one, List.getElem?_take] at h1
    split at h1
    · rw [← Array.getElem?_toList]; exact h1
    · cases h1
set_option maxRecDepth 100000 in
set_option maxHeartbeats 4000000 in
theorem twice_out (a n : Int) (h : a < 0 ∨ 10 < a ∨ n < 1 ∨ 9 < n) {w : World} {bv : Value} (ha : Al w bv) : Calls Tryz.prog 5 #[.int .i64 a, .int .i64 n] w fun e w' => e = .returned (.bool true) ∧ Below w.heap.size w w' := by
  have HR := run_calls (str twT) (by rw [str_size]; decide) ha
  rw [str_list, twice_no] at HR
  have e1 : str [69, 114, 114, 82, 97, 110, 103, 101, 10] = ⟨#[69, 114, 114, 82, 97, 110, 103, 101, 10]⟩ := rfl
  have e2 : str twT = ⟨#[116, 119, 105, 99, 101, 32, 48, 10]⟩ := rfl
  rw [e1, e2] at HR
  clear e1 e2 ha
  by_cases h0 : a < 0
  · go_enter Tryz.func5, Tryz.ntmps5
    go_wp2_with (go_at_call 6; refine HR.mono ?_; rintro e w2 ⟨rfl, hb2⟩)
    go_ret
    exact ⟨rfl, hb2⟩
  by_cases h1 : 10 < a
  · go_enter Tryz.func5, Tryz.ntmps5
    go_wp2_with (go_at_call 6; refine HR.mono ?_; rintro e w2 ⟨rfl, hb2⟩)
    go_ret
    exact ⟨rfl, hb2⟩
  by_cases h2 : n < 1
  · go_enter Tryz.func5, Tryz.ntmps5
    go_wp2_with (go_at_call 6; refine HR.mono ?_; rintro e w2 ⟨rfl, hb2⟩)
    go_ret
    exact ⟨rfl, hb2⟩
  · have h3 : 9 < n := by omega
    clear h
    go_enter Tryz.func5, Tryz.ntmps5
    go_wp2_with (go_at_call 6; refine HR.mono ?_; rintro e w2 ⟨rfl, hb2⟩)
    go_ret
    exact ⟨rfl, hb2⟩
set_option maxRecDepth 100000 in
set_option maxHeartbeats 8000000 in
theorem twice_in (m n : Nat) (hm : m ≤ 10) (h1 : 1 ≤ n) (h9 : n ≤ 9) {w : World} {bv : Value} (ha : Al w bv) : Calls Tryz.prog 5 #[.int .i64 (m : Int), .int .i64 (n : Int)] w fun e w' => e = .returned (.bool true) ∧ Below w.heap.size w w' := by
  have HD : Hid (∀ w2, Calls Tryz.prog 10 #[.int .i64 (n : Int)] w2 fun e w' => e = .returned (.string (str (digF n))) ∧ w' = w2) := digit_calls n (by omega)
  have hlen : (sesT m n).length ≤ 3000 := by
    have := dig_len n
    have e1 : baseT.length = 25 := rfl
    have e2 : twT.length = 8 := rfl
    have e3 : cmT.length = 7 := rfl
    have e4 : rdT.length = 7 := rfl
    have e5 : enT.length = 19 := rfl
    simp only [sesT, List.length_append, reps_len, e1, e2, e3, e4, e5]
    omega
  have HR := run_calls (str (sesT m n)) (by rw [str_size]; omega) ha
  rw [str_list] at HR
  have hrl : (runL (sesT m n)).length ≤ 1000000 := by
    have h1 := ses_len (lnsF (sesT m n)) (newT 20)
    have h2 := lns_count (sesT m n)
    unfold runL
    rw [if_neg (by omega)]
    omega
  have HC : Hid (∀ w2, Calls Tryz.prog 7 #[.string (str (runL (sesT m n))), .int .u8 10] w2 fun e w' => ∃ v, e = .returned v ∧ w'.ownsRow w2.heap.size 9 1 v (outT m n).length (vals (outT m n)) ∧ Below w2.heap.size w2 w') := fun w2 => by
    have := cut_calls (runL (sesT m n)) 10 hrl w2
    rw [twice_is hm h1 h9] at this
    exact this
  obtain ⟨q, hq⟩ : ∃ q, q = 2 * m + 2 := ⟨_, rfl⟩
  obtain ⟨qa, hqa⟩ : ∃ qa, qa = q + 1 := ⟨_, rfl⟩
  obtain ⟨qb, hqb⟩ : ∃ qb, qb = q + 2 := ⟨_, rfl⟩
  obtain ⟨qc, hqc⟩ : ∃ qc, qc = q + 3 := ⟨_, rfl⟩
  obtain ⟨L, hL⟩ : ∃ L, L = q + 5 := ⟨_, rfl⟩
  have hA : 3 + 2 * (m : Int) = (qa : Int) := by omega
  have t0 : (qa : Int) - 1 = (q : Int) := by omega
  have t1 : (qa : Int) + 1 = (qb : Int) := by omega
  have t2 : (qa : Int) + 2 = (qc : Int) := by omega
  have t4 : (qa : Int) + 4 = (L : Int) := by omega
  have v0 : IntKind.i64.wrap (q : Int) = (q : Int) := Sx.wrap_small _ (by omega) (by omega)
  have v1 : IntKind.i64.wrap (qb : Int) = (qb : Int) := Sx.wrap_small _ (by omega) (by omega)
  have v2 : IntKind.i64.wrap (qc : Int) = (qc : Int) := Sx.wrap_small _ (by omega) (by omega)
  have v4 : IntKind.i64.wrap (L : Int) = (L : Int) := Sx.wrap_small _ (by omega) (by omega)
  have v5 : IntKind.i64.wrap (qa : Int) = (qa : Int) := Sx.wrap_small _ (by omega) (by omega)
  have b0 : (q : Int) < (L : Int) := by omega
  have b1 : (qa : Int) < (L : Int) := by omega
  have b2 : (qb : Int) < (L : Int) := by omega
  have b3 : (qc : Int) < (L : Int) := by omega
  have hol : (outT m n).length = L := by simp [outT]; omega
  have o1 : (outT m n)[q]? = some okL := by
    rw [hq]
    unfold outT
    rw [List.getElem?_append_left (by simp)]
    simp
  have o2 : (outT m n)[qa]? = some (abcT.take n) := by
    rw [hqa, hq]
    unfold outT
    rw [List.getElem?_append_right (by simp)]
    simp
  have o3 : (outT m n)[qb]? = some (restT n) := by
    rw [hqb, hq]
    unfold outT
    rw [List.getElem?_append_right (by simp)]
    simp
  have o4 : (outT m n)[qc]? = some [45] := by
    rw [hqc, hq]
    unfold outT
    rw [List.getElem?_append_right (by simp)]
    simp
  have hrs : (str (abcT.drop n) = ⟨#[]⟩ ∧ restT n = [45]) ∨ ((str (abcT.drop n)).toList.isEmpty = false ∧ restT n = abcT.drop n) := by
    unfold restT
    by_cases h : n = 9
    · subst h; exact .inl ⟨rfl, rfl⟩
    · refine .inr ⟨?_, if_neg h⟩
      rw [toList_data, str_list]
      cases e : abcT.drop n with
      | nil =>
        have := congrArg List.length e
        rw [List.length_drop, show abcT.length = 9 from rfl] at this
        simp at this
        omega
      | cons a l => rfl
  have sA : ∀ W, (Instr.slice 9 (.string ⟨#[97, 98, 99, 100, 101, 102, 103, 104, 105]⟩) (some (.int .i64 (n : Int))) none none).run Tryz.prog W = .ok (.string (str (abcT.drop n))) W := fun W => by
    have := sl_from (str abcT) n (by rw [str_size]; exact h9) (by rw [str_size]; decide) W
    rw [str_from] at this
    exact this
  have sB : ∀ W, (Instr.slice 9 (.string ⟨#[97, 98, 99, 100, 101, 102, 103, 104, 105]⟩) none (some (.int .i64 (n : Int))) none).run Tryz.prog W = .ok (.string (str (abcT.take n))) W := fun W => by
    have := sl_upto (str abcT) n (by rw [str_size]; exact h9) (by rw [str_size]; decide) W
    rw [str_upto] at this
    exact this
  have hS : Hid (((str ((baseT ++ reps m twT) ++ reps (m + 1) cmT) ++ str rdT) ++ str (digF n)) ++ str enT = str (sesT m n)) := by
    show _ = _
    rw [str_app, str_app, str_app]
    rfl
  have hL0 : 0 < L := by omega
  clear hlen hrl ha hq hqa hqb hqc hL
  generalize str (sesT m n) = ss at *
  generalize str (runL (sesT m n)) = rr at *
  generalize hdn : str (digF n) = dn at *
  have q0 : ¬ (m : Int) < 0 := by omega
  have q1 : ¬ (10 : Int) < (m : Int) := by omega
  have q2 : ¬ (n : Int) < 1 := by omega
  have q3 : ¬ (9 : Int) < (n : Int) := by omega
  go_enter Tryz.func5, Tryz.ntmps5
  go_wp2_with fail
  go_loopw [6, 7] (fun t i wr => ∃ k : Nat, k ≤ m ∧ i = .int .i64 k ∧ t = .string (str (baseT ++ reps k twT)) ∧ wr = w) (fun _ i _ => m - (intOf i).toNat)
  case atStart => exact ⟨0, Nat.zero_le _, rfl, rfl, rfl⟩
  case round =>
    obtain ⟨k, hk, rfl, rfl, hw⟩ := hrel
    obtain rfl := hw.symm
    by_cases hlt : k < m
    · have g1 : (k : Int) < (m : Int) := by omega
      have hov : ¬ 9223372036854775807 < (str (baseT ++ reps k twT)).size + 8 := by
        rw [str_size, List.length_append, reps_len, show baseT.length = 25 from rfl, show twT.length = 8 from rfl]
        omega
      go_wp2
      go_roundw
      case rel => exact ⟨k + 1, by omega, by simp, by rw [reps_succ, ← List.append_assoc]; exact congrArg Value.string (str_app _ _), trivial⟩
      case measure => simp [intOf]; omega
    · obtain rfl : m = k := by omega
      go_wp2
      go_loopw [6, 8] (fun t i wr => ∃ k : Nat, k ≤ m + 1 ∧ i = .int .i64 k ∧ t = .string (str ((baseT ++ reps m twT) ++ reps k cmT)) ∧ wr = w) (fun _ i _ => m + 1 - (intOf i).toNat)
      case atStart => exact ⟨0, Nat.zero_le _, rfl, by rw [show reps 0 cmT = [] from rfl, List.append_nil], rfl⟩
      case round =>
        obtain ⟨k, hk, rfl, rfl, hw⟩ := hrel
        obtain rfl := hw.symm
        have hsz : (str ((baseT ++ reps m twT) ++ reps k cmT)).size ≤ 300 := by
          rw [str_size, List.length_append, List.length_append, reps_len, reps_len, show baseT.length = 25 from rfl, show twT.length = 8 from rfl, show cmT.length = 7 from rfl]
          omega
        by_cases hlt : k ≤ m
        · have g1 : (k : Int) ≤ (m : Int) := by omega
          have hov : ¬ 9223372036854775807 < (str ((baseT ++ reps m twT) ++ reps k cmT)).size + 7 := by omega
          clear hsz
          go_wp2
          go_roundw
          case rel => exact ⟨k + 1, by omega, by simp, by rw [reps_succ, ← List.append_assoc (baseT ++ reps m twT) (reps k cmT) cmT]; exact congrArg Value.string (str_app _ _), trivial⟩
          case measure => simp [intOf]; omega
        · obtain rfl : k = m + 1 := by omega
          have g1 : ¬ ((m + 1 : Nat) : Int) ≤ (m : Int) := by omega
          have hdz : (str (digF n)).size ≤ 4 := by rw [str_size]; exact dig_len n
          rw [hdn] at hdz
          generalize hT : str ((baseT ++ reps m twT) ++ reps (m + 1) cmT) = st at *
          have hSS : ((st ++ ⟨#[114, 101, 97, 100, 32, 48, 32]⟩) ++ dn) ++ ⟨#[10, 114, 101, 97, 100, 32, 48, 32, 57, 10, 114, 101, 97, 100, 32, 48, 32, 57, 10]⟩ = ss := hS.out
          have hv1 : ¬ 9223372036854775807 < st.size + 7 := by omega
          have hv2 : ¬ 9223372036854775807 < st.size + 7 + dn.size := by omega
          have hv3 : ¬ 9223372036854775807 < st.size + 7 + dn.size + 19 := by omega
          rw [← hSS] at HR
          have HD2 := HD.out w
          clear hsz hdz hS hSS hT HD
          rcases hrs with ⟨hre, hrt⟩ | ⟨hre, hrt⟩
          · rw [hre] at sA
            rw [hrt] at o3
            clear hre hrt
            go_wp2_with (first | (go_at_call 10; refine HD2.mono ?_; clear HD2; rintro e w2 ⟨rfl, hw2⟩; obtain rfl := hw2.symm) | (go_at_call 6; refine HR.mono ?_; clear HR; rintro e w3 ⟨rfl, hb3⟩; have HC3 := HC.out w3) | (go_at_call 7; refine HC3.mono ?_; rintro e w4 ⟨v4, rfl, hr4, hb4⟩; clear HC3))
            obtain ⟨gb, cap, rfl, hcell⟩ := row_cell hr4 (by rw [hol]; exact hL0)
            have k1 : w4.drew.cell? ⟨gb, q, none⟩ = some (.string ⟨#[111, 107]⟩) := hcell _ _ o1
            have k2 : w4.drew.cell? ⟨gb, qa, none⟩ = some (.string (str (abcT.take n))) := hcell _ _ o2
            have k3 : w4.drew.cell? ⟨gb, qb, none⟩ = some (.string ⟨#[45]⟩) := hcell _ _ o3
            have k4 : w4.drew.cell? ⟨gb, qc, none⟩ = some (.string ⟨#[45]⟩) := hcell _ _ o4
            rw [hol]
            go_region
            all_goals go_wp2
            all_goals go_ret
            all_goals exact ⟨by simp, (hb3.trans (hb4.mono hb3.size)).drew⟩
          · rw [hrt] at o3
            clear hrt
            go_wp2_with (first | (go_at_call 10; refine HD2.mono ?_; clear HD2; rintro e w2 ⟨rfl, hw2⟩; obtain rfl := hw2.symm) | (go_at_call 6; refine HR.mono ?_; clear HR; rintro e w3 ⟨rfl, hb3⟩; have HC3 := HC.out w3) | (go_at_call 7; refine HC3.mono ?_; rintro e w4 ⟨v4, rfl, hr4, hb4⟩; clear HC3))
            obtain ⟨gb, cap, rfl, hcell⟩ := row_cell hr4 (by rw [hol]; exact hL0)
            have k1 : w4.drew.cell? ⟨gb, q, none⟩ = some (.string ⟨#[111, 107]⟩) := hcell _ _ o1
            have k2 : w4.drew.cell? ⟨gb, qa, none⟩ = some (.string (str (abcT.take n))) := hcell _ _ o2
            have k3 : w4.drew.cell? ⟨gb, qb, none⟩ = some (.string (str (abcT.drop n))) := hcell _ _ o3
            have k4 : w4.drew.cell? ⟨gb, qc, none⟩ = some (.string ⟨#[45]⟩) := hcell _ _ o4
            rw [hol]
            go_region
            all_goals go_wp2
            all_goals go_ret
            all_goals exact ⟨by simp, (hb3.trans (hb4.mono hb3.size)).drew⟩
theorem twice_calls (a n : Int) {w : World} {bv : Value} (ha : Al w bv) : Calls Tryz.prog 5 #[.int .i64 a, .int .i64 n] w fun e w' => e = .returned (.bool true) ∧ Below w.heap.size w w' := by
  by_cases h : a < 0 ∨ 10 < a ∨ n < 1 ∨ 9 < n
  · exact twice_out a n h ha
  · obtain ⟨m, rfl⟩ : ∃ m : Nat, a = m := ⟨a.toNat, by omega⟩
    obtain ⟨k, rfl⟩ : ∃ k : Nat, n = k := ⟨n.toNat, by omega⟩
    exact twice_in m k (by omega) (by omega) (by omega) ha
end Rn
end Go.Proofs.YtdokgalidhmbbaaGreatDoor
