/- LogOnce's walk. -/
import Derived.Test.YtegelodkopommaaLG
namespace Go.Proofs.Ytegelodkopommaa
open Go.RowKit Go.Lib Go.Sort
set_option linter.unusedVariables false
set_option linter.unusedSimpArgs false

open Lo
theorem s0_bad {n : Int} (h : isN n = false) : caB Lg.new n = false ∧ caF Lg.new n = 1 ∧ caS Lg.new n = Lg.new := by
  have r : rdy Lg.new n = false := by simp [rdy, h]
  refine ⟨by rw [caB, r]; rfl, by rw [caF, if_neg (by decide), if_neg (by rw [h]; decide)], by rw [caS, r]; rfl⟩
theorem s0_yes {n : Int} (h : isN n = true) : caB Lg.new n = true ∧ caF Lg.new n = 0 ∧ caS Lg.new n = (⟨[n], [], 0, -1, false⟩ : Lo.Lg) := by
  have r : rdy Lg.new n = true := by simp [rdy, Lg.new, rgN, first_add, h, memB]
  refine ⟨by rw [caB, r]; rfl, ?_, ?_⟩
  · rw [caF, if_neg (by decide), if_pos h, if_neg (by show ¬ 12 < (addL [] n).length; rw [first_add]; simp), if_neg (fun e => by have := e.2; simp [Lg.new] at this)]
  · rw [caS, if_pos r, if_neg (by simp [Lg.new])]; rfl
theorem s1_rg (n : Int) : rgN [n] = [(n, n)] := rfl
theorem s1_mem (n : Int) : memB [(n, n)] n = true := by simp [memB, inB]
theorem s1_bad {n m : Int} (h : isN m = false) : caB (⟨[n], [], 0, -1, false⟩ : Lo.Lg) m = false ∧ caF (⟨[n], [], 0, -1, false⟩ : Lo.Lg) m = 1 ∧ caS (⟨[n], [], 0, -1, false⟩ : Lo.Lg) m = (⟨[n], [], 0, -1, false⟩ : Lo.Lg) := by
  have r : rdy (⟨[n], [], 0, -1, false⟩ : Lo.Lg) m = false := by simp [rdy, h]
  refine ⟨by rw [caB, r]; rfl, by rw [caF, if_neg (by simp), if_neg (by rw [h]; decide)], by rw [caS, r]; rfl⟩
theorem s1_again {n : Int} (h : isN n = true) : caB (⟨[n], [], 0, -1, false⟩ : Lo.Lg) n = false ∧ caF (⟨[n], [], 0, -1, false⟩ : Lo.Lg) n = 0 ∧ caS (⟨[n], [], 0, -1, false⟩ : Lo.Lg) n = (⟨[n], [], 0, -1, false⟩ : Lo.Lg) := by
  have r : rdy (⟨[n], [], 0, -1, false⟩ : Lo.Lg) n = false := by simp [rdy, s1_rg, s1_mem]
  have l := two_add (n := n) (m := n)
  refine ⟨by rw [caB, r]; rfl, ?_, by rw [caS, r]; rfl⟩
  rw [caF, if_neg (by simp), if_pos h, if_neg (by show ¬ 12 < (addL (rgN [n]) n).length; rw [s1_rg]; omega), if_neg (fun e => by rw [r] at e; exact Bool.noConfusion e.1)]
theorem s1_yes {n m : Int} (h : isN m = true) (hne : m ≠ n) : caB (⟨[n], [], 0, -1, false⟩ : Lo.Lg) m = true ∧ caF (⟨[n], [], 0, -1, false⟩ : Lo.Lg) m = 0 ∧ (caS (⟨[n], [], 0, -1, false⟩ : Lo.Lg) m).bs.length = 8 := by
  have l := two_add (n := n) (m := m)
  have hm : memB [(n, n)] m = false := by
    rw [memB_no]
    rintro ⟨r, hr, a, b⟩
    simp at hr
    subst hr
    exact hne (by simp at a b; omega)
  have r : rdy (⟨[n], [], 0, -1, false⟩ : Lo.Lg) m = true := by
    have : (addL [(n, n)] m).length ≤ 12 := by omega
    simp [rdy, s1_rg, hm, h, this]
  refine ⟨by rw [caB, r]; rfl, ?_, ?_⟩
  · rw [caF, if_neg (by simp), if_pos h, if_neg (by show ¬ 12 < (addL (rgN [n]) m).length; rw [s1_rg]; omega), if_neg (fun e => by have := e.2; simp at this)]
  · rw [caS, if_pos r, if_neg (by simp), Lg.bs_length]; rfl

set_option maxRecDepth 100000 in
set_option maxHeartbeats 2000000 in
theorem once_a (n m : Int) (w : World) (h1 : isN n = false) (h0 : n < 0) : Calls Try.prog 3 #[.int .i64 n, .int .i64 m] w fun e w' => e = .returned (.bool true) ∧ Below w.heap.size w w' := by
  go_enter Try.func3, Try.ntmps3
  go_wp2_with fail
  refine (q_new (Below.refl _ _)).mono ?_
  rintro e w1 ⟨lb, rfl, hq⟩
  go_wp2_with fail
  have hc := q_came hq n (by simp [Lg.new])
  rw [(s0_bad h1).1, (s0_bad h1).2.1, (s0_bad h1).2.2] at hc
  rw [errV_f (by decide)] at hc
  refine hc.mono ?_
  clear hc hq
  rintro e w2 ⟨rfl, hq⟩
  go_wp2_with fail
  have hb := q_bytes hq
  rw [show (Lg.new).bs.length = 0 from rfl] at hb
  refine hb.mono ?_
  clear hb
  rintro e w2 ⟨rfl, hw⟩
  obtain rfl := hw.symm
  go_wp2_with fail
  go_ret
  exact ⟨rfl, hq.bel⟩

set_option maxRecDepth 100000 in
set_option maxHeartbeats 2000000 in
theorem once_b (n m : Int) (w : World) (h1 : isN n = false) (h0 : ¬ n < 0) (h2 : 1073741823 < n) : Calls Try.prog 3 #[.int .i64 n, .int .i64 m] w fun e w' => e = .returned (.bool true) ∧ Below w.heap.size w w' := by
  go_enter Try.func3, Try.ntmps3
  go_wp2_with fail
  refine (q_new (Below.refl _ _)).mono ?_
  rintro e w1 ⟨lb, rfl, hq⟩
  go_wp2_with fail
  have hc := q_came hq n (by simp [Lg.new])
  rw [(s0_bad h1).1, (s0_bad h1).2.1, (s0_bad h1).2.2] at hc
  rw [errV_f (by decide)] at hc
  refine hc.mono ?_
  clear hc hq
  rintro e w2 ⟨rfl, hq⟩
  go_wp2_with fail
  have hb := q_bytes hq
  rw [show (Lg.new).bs.length = 0 from rfl] at hb
  refine hb.mono ?_
  clear hb
  rintro e w2 ⟨rfl, hw⟩
  obtain rfl := hw.symm
  go_wp2_with fail
  go_ret
  exact ⟨rfl, hq.bel⟩

set_option maxRecDepth 100000 in
set_option maxHeartbeats 2000000 in
theorem once_c (n m : Int) (w : World) (h1 : isN n = true) (h2 : isN m = false) : Calls Try.prog 3 #[.int .i64 n, .int .i64 m] w fun e w' => e = .returned (.bool true) ∧ Below w.heap.size w w' := by
  go_enter Try.func3, Try.ntmps3
  go_wp2_with fail
  refine (q_new (Below.refl _ _)).mono ?_
  rintro e w1 ⟨lb, rfl, hq⟩
  go_wp2_with fail
  have hc := q_came hq n (by simp [Lg.new])
  rw [(s0_yes h1).1, (s0_yes h1).2.1, (s0_yes h1).2.2] at hc
  rw [errV_0] at hc
  refine hc.mono ?_
  clear hc hq
  rintro e w2 ⟨rfl, hq⟩
  go_wp2_with fail
  have hb := q_bytes hq
  rw [show ((⟨[n], [], 0, -1, false⟩ : Lo.Lg)).bs.length = 4 from rfl] at hb
  refine hb.mono ?_
  clear hb
  rintro e w2 ⟨rfl, hw⟩
  obtain rfl := hw.symm
  go_wp2_with fail
  have hc := q_came hq n (by simp)
  rw [(s1_again h1).1, (s1_again h1).2.1, (s1_again h1).2.2] at hc
  rw [errV_0] at hc
  refine hc.mono ?_
  clear hc hq
  rintro e w2 ⟨rfl, hq⟩
  go_wp2_with fail
  have hb := q_bytes hq
  rw [show ((⟨[n], [], 0, -1, false⟩ : Lo.Lg)).bs.length = 4 from rfl] at hb
  refine hb.mono ?_
  clear hb
  rintro e w2 ⟨rfl, hw⟩
  obtain rfl := hw.symm
  go_wp2_with fail
  have hc := q_came hq m (by simp)
  rw [(s1_bad h2).1, (s1_bad h2).2.1, (s1_bad h2).2.2] at hc
  rw [errV_f (by decide)] at hc
  refine hc.mono ?_
  clear hc hq
  rintro e w2 ⟨rfl, hq⟩
  go_wp2_with fail
  have hb := q_bytes hq
  rw [show ((⟨[n], [], 0, -1, false⟩ : Lo.Lg)).bs.length = 4 from rfl] at hb
  refine hb.mono ?_
  clear hb
  rintro e w2 ⟨rfl, hw⟩
  obtain rfl := hw.symm
  go_wp2_with fail
  go_ret
  exact ⟨rfl, hq.bel⟩

set_option maxRecDepth 100000 in
set_option maxHeartbeats 2000000 in
theorem once_d (n : Int) (w : World) (h1 : isN n = true) : Calls Try.prog 3 #[.int .i64 n, .int .i64 n] w fun e w' => e = .returned (.bool true) ∧ Below w.heap.size w w' := by
  go_enter Try.func3, Try.ntmps3
  go_wp2_with fail
  refine (q_new (Below.refl _ _)).mono ?_
  rintro e w1 ⟨lb, rfl, hq⟩
  go_wp2_with fail
  have hc := q_came hq n (by simp [Lg.new])
  rw [(s0_yes h1).1, (s0_yes h1).2.1, (s0_yes h1).2.2] at hc
  rw [errV_0] at hc
  refine hc.mono ?_
  clear hc hq
  rintro e w2 ⟨rfl, hq⟩
  go_wp2_with fail
  have hb := q_bytes hq
  rw [show ((⟨[n], [], 0, -1, false⟩ : Lo.Lg)).bs.length = 4 from rfl] at hb
  refine hb.mono ?_
  clear hb
  rintro e w2 ⟨rfl, hw⟩
  obtain rfl := hw.symm
  go_wp2_with fail
  have hc := q_came hq n (by simp)
  rw [(s1_again h1).1, (s1_again h1).2.1, (s1_again h1).2.2] at hc
  rw [errV_0] at hc
  refine hc.mono ?_
  clear hc hq
  rintro e w2 ⟨rfl, hq⟩
  go_wp2_with fail
  have hb := q_bytes hq
  rw [show ((⟨[n], [], 0, -1, false⟩ : Lo.Lg)).bs.length = 4 from rfl] at hb
  refine hb.mono ?_
  clear hb
  rintro e w2 ⟨rfl, hw⟩
  obtain rfl := hw.symm
  go_wp2_with fail
  have hc := q_came hq n (by simp)
  rw [(s1_again h1).1, (s1_again h1).2.1, (s1_again h1).2.2] at hc
  rw [errV_0] at hc
  refine hc.mono ?_
  clear hc hq
  rintro e w2 ⟨rfl, hq⟩
  go_wp2_with fail
  have hb := q_bytes hq
  rw [show ((⟨[n], [], 0, -1, false⟩ : Lo.Lg)).bs.length = 4 from rfl] at hb
  refine hb.mono ?_
  clear hb
  rintro e w2 ⟨rfl, hw⟩
  obtain rfl := hw.symm
  go_wp2_with fail
  go_ret
  exact ⟨rfl, hq.bel⟩

set_option maxRecDepth 100000 in
set_option maxHeartbeats 2000000 in
theorem once_e (n m : Int) (w : World) (h1 : isN n = true) (h2 : isN m = true) (h3 : m ≠ n) : Calls Try.prog 3 #[.int .i64 n, .int .i64 m] w fun e w' => e = .returned (.bool true) ∧ Below w.heap.size w w' := by
  have hmn : (m != n) = true := by simpa using h3
  go_enter Try.func3, Try.ntmps3
  go_wp2_with fail
  refine (q_new (Below.refl _ _)).mono ?_
  rintro e w1 ⟨lb, rfl, hq⟩
  go_wp2_with fail
  have hc := q_came hq n (by simp [Lg.new])
  rw [(s0_yes h1).1, (s0_yes h1).2.1, (s0_yes h1).2.2] at hc
  rw [errV_0] at hc
  refine hc.mono ?_
  clear hc hq
  rintro e w2 ⟨rfl, hq⟩
  go_wp2_with fail
  have hb := q_bytes hq
  rw [show ((⟨[n], [], 0, -1, false⟩ : Lo.Lg)).bs.length = 4 from rfl] at hb
  refine hb.mono ?_
  clear hb
  rintro e w2 ⟨rfl, hw⟩
  obtain rfl := hw.symm
  go_wp2_with fail
  have hc := q_came hq n (by simp)
  rw [(s1_again h1).1, (s1_again h1).2.1, (s1_again h1).2.2] at hc
  rw [errV_0] at hc
  refine hc.mono ?_
  clear hc hq
  rintro e w2 ⟨rfl, hq⟩
  go_wp2_with fail
  have hb := q_bytes hq
  rw [show ((⟨[n], [], 0, -1, false⟩ : Lo.Lg)).bs.length = 4 from rfl] at hb
  refine hb.mono ?_
  clear hb
  rintro e w2 ⟨rfl, hw⟩
  obtain rfl := hw.symm
  go_wp2_with fail
  have hc := q_came hq m (by simp)
  rw [(s1_yes h2 h3).1, (s1_yes h2 h3).2.1] at hc
  rw [errV_0] at hc
  refine hc.mono ?_
  clear hc hq
  rintro e w2 ⟨rfl, hq⟩
  go_wp2_with fail
  have hb := q_bytes hq
  rw [(s1_yes h2 h3).2.2] at hb
  refine hb.mono ?_
  clear hb
  rintro e w2 ⟨rfl, hw⟩
  obtain rfl := hw.symm
  go_wp2_with fail
  go_ret
  exact ⟨rfl, hq.bel⟩

theorem once_walk (n m : Int) (w : World) : Calls Try.prog 3 #[.int .i64 n, .int .i64 m] w fun e w' => e = .returned (.bool true) ∧ Below w.heap.size w w' := by
  cases h1 : isN n with
  | false =>
    by_cases h0 : n < 0
    · exact once_a n m w h1 h0
    · exact once_b n m w h1 h0 (by have := (isN_no n).1 h1; omega)
  | true =>
    cases h2 : isN m with
    | false => exact once_c n m w h1 h2
    | true =>
      by_cases h3 : m = n
      · subst h3; exact once_d _ w h1
      · exact once_e n m w h1 h2 h3
end Go.Proofs.Ytegelodkopommaa
