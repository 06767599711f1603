/- The walk of the law MoveNone. -/
import Derived.Test.YtpnblfabdioanaaDoorMF
import Derived.Test.YtpnblfabdioanaaDoorK
namespace Go.Proofs.YtpnblfabdioanaaDoor
open Go.RowKit Go.Lib Go.Sort
set_option linter.unusedVariables false
set_option linter.unusedSimpArgs false

def S1 (n : Int) : Mv := ⟨fun _ => 0, fun _ => 0, fun k => decide (k = 0), 0, 4, [n], [(0, n)], []⟩
def S2 (n : Int) : Mv := ⟨fun k => if k = 2 then 9 else 0, fun _ => 0, fun k => decide (k = 0), 0, 4, [n], [(0, n)], []⟩
def S3 (n o : Int) : Mv := ⟨fun k => if k = 2 then 9 else 0, fun _ => 0, fun k => decide (k = 0), 0, 4, [n], [(0, n)], [(2, o, 1)]⟩
def S4 (n o : Int) : Mv := ⟨fun k => if k = 2 then 9 else 0, fun _ => 0, fun k => decide (k = 0 ∨ k = 2), 0, 4, [n], [(0, n)], []⟩
theorem a1 : whF (Mv.start 4) = 5 := rfl
theorem a2 : whI (Mv.start 4) = 0 := rfl
theorem a3 : whQ (Mv.start 4) = 0 := rfl
theorem b1 {n : Int} (h : Ix.nameB n = true) : issF (Mv.start 4) n = 0 := by simp [issF, h, Mv.start, Ix.fullB]
theorem b2 {n : Int} (h : Ix.nameB n = true) : offS (Mv.start 4) n = S1 n := by simp only [offS, b1 h, if_true]; rfl
theorem b3 {n : Int} (h : Ix.nameB n = false) : issF (Mv.start 4) n = 1 := by simp [issF, h]
theorem b4 {n : Int} (h : Ix.nameB n = false) : offS (Mv.start 4) n = Mv.start 4 := by simp [offS, b3 h]
theorem c1 (n : Int) : cmF (S1 n) 2 9 = 0 := by
  show Px.cameF 0 0 false 9 = 0
  decide
theorem c2 (n : Int) : cmS (S1 n) 2 9 = S2 n := by
  simp only [cmS, c1, if_true]
  simp only [Mv.setP, S1, S2]
  have e3 : (fun k => if k = (2 : Int).toNat then decide ((2 : Int).toNat = 0) else decide (k = 0)) = fun k => decide (k = 0) := by
    funext k
    by_cases e : k = (2 : Int).toNat
    · subst e; simp
    · rw [if_neg e]
  have e2 : (fun k => if k = (2 : Int).toNat then (0 : Int) else 0) = fun _ => 0 := by funext k; simp
  rw [e3, e2]
  rfl
theorem d1 (n : Int) {o : Int} (h : Ox.numB o = true) : akF (S2 n) 2 o 1 = 0 := by
  have hr : Ox.rightB 2 o 1 = true := by simp [Ox.rightB, Ox.pathB, h, Ox.timeB]
  have e : akF (S2 n) 2 o 1 = Ox.askF [] 2 o 1 := rfl
  rw [e]
  simp [Ox.askF, hr, Ox.isIn]
theorem d2 (n : Int) {o : Int} (h : Ox.numB o = true) : akS (S2 n) 2 o 1 = S3 n o := by
  have hr : Ox.rightB 2 o 1 = true := by simp [Ox.rightB, Ox.pathB, h, Ox.timeB]
  have e : Ox.askL [] 2 o 1 = [(2, o, 1)] := by simp [Ox.askL, Ox.askF, hr, Ox.isIn]
  simp only [akS, d1 n h, if_true]
  simp only [S2, S3, e]
theorem d3 (n : Int) {o : Int} (h : Ox.numB o = false) : akF (S2 n) 2 o 1 = 1 := by
  have hr : Ox.rightB 2 o 1 = false := by simp [Ox.rightB, h]
  have e : akF (S2 n) 2 o 1 = Ox.askF [] 2 o 1 := rfl
  rw [e]
  simp [Ox.askF, hr]
theorem e1 (n o : Int) : mvF (S3 n o) 2 = 6 := rfl
theorem e2 (n o : Int) : mvS (S3 n o) 2 = S3 n o := rfl
theorem f0 {o : Int} (h : Ox.numB o = true) : Ox.ansF 2 o 3 5 = 0 := by simp [Ox.ansF, Ox.rightB, Ox.pathB, h, Ox.timeB]
theorem f1 (n : Int) {o : Int} (h : Ox.numB o = true) : Ox.ansB (S3 n o).os 2 o 3 5 = true := by simp [Ox.ansB, f0 h, S3, Ox.soB, Ox.hit]
theorem f2 (n : Int) {o : Int} (h : Ox.numB o = true) : anS (S3 n o) 2 o 3 5 = S4 n o := by
  have hB := f1 n h
  have hl : Ox.ansL (S3 n o).os 2 o 3 5 = [] := by
    simp only [Ox.ansL, hB, if_true]
    simp [Ox.gone, S3]
  have e3 : (fun k => if k = (2 : Int).toNat ∧ (S3 n o).pi k ≠ 0 then true else (S3 n o).pk k) = (S4 n o).pk := by
    funext k
    by_cases e : k = 2
    · subst e
      rfl
    · rw [if_neg (fun h => e h.1)]
      show decide (k = 0) = decide (k = 0 ∨ k = 2)
      simp [e]
  simp only [anS, hB, if_true, hl, e3]
  rfl
theorem g1 (n o : Int) : mvF (S4 n o) 2 = 5 := rfl
theorem g2 (n o : Int) : mvS (S4 n o) 2 = S4 n o := rfl
theorem g3 (n o : Int) : mvF (S4 n o) 0 = 7 := rfl
theorem g4 (n o : Int) : mvS (S4 n o) 0 = S4 n o := rfl
theorem g5 (n o : Int) : whF (S4 n o) = 0 := rfl
theorem g6 (n o : Int) : whI (S4 n o) = 0 := rfl
theorem g7 (n o : Int) : whQ (S4 n o) = 0 := rfl

set_option maxRecDepth 100000 in
set_option maxHeartbeats 2000000 in
theorem none_a (n o : Int) (w : World) (hH : Handle w) (hn : n < 0) : Calls Tryd.prog 3 #[.int .i64 n, .int .i64 o] w fun e w' => e = .returned (.bool true) ∧ Below w.heap.size w w' := by
  have hb : Ix.nameB n = false := decide_eq_false (by omega)
  go_enter Tryd.func3, Tryd.ntmps3
  go_wp2_with fail
  refine (q_new 4 (by decide) (Below.refl w.heap.size w)).mono ?_
  rintro e w0 ⟨mb, rfl, h0, _⟩
  have hs := q_where h0
  rw [a1, a2, a3, errV_f (show (5 : Int) ≠ 0 by decide)] at hs
  go_wp2_with fail
  refine hs.mono ?_
  rintro e w1 ⟨rfl, h1⟩
  clear hs
  have hs := q_offer h1 n
  rw [b3 hb, b4 hb, errV_f (show (1 : Int) ≠ 0 by decide)] at hs
  go_wp2_with fail
  refine hs.mono ?_
  rintro e w2 ⟨rfl, h2⟩
  clear hs
  have hs := same_err 5 5 w2 (hH.below h2.bel)
  go_wp2_with fail
  refine hs.mono ?_
  rintro e w3 ⟨rfl, hb⟩
  have h3 := h2.below hb
  clear hs hb
  go_wp2_with fail
  go_ret
  exact ⟨rfl, h3.bel⟩

set_option maxRecDepth 100000 in
set_option maxHeartbeats 2000000 in
theorem none_b (n o : Int) (w : World) (hH : Handle w) (hn : 1073741823 < n) : Calls Tryd.prog 3 #[.int .i64 n, .int .i64 o] w fun e w' => e = .returned (.bool true) ∧ Below w.heap.size w w' := by
  have hb : Ix.nameB n = false := decide_eq_false (by omega)
  have hn0 : ¬ n < 0 := by omega
  go_enter Tryd.func3, Tryd.ntmps3
  go_wp2_with fail
  refine (q_new 4 (by decide) (Below.refl w.heap.size w)).mono ?_
  rintro e w0 ⟨mb, rfl, h0, _⟩
  have hs := q_where h0
  rw [a1, a2, a3, errV_f (show (5 : Int) ≠ 0 by decide)] at hs
  go_wp2_with fail
  refine hs.mono ?_
  rintro e w1 ⟨rfl, h1⟩
  clear hs
  have hs := q_offer h1 n
  rw [b3 hb, b4 hb, errV_f (show (1 : Int) ≠ 0 by decide)] at hs
  go_wp2_with fail
  refine hs.mono ?_
  rintro e w2 ⟨rfl, h2⟩
  clear hs
  have hs := same_err 5 5 w2 (hH.below h2.bel)
  go_wp2_with fail
  refine hs.mono ?_
  rintro e w3 ⟨rfl, hb⟩
  have h3 := h2.below hb
  clear hs hb
  go_wp2_with fail
  go_ret
  exact ⟨rfl, h3.bel⟩

set_option maxRecDepth 100000 in
set_option maxHeartbeats 2000000 in
theorem none_c (n o : Int) (w : World) (hH : Handle w) (hb : Ix.nameB n = true) (hn : o < 0) : Calls Tryd.prog 3 #[.int .i64 n, .int .i64 o] w fun e w' => e = .returned (.bool true) ∧ Below w.heap.size w w' := by
  have ho : Ox.numB o = false := decide_eq_false (by omega)
  go_enter Tryd.func3, Tryd.ntmps3
  go_wp2_with fail
  refine (q_new 4 (by decide) (Below.refl w.heap.size w)).mono ?_
  rintro e w0 ⟨mb, rfl, h0, _⟩
  have hs := q_where h0
  rw [a1, a2, a3, errV_f (show (5 : Int) ≠ 0 by decide)] at hs
  go_wp2_with fail
  refine hs.mono ?_
  rintro e w1 ⟨rfl, h1⟩
  clear hs
  have hs := q_offer h1 n
  rw [b1 hb, b2 hb, errV_0] at hs
  go_wp2_with fail
  refine hs.mono ?_
  rintro e w2 ⟨rfl, h2⟩
  clear hs
  have hs := q_came h2 2 9
  rw [c1, c2, errV_0] at hs
  go_wp2_with fail
  refine hs.mono ?_
  rintro e w3 ⟨rfl, h3⟩
  clear hs
  have hs := q_ask h3 2 o 1
  rw [d3 n ho, errV_f (show (1 : Int) ≠ 0 by decide)] at hs
  go_wp2_with fail
  refine hs.mono ?_
  rintro e w4 ⟨rfl, h4⟩
  clear hs
  go_wp2_with fail
  go_ret
  exact ⟨rfl, h4.bel⟩

set_option maxRecDepth 100000 in
set_option maxHeartbeats 2000000 in
theorem none_d (n o : Int) (w : World) (hH : Handle w) (hb : Ix.nameB n = true) (hn : 1073741823 < o) : Calls Tryd.prog 3 #[.int .i64 n, .int .i64 o] w fun e w' => e = .returned (.bool true) ∧ Below w.heap.size w w' := by
  have ho : Ox.numB o = false := decide_eq_false (by omega)
  have hn0 : ¬ o < 0 := by omega
  go_enter Tryd.func3, Tryd.ntmps3
  go_wp2_with fail
  refine (q_new 4 (by decide) (Below.refl w.heap.size w)).mono ?_
  rintro e w0 ⟨mb, rfl, h0, _⟩
  have hs := q_where h0
  rw [a1, a2, a3, errV_f (show (5 : Int) ≠ 0 by decide)] at hs
  go_wp2_with fail
  refine hs.mono ?_
  rintro e w1 ⟨rfl, h1⟩
  clear hs
  have hs := q_offer h1 n
  rw [b1 hb, b2 hb, errV_0] at hs
  go_wp2_with fail
  refine hs.mono ?_
  rintro e w2 ⟨rfl, h2⟩
  clear hs
  have hs := q_came h2 2 9
  rw [c1, c2, errV_0] at hs
  go_wp2_with fail
  refine hs.mono ?_
  rintro e w3 ⟨rfl, h3⟩
  clear hs
  have hs := q_ask h3 2 o 1
  rw [d3 n ho, errV_f (show (1 : Int) ≠ 0 by decide)] at hs
  go_wp2_with fail
  refine hs.mono ?_
  rintro e w4 ⟨rfl, h4⟩
  clear hs
  go_wp2_with fail
  go_ret
  exact ⟨rfl, h4.bel⟩

set_option maxRecDepth 100000 in
set_option maxHeartbeats 2000000 in
theorem none_e (n o : Int) (w : World) (hH : Handle w) (hb : Ix.nameB n = true) (ho : Ox.numB o = true) : Calls Tryd.prog 3 #[.int .i64 n, .int .i64 o] w fun e w' => e = .returned (.bool true) ∧ Below w.heap.size w w' := by
  go_enter Tryd.func3, Tryd.ntmps3
  go_wp2_with fail
  refine (q_new 4 (by decide) (Below.refl w.heap.size w)).mono ?_
  rintro e w0 ⟨mb, rfl, h0, _⟩
  have hs := q_where h0
  rw [a1, a2, a3, errV_f (show (5 : Int) ≠ 0 by decide)] at hs
  go_wp2_with fail
  refine hs.mono ?_
  rintro e w1 ⟨rfl, h1⟩
  clear hs
  have hs := q_offer h1 n
  rw [b1 hb, b2 hb, errV_0] at hs
  go_wp2_with fail
  refine hs.mono ?_
  rintro e w2 ⟨rfl, h2⟩
  clear hs
  have hs := q_came h2 2 9
  rw [c1, c2, errV_0] at hs
  go_wp2_with fail
  refine hs.mono ?_
  rintro e w3 ⟨rfl, h3⟩
  clear hs
  have hs := q_ask h3 2 o 1
  rw [d1 n ho, d2 n ho, errV_0] at hs
  go_wp2_with fail
  refine hs.mono ?_
  rintro e w4 ⟨rfl, h4⟩
  clear hs
  have hs := q_move h4 2
  rw [e1, e2, errV_f (show (6 : Int) ≠ 0 by decide)] at hs
  go_wp2_with fail
  refine hs.mono ?_
  rintro e w5 ⟨rfl, h5⟩
  clear hs
  have hs := q_answer h5 2 o 3 5
  rw [f0 ho, f1 n ho, f2 n ho, errV_0] at hs
  go_wp2_with fail
  refine hs.mono ?_
  rintro e w6 ⟨rfl, h6⟩
  clear hs
  have hs := q_move h6 2
  rw [g1, g2, errV_f (show (5 : Int) ≠ 0 by decide)] at hs
  go_wp2_with fail
  refine hs.mono ?_
  rintro e w7 ⟨rfl, h7⟩
  clear hs
  have hs := q_move h7 0
  rw [g3, g4, errV_f (show (7 : Int) ≠ 0 by decide)] at hs
  go_wp2_with fail
  refine hs.mono ?_
  rintro e w8 ⟨rfl, h8⟩
  clear hs
  have hs := q_where h8
  rw [g5, g6, g7, errV_0] at hs
  go_wp2_with fail
  refine hs.mono ?_
  rintro e w9 ⟨rfl, h9⟩
  clear hs
  have hs := same_err 5 5 w9 (hH.below h9.bel)
  go_wp2_with fail
  refine hs.mono ?_
  rintro e w10 ⟨rfl, hb⟩
  have h10 := h9.below hb
  clear hs hb
  have hs := same_err 6 6 w10 (hH.below h10.bel)
  go_wp2_with fail
  refine hs.mono ?_
  rintro e w11 ⟨rfl, hb⟩
  have h11 := h10.below hb
  clear hs hb
  have hs := same_err 5 5 w11 (hH.below h11.bel)
  go_wp2_with fail
  refine hs.mono ?_
  rintro e w12 ⟨rfl, hb⟩
  have h12 := h11.below hb
  clear hs hb
  have hs := same_err 7 7 w12 (hH.below h12.bel)
  go_wp2_with fail
  refine hs.mono ?_
  rintro e w13 ⟨rfl, hb⟩
  have h13 := h12.below hb
  clear hs hb
  go_wp2_with fail
  go_ret
  exact ⟨rfl, h13.bel⟩
theorem none_calls (n o : Int) (w : World) (hH : Handle w) : Calls Tryd.prog 3 #[.int .i64 n, .int .i64 o] w fun e w' => e = .returned (.bool true) ∧ Below w.heap.size w w' := by
  cases hb : Ix.nameB n with
  | false =>
    rcases Ix.nameB_no hb with h | h
    · exact none_a n o w hH h
    · exact none_b n o w hH h
  | true =>
    cases ho : Ox.numB o with
    | false =>
      have := of_decide_eq_false ho
      by_cases h : o < 0
      · exact none_c n o w hH hb h
      · exact none_d n o w hH hb (by omega)
    | true => exact none_e n o w hH hb ho
end Go.Proofs.YtpnblfabdioanaaDoor
