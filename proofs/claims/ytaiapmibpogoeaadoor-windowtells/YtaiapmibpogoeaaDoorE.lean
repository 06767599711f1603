/- What the document's Window answers; whether two windows are the same; windows in boxes of their own: what the law WindowTells keeps from call to call. -/
import Derived.Test.YtaiapmibpogoeaaDoorD
import Derived.Test.YtaiapmibpogoeaaDoorK
import Derived.Laws.StructEq
namespace Go.Proofs.YtaiapmibpogoeaaDoor
open Go.RowKit Go.Lib Go.Sort
set_option linter.unusedVariables false
set_option linter.unusedSimpArgs false

set_option maxRecDepth 100000 in
set_option maxHeartbeats 2000000 in
theorem rwin_0 (s l y n : Int) (w : World)  (h0 : s < 400) : Calls Tryd.prog 6 #[win s l y, .int .i64 n] w fun e w' => e = .returned (.int .i64 1) ∧ Below w.heap.size w w' := by
  go_enter Tryd.func6, Tryd.ntmps6
  go_wp2_with fail
  go_ret
  exact ⟨rfl, below_put _ _ _ _⟩
set_option maxRecDepth 100000 in
set_option maxHeartbeats 2000000 in
theorem rwin_1 (s l y n : Int) (w : World) (h0 : 400 ≤ s) (h1 : 100000 < s) : Calls Tryd.prog 6 #[win s l y, .int .i64 n] w fun e w' => e = .returned (.int .i64 1) ∧ Below w.heap.size w w' := by
  go_enter Tryd.func6, Tryd.ntmps6
  go_wp2_with fail
  go_ret
  exact ⟨rfl, below_put _ _ _ _⟩
set_option maxRecDepth 100000 in
set_option maxHeartbeats 2000000 in
theorem rwin_2 (s l y n : Int) (w : World) (h0 : 400 ≤ s) (h1 : s ≤ 100000) (h2 : l < 400) : Calls Tryd.prog 6 #[win s l y, .int .i64 n] w fun e w' => e = .returned (.int .i64 1) ∧ Below w.heap.size w w' := by
  go_enter Tryd.func6, Tryd.ntmps6
  go_wp2_with fail
  go_ret
  exact ⟨rfl, below_put _ _ _ _⟩
set_option maxRecDepth 100000 in
set_option maxHeartbeats 2000000 in
theorem rwin_3 (s l y n : Int) (w : World) (h0 : 400 ≤ s) (h1 : s ≤ 100000) (h2 : 400 ≤ l) (h3 : 100000 < l) : Calls Tryd.prog 6 #[win s l y, .int .i64 n] w fun e w' => e = .returned (.int .i64 1) ∧ Below w.heap.size w w' := by
  go_enter Tryd.func6, Tryd.ntmps6
  go_wp2_with fail
  go_ret
  exact ⟨rfl, below_put _ _ _ _⟩
set_option maxRecDepth 100000 in
set_option maxHeartbeats 2000000 in
theorem rwin_4 (s l y n : Int) (w : World) (h0 : 400 ≤ s) (h1 : s ≤ 100000) (h2 : 400 ≤ l) (h3 : l ≤ 100000) (h4 : y < 0) : Calls Tryd.prog 6 #[win s l y, .int .i64 n] w fun e w' => e = .returned (.int .i64 1) ∧ Below w.heap.size w w' := by
  go_enter Tryd.func6, Tryd.ntmps6
  go_wp2_with fail
  go_ret
  exact ⟨rfl, below_put _ _ _ _⟩
set_option maxRecDepth 100000 in
set_option maxHeartbeats 2000000 in
theorem rwin_5 (s l y n : Int) (w : World) (h0 : 400 ≤ s) (h1 : s ≤ 100000) (h2 : 400 ≤ l) (h3 : l ≤ 100000) (h4 : 0 ≤ y) (h5 : 100000 < y) : Calls Tryd.prog 6 #[win s l y, .int .i64 n] w fun e w' => e = .returned (.int .i64 1) ∧ Below w.heap.size w w' := by
  go_enter Tryd.func6, Tryd.ntmps6
  go_wp2_with fail
  go_ret
  exact ⟨rfl, below_put _ _ _ _⟩
set_option maxRecDepth 100000 in
set_option maxHeartbeats 2000000 in
theorem rwin_6 (s l y n : Int) (w : World) (h0 : 400 ≤ s) (h1 : s ≤ 100000) (h2 : 400 ≤ l) (h3 : l ≤ 100000) (h4 : 0 ≤ y) (h5 : y ≤ 100000) (h6 : n < 1) : Calls Tryd.prog 6 #[win s l y, .int .i64 n] w fun e w' => e = .returned (.int .i64 1) ∧ Below w.heap.size w w' := by
  go_enter Tryd.func6, Tryd.ntmps6
  go_wp2_with fail
  go_ret
  exact ⟨rfl, below_put _ _ _ _⟩
set_option maxRecDepth 100000 in
set_option maxHeartbeats 2000000 in
theorem rwin_7 (s l y n : Int) (w : World) (h0 : 400 ≤ s) (h1 : s ≤ 100000) (h2 : 400 ≤ l) (h3 : l ≤ 100000) (h4 : 0 ≤ y) (h5 : y ≤ 100000) (h6 : 1 ≤ n) (h7 : 200 < n) : Calls Tryd.prog 6 #[win s l y, .int .i64 n] w fun e w' => e = .returned (.int .i64 1) ∧ Below w.heap.size w w' := by
  go_enter Tryd.func6, Tryd.ntmps6
  go_wp2_with fail
  go_ret
  exact ⟨rfl, below_put _ _ _ _⟩
set_option maxRecDepth 100000 in
set_option maxHeartbeats 2000000 in
theorem rwin_8 (s l y n : Int) (w : World) (h0 : 400 ≤ s) (h1 : s ≤ 100000) (h2 : 400 ≤ l) (h3 : l ≤ 100000) (h4 : 0 ≤ y) (h5 : y ≤ 100000) (h6 : 1 ≤ n) (h7 : n ≤ 200) : Calls Tryd.prog 6 #[win s l y, .int .i64 n] w fun e w' => e = .returned (.int .i64 0) ∧ Below w.heap.size w w' := by
  go_enter Tryd.func6, Tryd.ntmps6
  go_wp2_with fail
  go_ret
  exact ⟨rfl, below_put _ _ _ _⟩
theorem bothF_1 {s l y n : Int} (h : ¬ ((400 ≤ s ∧ s ≤ 100000) ∧ (400 ≤ l ∧ l ≤ 100000) ∧ (0 ≤ y ∧ y ≤ 100000) ∧ 1 ≤ n ∧ n ≤ 200)) : bothF s l y n = 1 := by
  have : ¬ bB s l y n = true := fun e => h ⟨(wB_bd (bB_yes e).1).1, (wB_bd (bB_yes e).1).2.1, (wB_bd (bB_yes e).1).2.2, pkB_yes (bB_yes e).2⟩
  exact if_neg this
theorem bothF_0 {s l y n : Int} (h : bB s l y n = true) : bothF s l y n = 0 := if_pos h
theorem rwin_calls (s l y n : Int) (w : World) : Calls Tryd.prog 6 #[win s l y, .int .i64 n] w fun e w' => e = .returned (.int .i64 (bothF s l y n)) ∧ Below w.heap.size w w' := by
  by_cases h0 : s < 400
  · rw [bothF_1 (by omega)]; exact rwin_0 s l y n w  h0
  by_cases h1 : 100000 < s
  · rw [bothF_1 (by omega)]; exact rwin_1 s l y n w (by omega) h1
  by_cases h2 : l < 400
  · rw [bothF_1 (by omega)]; exact rwin_2 s l y n w (by omega) (by omega) h2
  by_cases h3 : 100000 < l
  · rw [bothF_1 (by omega)]; exact rwin_3 s l y n w (by omega) (by omega) (by omega) h3
  by_cases h4 : y < 0
  · rw [bothF_1 (by omega)]; exact rwin_4 s l y n w (by omega) (by omega) (by omega) (by omega) h4
  by_cases h5 : 100000 < y
  · rw [bothF_1 (by omega)]; exact rwin_5 s l y n w (by omega) (by omega) (by omega) (by omega) (by omega) h5
  by_cases h6 : n < 1
  · rw [bothF_1 (by omega)]; exact rwin_6 s l y n w (by omega) (by omega) (by omega) (by omega) (by omega) (by omega) h6
  by_cases h7 : 200 < n
  · rw [bothF_1 (by omega)]; exact rwin_7 s l y n w (by omega) (by omega) (by omega) (by omega) (by omega) (by omega) (by omega) h7
  rw [bothF_0 (bB_of (wB_of ⟨by omega, by omega⟩ ⟨by omega, by omega⟩ ⟨by omega, by omega⟩) (decide_eq_true ⟨by omega, by omega⟩))]
  exact rwin_8 s l y n w (by omega) (by omega) (by omega) (by omega) (by omega) (by omega) (by omega) (by omega)
theorem bothF_one (s l y : Int) : bothF s l y 1 = flt s l y := by
  have : pkB 1 = true := rfl
  simp [bothF, flt, bB, this]
theorem rwin_one (s l y : Int) (w : World) : Calls Tryd.prog 6 #[win s l y, .int .i64 1] w fun e w' => e = .returned (.int .i64 (flt s l y)) ∧ Below w.heap.size w w' := by
  have := rwin_calls s l y 1 w
  rw [bothF_one] at this
  exact this
theorem same_errV (f : Int) (w : World) (hH : Handle w) : Calls Tryd.prog 4 #[errV f, .int .i64 f] w fun e w' => e = .returned (.bool true) ∧ Below w.heap.size w w' := by
  by_cases h : f = 0
  · subst h; exact same_nil 0 w
  · rw [errV_f h]
    have := same_err f f w hH
    rw [show (f == f) = true by simp] at this
    exact this

theorem structW : Tryd.prog.underlying 23 = some (.struct (Tryd.prog.fieldsOf 23)) := by kernel_rfl
theorem stoodW : Tryd.prog.stoodInHeld 23 = false := by kernel_rfl
theorem guardW (op : BinOp) (x y : Operand) (xs ys : Array Value) (w : World) : (eqGuard op 23 x y (.agg xs) (.agg ys)).run Tryd.prog w = .ok () w := run_eqGuard_agg w op 23 x y xs ys (by kernel_rfl)
theorem eqW (a b c : Int) (w : World) : (binOp .eql 23 (win a b c) (win a b c)).run Tryd.prog w = .ok (.bool true) w := by
  have u3 := Tryd.underlying3
  have a3 := Tryd.isAgg3
  have z3 := Tryd.sizeOf3
  rw [run_eql_struct, show (10000 : Nat) = 9999 + 1 from rfl, run_equalIn_agg w 9999 23 _ _ structW stoodW]
  simp only [Program.fieldsOf, Tryd.underlying23]
  go_simp

/-- The window that came in, in its box. -/
structure One (w W : World) (P : Nat) (s l y : Int) : Prop where
  p : Box W P s l y
  bel : Below w.heap.size w W
  leP : w.heap.size ≤ P
theorem One.below {w W W' : World} {P : Nat} {s l y : Int} (h : One w W P s l y) (hb : Below W.heap.size W W') : One w W' P s l y :=
  ⟨h.p.below hb, h.bel.trans (hb.mono h.bel.size), h.leP⟩
theorem One.drew {w W : World} {P : Nat} {s l y : Int} (h : One w W P s l y) : One w W.drew P s l y := ⟨h.p.drew, h.bel.drew, h.leP⟩
theorem one_start (w : World) (s l y : Int) : One w (put w s l y) w.heap.size s l y := ⟨Box.new w s l y, below_put w s l y, Nat.le_refl _⟩
theorem One.duo {w W : World} {P : Nat} {s l y : Int} (h : One w W P s l y) (a b c : Int) : Pair w (put W a b c) P W.heap.size s l y a b c :=
  have h2 := h.below (below_put W a b c)
  ⟨h2.p, Box.new _ _ _ _, h2.bel, h.leP, h.bel.size, by have := h.p.lt; omega, by have := h.p.lt; omega⟩
theorem Pair.setQ0 {w W : World} {P Q : Nat} {s l y a b c : Int} (h : Pair w W P Q s l y a b c) (z : Int) : Pair w (W.setCell ⟨Q, 0, none⟩ (.int .i64 z)) P Q s l y z b c :=
  ⟨h.p.far h.ne' _ _, h.q.set0 _, h.bel.setCell h.leQ _, h.leP, h.leQ, h.ne, h.ne'⟩
theorem Pair.setQ1 {w W : World} {P Q : Nat} {s l y a b c : Int} (h : Pair w W P Q s l y a b c) (z : Int) : Pair w (W.setCell ⟨Q, 1, none⟩ (.int .i64 z)) P Q s l y a z c :=
  ⟨h.p.far h.ne' _ _, h.q.set1 _, h.bel.setCell h.leQ _, h.leP, h.leQ, h.ne, h.ne'⟩
theorem Pair.setQ2 {w W : World} {P Q : Nat} {s l y a b c : Int} (h : Pair w W P Q s l y a b c) (z : Int) : Pair w (W.setCell ⟨Q, 2, none⟩ (.int .i64 z)) P Q s l y a b z :=
  ⟨h.p.far h.ne' _ _, h.q.set2 _, h.bel.setCell h.leQ _, h.leP, h.leQ, h.ne, h.ne'⟩
/-- The law's three windows: the one that came in, the one that is wanted, the one that was answered. -/
structure Three (w W : World) (P Q X : Nat) (s l y a b c d e f : Int) : Prop where
  two : Pair w W P Q s l y a b c
  x : Box W X d e f
  leX : w.heap.size ≤ X
  xp : X ≠ P
  xq : X ≠ Q
  px : P ≠ X
  qx : Q ≠ X
theorem Three.below {w W W' : World} {P Q X : Nat} {s l y a b c d e f : Int} (h : Three w W P Q X s l y a b c d e f) (hb : Below W.heap.size W W') : Three w W' P Q X s l y a b c d e f :=
  ⟨h.two.below hb, h.x.below hb, h.leX, h.xp, h.xq, h.px, h.qx⟩
theorem Three.drew {w W : World} {P Q X : Nat} {s l y a b c d e f : Int} (h : Three w W P Q X s l y a b c d e f) : Three w W.drew P Q X s l y a b c d e f :=
  ⟨h.two.drew, h.x.drew, h.leX, h.xp, h.xq, h.px, h.qx⟩
theorem Three.setQ {w W : World} {P Q X : Nat} {s l y a b c d e f : Int} (h : Three w W P Q X s l y a b c d e f) (a' b' c' : Int) : Three w (set3 W Q a' b' c') P Q X s l y a' b' c' d e f :=
  ⟨h.two.setQ _ _ _, h.x.set_far h.qx _ _ _, h.leX, h.xp, h.xq, h.px, h.qx⟩
theorem Three.setQ0 {w W : World} {P Q X : Nat} {s l y a b c d e f : Int} (h : Three w W P Q X s l y a b c d e f) (z : Int) : Three w (W.setCell ⟨Q, 0, none⟩ (.int .i64 z)) P Q X s l y z b c d e f :=
  ⟨h.two.setQ0 _, h.x.far h.qx _ _, h.leX, h.xp, h.xq, h.px, h.qx⟩
theorem Three.setQ1 {w W : World} {P Q X : Nat} {s l y a b c d e f : Int} (h : Three w W P Q X s l y a b c d e f) (z : Int) : Three w (W.setCell ⟨Q, 1, none⟩ (.int .i64 z)) P Q X s l y a z c d e f :=
  ⟨h.two.setQ1 _, h.x.far h.qx _ _, h.leX, h.xp, h.xq, h.px, h.qx⟩
theorem Three.setQ2 {w W : World} {P Q X : Nat} {s l y a b c d e f : Int} (h : Three w W P Q X s l y a b c d e f) (z : Int) : Three w (W.setCell ⟨Q, 2, none⟩ (.int .i64 z)) P Q X s l y a b z d e f :=
  ⟨h.two.setQ2 _, h.x.far h.qx _ _, h.leX, h.xp, h.xq, h.px, h.qx⟩
theorem Three.setX {w W : World} {P Q X : Nat} {s l y a b c d e f : Int} (h : Three w W P Q X s l y a b c d e f) (d' e' f' : Int) : Three w (set3 W X d' e' f') P Q X s l y a b c d' e' f' :=
  ⟨⟨h.two.p.set_far h.xp _ _ _, h.two.q.set_far h.xq _ _ _, below_set3 h.two.bel h.leX _ _ _, h.two.leP, h.two.leQ, h.two.ne, h.two.ne'⟩, h.x.set _ _ _, h.leX, h.xp, h.xq, h.px, h.qx⟩
theorem Pair.three {w W : World} {P Q : Nat} {s l y a b c : Int} (h : Pair w W P Q s l y a b c) (d e f : Int) : Three w (put W d e f) P Q W.heap.size s l y a b c d e f :=
  ⟨h.below (below_put W d e f), Box.new _ _ _ _, h.bel.size, by have := h.p.lt; omega, by have := h.q.lt; omega, by have := h.p.lt; omega, by have := h.q.lt; omega⟩
end Go.Proofs.YtaiapmibpogoeaaDoor
