/- New, Bytes, Safe, Fail, step; recordOf. -/
import Derived.Test.YtegelodkopommaaGreatDoorLA
import Derived.RangeFuncNested
import Derived.RangeFuncBox
import Derived.RangeFuncLeaves
namespace Go.Proofs.YtegelodkopommaaGreatDoor.Lo
open Go.RowKit Go.Lib Go.Sort
set_option linter.unusedVariables false
set_option linter.unusedSimpArgs false

set_option maxRecDepth 100000 in
set_option maxHeartbeats 2000000 in
theorem new_calls (w : World) : Calls Tryz.prog 5 #[] w fun e w' => e = .returned (.pointer (some ⟨w.heap.size, 0, none⟩)) ∧ LO w' w.heap.size w.heap.size (.slice none 0 0) (.slice none 0 0) Lg.new ∧ Below w.heap.size w w' := by
  go_enter Tryz.func5, Tryz.ntmps5
  go_wp2
  go_ret
  refine ⟨rfl, ⟨LInv.new, ?_, ?_, ?_, ?_, ?_, fun j => ?_, Nat.le_refl _, World.ownsRow_nil _ _ _ _, World.ownsRow_nil _ _ _ _, (fun e => by cases e), (fun e => by cases e)⟩, (Below.refl _ _).alloc (Nat.le_refl _) _⟩
  · simp
  · simp [Lg.new]
  · simp
  · simp [Lg.new]
  · simp [Lg.new]
  · simp

set_option maxRecDepth 100000 in
set_option maxHeartbeats 2000000 in
theorem fail_calls {w : World} {B lb : Nat} {vb vc : Value} {s : Lg} (h : LO w B lb vb vc s) (n : Int) (h0 : -9223372036854775808 ≤ n) (h1 : n ≤ 9223372036854775807) : Calls Tryz.prog 6 #[.pointer (some ⟨lb, 0, none⟩), .int .i64 n] w fun e w' => (∃ v, e = .returned v) ∧ LO w' B lb vb vc { s with ah := n } ∧ Off (fun k => k = lb) w w' := by
  have HL : Hid (LO w B lb vb vc s) := h
  have c := h.c3
  have f := h.fr 3
  clear h
  go_enter Tryz.func6, Tryz.ntmps6
  go_wp2
  go_end0
  exact ⟨⟨_, rfl⟩, HL.out.setA n ⟨HL.out.inv.fit, HL.out.inv.few, HL.out.inv.xl, HL.out.inv.xn, HL.out.inv.sl, HL.out.inv.sm, h0, h1⟩, LO.offL _ _ _ _⟩

set_option maxRecDepth 100000 in
set_option maxHeartbeats 2000000 in
theorem step_no {w : World} {B lb : Nat} {vb vc : Value} {s : Lg} (h : LO w B lb vb vc s) (h0 : s.ah = 0) : Calls Tryz.prog 25 #[.pointer (some ⟨lb, 0, none⟩)] w fun e w' => e = .returned (.bool false) ∧ LO w' B lb vb vc { s with st := true } ∧ Off (fun k => k = lb) w w' := by
  have HL : Hid (LO w B lb vb vc s) := h
  have c := h.c3
  have c4 := h.c4
  have f := h.fr 4
  rw [h0] at c
  clear h h0
  generalize s.st = b at c4
  go_enter Tryz.func25, Tryz.ntmps25
  go_wp2
  go_ret
  exact ⟨rfl, HL.out.setT, LO.offL _ _ _ _⟩

set_option maxRecDepth 100000 in
set_option maxHeartbeats 2000000 in
theorem step_pos {w : World} {B lb : Nat} {vb vc : Value} {s : Lg} (h : LO w B lb vb vc s) (h0 : 0 < s.ah) : Calls Tryz.prog 25 #[.pointer (some ⟨lb, 0, none⟩)] w fun e w' => e = .returned (.bool true) ∧ LO w' B lb vb vc { s with ah := dn s.ah } ∧ Off (fun k => k = lb) w w' := by
  have HL : Hid (LO w B lb vb vc s) := h
  have HD : Hid (dn s.ah = s.ah - 1) := if_pos h0
  have a1 := h.inv.a1
  have c := h.c3
  have f := h.fr 3
  have g0 : (s.ah == 0) = false := by simp; omega
  clear h
  generalize hA : s.ah = a at *
  have HA : Hid (s.ah = a) := hA
  clear hA
  have g1 : ¬ a = 0 := by omega
  go_enter Tryz.func25, Tryz.ntmps25
  go_wp2
  go_ret
  refine ⟨rfl, ?_, LO.offL _ _ _ _⟩
  have := HL.out.setA (dn s.ah) HL.out.inv.down
  rw [HA.out, HD.out] at this
  rw [HD.out]
  exact this

set_option maxRecDepth 100000 in
set_option maxHeartbeats 2000000 in
theorem step_neg {w : World} {B lb : Nat} {vb vc : Value} {s : Lg} (h : LO w B lb vb vc s) (h0 : s.ah < 0) : Calls Tryz.prog 25 #[.pointer (some ⟨lb, 0, none⟩)] w fun e w' => e = .returned (.bool true) ∧ LO w' B lb vb vc { s with ah := dn s.ah } ∧ Off (fun k => k = lb) w w' := by
  have HL : Hid (LO w B lb vb vc { s with ah := dn s.ah }) := by
    have e : dn s.ah = s.ah := if_neg (by omega)
    show LO w B lb vb vc { s with ah := dn s.ah }
    rw [e]; exact h
  have c := h.c3
  have g0 : (s.ah == 0) = false := by simp; omega
  clear h
  generalize hA : s.ah = a at *
  clear hA
  have g1 : ¬ a = 0 := by omega
  have g2 : ¬ 0 < a := by omega
  go_enter Tryz.func25, Tryz.ntmps25
  go_wp2
  go_ret
  exact ⟨rfl, HL.out, Off.refl _ _⟩
theorem step_yes {w : World} {B lb : Nat} {vb vc : Value} {s : Lg} (h : LO w B lb vb vc s) (h0 : s.ah ≠ 0) : Calls Tryz.prog 25 #[.pointer (some ⟨lb, 0, none⟩)] w fun e w' => e = .returned (.bool true) ∧ LO w' B lb vb vc { s with ah := dn s.ah } ∧ Off (fun k => k = lb) w w' := by
  rcases (show 0 < s.ah ∨ s.ah < 0 by omega) with e | e
  · exact step_pos h e
  · exact step_neg h e
end Go.Proofs.YtegelodkopommaaGreatDoor.Lo
