/- The texts A,B of trip, at this seat. -/
import Derived.Test.YtoabfilliiopmaaGreatDoorChecked
import Derived.WalkKit
import Derived.WalkSpells
import Derived.WalkLawsBesides
import Derived.LoopN
import Derived.Outline
import Derived.BigQuiet
import Derived.Deep.RegionWith
import Derived.Shelf.SlSortCmp.QuietGrown
import Derived.KernelRfl
import Derived.Laws.ResultCell
import Derived.BigRegion
import Derived.StillTailTactics
namespace Go.Proofs.YtoabfilliiopmaaGreatDoor.Tx
open Go.RowKit Go.Lib Go.Sort
set_option linter.unusedVariables false
set_option linter.unusedSimpArgs false


theorem mixed : Tryz.prog.follows .mixedOrders = true := by kernel_rfl
theorem below_grow {B : Nat} {a w : World} (h : Below B a w) (hB : B ≤ w.heap.size) (os : Array Obj) : Below B a (grow w os) := by
  refine ⟨h.os, h.tape, h.output, ?_, fun k hk => ?_⟩
  · have := h.size; show _ ≤ (w.heap ++ os).size; simp; omega
  · rw [← h.block k hk]; show (w.heap ++ os)[k]? = _; rw [Array.getElem?_append_left (by omega)]
theorem below_drewN {B : Nat} {a w : World} (h : Below B a w) (q : Nat) : Below B a (w.drewN q) := ⟨h.os, h.tape, h.output, h.size, h.block⟩

/-- Can a trip take so long? -/
def timeB (t : Int) : Bool := decide (1 ≤ t ∧ t ≤ 100000)
theorem timeB_yes {t : Int} (h : timeB t = true) : 1 ≤ t ∧ t ≤ 100000 := of_decide_eq_true h
theorem timeB_no {t : Int} (h : timeB t = false) : t < 1 ∨ 100000 < t := by
  have : ¬ (1 ≤ t ∧ t ≤ 100000) := of_decide_eq_false h
  omega
/-- Can the other end have waited so long? -/
def delayB (t : Int) : Bool := decide (0 ≤ t ∧ t ≤ 100000)
theorem delayB_yes {t : Int} (h : delayB t = true) : 0 ≤ t ∧ t ≤ 100000 := of_decide_eq_true h
theorem delayB_no {t : Int} (h : delayB t = false) : t < 0 ∨ 100000 < t := by
  have : ¬ (0 ≤ t ∧ t ≤ 100000) := of_decide_eq_false h
  omega
/-- Is a trip right? -/
def rightB (s v l : Int) : Bool := decide (8 ≤ s ∧ s ≤ 800000 ∧ 0 ≤ v ∧ v ≤ 800000) && timeB l
abbrev trip (s v l : Int) : Value := .agg #[.int .i64 s, .int .i64 v, .int .i64 l]

set_option maxRecDepth 100000 in
set_option maxHeartbeats 2000000 in
theorem isTime_calls (n : Int) (w : World) : Calls Tryz.prog 66 #[.int .i64 n] w fun e w' => e = .returned (.bool (timeB n)) ∧ w' = w := by
  by_cases h1 : 1 ≤ n
  · by_cases h2 : n ≤ 100000
    · go_enter Tryz.func66, Tryz.ntmps66
      go_wp2
      go_ret
      exact ⟨by simp [timeB, h1, h2], rfl⟩
    · go_enter Tryz.func66, Tryz.ntmps66
      go_wp2
      go_ret
      exact ⟨by simp [timeB, h1, h2], rfl⟩
  · go_enter Tryz.func66, Tryz.ntmps66
    go_wp2
    go_ret
    exact ⟨by simp [timeB] <;> omega, rfl⟩
def far (a b : Int) : Int := if b ≤ a then a - b else b - a
set_option maxRecDepth 100000 in
set_option maxHeartbeats 2000000 in
theorem isRight_in (s v l : Int) (w : World) (h1 : 8 ≤ s) (h2 : s ≤ 800000) (h3 : 0 ≤ v) (h4 : v ≤ 800000) : Calls Tryz.prog 67 #[trip s v l] w fun e w' => e = .returned (.bool (rightB s v l)) ∧ w' = (w.alloc (.cells #[.int .i64 s, .int .i64 v, .int .i64 l] 62)) := by
  go_enter Tryz.func67, Tryz.ntmps67
  go_wp2_with (go_at_call 66; refine (isTime_calls l _).mono ?_; rintro e w1 ⟨rfl, rfl⟩)
  go_ret
  exact ⟨by simp [rightB, h1, h2, h3, h4], rfl⟩
set_option maxRecDepth 100000 in
set_option maxHeartbeats 2000000 in
theorem isRight_o1 (s v l : Int) (w : World) (h1 : s < 8) : Calls Tryz.prog 67 #[trip s v l] w fun e w' => e = .returned (.bool (rightB s v l)) ∧ w' = (w.alloc (.cells #[.int .i64 s, .int .i64 v, .int .i64 l] 62)) := by
  have hr : rightB s v l = false := by
    have : decide (8 ≤ s ∧ s ≤ 800000 ∧ 0 ≤ v ∧ v ≤ 800000) = false := decide_eq_false (by omega)
    simp [rightB, this]
  rw [hr]
  clear hr
  go_enter Tryz.func67, Tryz.ntmps67
  go_wp2
  go_ret
  exact ⟨by simp <;> omega, rfl⟩
set_option maxRecDepth 100000 in
set_option maxHeartbeats 2000000 in
theorem isRight_o2 (s v l : Int) (w : World) (h1 : 8 ≤ s) (h2 : 800000 < s) : Calls Tryz.prog 67 #[trip s v l] w fun e w' => e = .returned (.bool (rightB s v l)) ∧ w' = (w.alloc (.cells #[.int .i64 s, .int .i64 v, .int .i64 l] 62)) := by
  have hr : rightB s v l = false := by
    have : decide (8 ≤ s ∧ s ≤ 800000 ∧ 0 ≤ v ∧ v ≤ 800000) = false := decide_eq_false (by omega)
    simp [rightB, this]
  rw [hr]
  clear hr
  go_enter Tryz.func67, Tryz.ntmps67
  go_wp2
  go_ret
  exact ⟨by simp <;> omega, rfl⟩
set_option maxRecDepth 100000 in
set_option maxHeartbeats 2000000 in
theorem isRight_o3 (s v l : Int) (w : World) (h1 : 8 ≤ s) (h2 : s ≤ 800000) (h3 : v < 0) : Calls Tryz.prog 67 #[trip s v l] w fun e w' => e = .returned (.bool (rightB s v l)) ∧ w' = (w.alloc (.cells #[.int .i64 s, .int .i64 v, .int .i64 l] 62)) := by
  have hr : rightB s v l = false := by
    have : decide (8 ≤ s ∧ s ≤ 800000 ∧ 0 ≤ v ∧ v ≤ 800000) = false := decide_eq_false (by omega)
    simp [rightB, this]
  rw [hr]
  clear hr
  go_enter Tryz.func67, Tryz.ntmps67
  go_wp2
  go_ret
  exact ⟨by simp <;> omega, rfl⟩
set_option maxRecDepth 100000 in
set_option maxHeartbeats 2000000 in
theorem isRight_o4 (s v l : Int) (w : World) (h1 : 8 ≤ s) (h2 : s ≤ 800000) (h3 : 0 ≤ v) (h4 : 800000 < v) : Calls Tryz.prog 67 #[trip s v l] w fun e w' => e = .returned (.bool (rightB s v l)) ∧ w' = (w.alloc (.cells #[.int .i64 s, .int .i64 v, .int .i64 l] 62)) := by
  have hr : rightB s v l = false := by
    have : decide (8 ≤ s ∧ s ≤ 800000 ∧ 0 ≤ v ∧ v ≤ 800000) = false := decide_eq_false (by omega)
    simp [rightB, this]
  rw [hr]
  clear hr
  go_enter Tryz.func67, Tryz.ntmps67
  go_wp2
  go_ret
  exact ⟨by simp <;> omega, rfl⟩
theorem isRight_calls (s v l : Int) (w : World) : Calls Tryz.prog 67 #[trip s v l] w fun e w' => e = .returned (.bool (rightB s v l)) ∧ w' = (w.alloc (.cells #[.int .i64 s, .int .i64 v, .int .i64 l] 62)) := by
  by_cases h1 : 8 ≤ s
  · by_cases h2 : s ≤ 800000
    · by_cases h3 : 0 ≤ v
      · by_cases h4 : v ≤ 800000
        · exact isRight_in s v l w h1 h2 h3 h4
        · exact isRight_o4 s v l w h1 h2 h3 (by omega)
      · exact isRight_o3 s v l w h1 h2 (by omega)
    · exact isRight_o2 s v l w h1 (by omega)
  · exact isRight_o1 s v l w (by omega)

set_option maxRecDepth 100000 in
set_option maxHeartbeats 2000000 in
theorem first_yes (n : Int) (w : World) (h : timeB n = true) : Calls Tryz.prog 25 #[.int .i64 n] w fun e w' => e = .returned (.tuple #[trip (8 * n) (4 * n) n, .nilIface]) ∧ Below w.heap.size w w' := by
  obtain ⟨h0, h1⟩ := timeB_yes h
  go_enter Tryz.func25, Tryz.ntmps25
  go_wp2_with (go_at_call 66; refine (isTime_calls n _).mono ?_; rintro e w1 ⟨rfl, rfl⟩; rw [h])
  (try simp only [Exit.inBlock, Exit.then])
  refine bodyPost_ret (v := .tuple #[trip (8 * n) (4 * n) n, .nilIface]) ?_ rfl ⟨rfl, ?_⟩
  · rw [results_cell_tmp rfl]; go_simp
  · repeat (first | exact Below.refl _ _ | (refine Below.alloc ?_ (by simp <;> omega) _) | (refine Below.setCell ?_ (by simp <;> omega) _))
set_option maxRecDepth 100000 in
set_option maxHeartbeats 2000000 in
theorem first_no (n : Int) (w : World) (h : timeB n = false) : Calls Tryz.prog 25 #[.int .i64 n] w fun e w' => e = .returned (.tuple #[trip 0 0 0, .iface 108 (.int .i64 1)]) ∧ Below w.heap.size w w' := by
  go_enter Tryz.func25, Tryz.ntmps25
  go_wp2_with (go_at_call 66; refine (isTime_calls n _).mono ?_; rintro e w1 ⟨rfl, rfl⟩; rw [h])
  (try simp only [Exit.inBlock, Exit.then])
  refine bodyPost_ret (v := .tuple #[trip 0 0 0, .iface 108 (.int .i64 1)]) ?_ rfl ⟨rfl, ?_⟩
  · rw [results_cell_tmp rfl]; go_simp
  · repeat (first | exact Below.refl _ _ | (refine Below.alloc ?_ (by simp <;> omega) _) | (refine Below.setCell ?_ (by simp <;> omega) _))
set_option maxRecDepth 100000 in
set_option maxHeartbeats 2000000 in
theorem wait_no (s v l : Int) (w : World) (h : rightB s v l = false) : Calls Tryz.prog 26 #[trip s v l] w fun e w' => e = .returned (.tuple #[.int .i64 0, .iface 108 (.int .i64 1)]) ∧ Below w.heap.size w w' := by
  go_enter Tryz.func26, Tryz.ntmps26
  go_wp2_with (go_at_call 67; refine (isRight_calls s v l _).mono ?_; rintro e w1 ⟨rfl, rfl⟩; rw [h])
  go_ret2
  exact ⟨rfl, by repeat (first | exact Below.refl _ _ | (refine Below.alloc ?_ (by simp <;> omega) _))⟩
theorem rightB_yes {s v l : Int} (h : rightB s v l = true) : 8 ≤ s ∧ s ≤ 800000 ∧ 0 ≤ v ∧ v ≤ 800000 ∧ 1 ≤ l ∧ l ≤ 100000 := by
  simp [rightB, timeB] at h
  omega
def half (v : Int) : Int := if v / 2 < 1 then 1 else v / 2
set_option maxRecDepth 100000 in
set_option maxHeartbeats 2000000 in
theorem wait_yes (s v l : Int) (w : World) (h : rightB s v l = true) : Calls Tryz.prog 26 #[trip s v l] w fun e w' => e = .returned (.tuple #[.int .i64 (s / 8 + half v), .nilIface]) ∧ Below w.heap.size w w' := by
  obtain ⟨h1, h2, h3, h4, h5, h6⟩ := rightB_yes h
  go_enter Tryz.func26, Tryz.ntmps26
  go_wp2_with (go_at_call 67; refine (isRight_calls s v l _).mono ?_; rintro e w1 ⟨rfl, rfl⟩; rw [h])
  all_goals go_ret2
  all_goals exact ⟨by simp [half] <;> omega, by repeat (first | exact Below.refl _ _ | (refine Below.alloc ?_ (by simp <;> omega) _))⟩
def nextB (s v l n d : Int) : Bool := rightB s v l && timeB n && delayB d
def lst (l n : Int) : Int := if n < l then n else l
def tim (l n d : Int) : Int := if lst l n ≤ n - d then n - d else n
def smo (s l n d : Int) : Int := s - s / 8 + tim l n d
def vry (s v l n d : Int) : Int := v - v / 4 + 2 * far (tim l n d) (s / 8)
theorem far_bd (a b : Int) : 0 ≤ far a b ∧ (a ≤ b + far a b) ∧ (b ≤ a + far a b) ∧ (far a b = a - b ∨ far a b = b - a) := by unfold far; split <;> omega
theorem lst_bd (l n : Int) : lst l n ≤ l ∧ lst l n ≤ n ∧ (lst l n = l ∨ lst l n = n) := by unfold lst; split <;> omega
theorem tim_bd (l n d : Int) (hd : 0 ≤ d) : lst l n ≤ tim l n d ∧ tim l n d ≤ n := by have := lst_bd l n; unfold tim; split <;> omega
theorem nextB_yes {s v l n d : Int} (h : nextB s v l n d = true) : rightB s v l = true ∧ timeB n = true ∧ delayB d = true := by
  simp only [nextB, Bool.and_eq_true] at h
  exact ⟨h.1.1, h.1.2, h.2⟩
theorem right_next {s v l n d : Int} (h : nextB s v l n d = true) : rightB (smo s l n d) (vry s v l n d) (lst l n) = true := by
  obtain ⟨h1, h2, h3⟩ := nextB_yes h
  have hr := rightB_yes h1
  have ht := timeB_yes h2
  have hd := delayB_yes h3
  have b1 := lst_bd l n
  have b2 := tim_bd l n d hd.1
  have b3 := far_bd (tim l n d) (s / 8)
  have e1 : decide (8 ≤ smo s l n d ∧ smo s l n d ≤ 800000 ∧ 0 ≤ vry s v l n d ∧ vry s v l n d ≤ 800000) = true := decide_eq_true (by unfold smo vry; omega)
  have e2 : timeB (lst l n) = true := decide_eq_true (by omega)
  simp [rightB, e1, e2]



theorem wrap_small (x : Int) (h0 : -1000000000 ≤ x) (h1 : x ≤ 1000000000) : IntKind.i64.wrap x = x := by simp [IntKind.wrap, IntKind.bits, IntKind.signed]; omega
theorem wp_still_tail {P : Program} {id : Nat} {Q : Exit → Act → World → Prop} {a : Act} {w : World} {l : List Oper} (n : Nat) (hm : P.follows .mixedOrders = true) (hB : Region.lexTailB .any l.toArray n = true)
    (h : wpStill P l.toArray w.drew (fun a' => wpList P l.toArray Q (l.drop n) a' w.drew) (l.take n) a) : (Code.region id l.toArray true).wp P Q a w :=
  wp_region_still_tail n hm hB h

end Go.Proofs.YtoabfilliiopmaaGreatDoor.Tx
