/- What isBytes, isPacket, bound, Check, Came, Send, Room and Prove of package path answer, and what the document asks of them. -/
import Derived.Test.YtjjfeffmmkoooaaDoorChecked
import Derived.WalkKit
import Derived.WalkSpells
import Derived.WalkLawsBesides
import Derived.LoopN
import Derived.Outline
import Derived.BigQuiet
import Derived.Deep.RegionWith
import Derived.Deep.DeepCutAuto
import Derived.Shelf.SlSortCmp.QuietGrown
import Derived.KernelRfl
import Derived.Laws.ResultCell
namespace Go.Proofs.YtjjfeffmmkoooaaDoor
open Go.RowKit Go.Lib Go.Sort
set_option linter.unusedVariables false
set_option linter.unusedSimpArgs false

abbrev path (i o : Int) (k : Bool) : Value := .agg #[.int .i64 i, .int .i64 o, .bool k]
/-- Can so many bytes have come, or been sent? -/
def byB (n : Int) : Bool := decide (0 ≤ n ∧ n ≤ 1073741823)
/-- Can a packet be so long? -/
def pkB (n : Int) : Bool := decide (0 ≤ n ∧ n ≤ 200)
/-- How many bytes in all may be sent. -/
def bnd (i : Int) : Bool → Int
  | true => 1073741823
  | false => if 3 * i < 1073741823 then 3 * i else 1073741823
/-- What is wrong with a path: the error's number, or 0. -/
def flt (i o : Int) (k : Bool) : Int := if byB i = true ∧ byB o = true then (if bnd i k < o then 3 else 0) else 1
/-- What is wrong with so many that came. -/
def cameF (i o : Int) (k : Bool) (n : Int) : Int := if flt i o k = 0 then (if pkB n = true ∧ byB (i + n) = true then 0 else 1) else flt i o k
/-- What is wrong with so many that are sent. -/
def sendF (i o : Int) (k : Bool) (n : Int) : Int := if flt i o k = 0 then (if pkB n = true ∧ byB (o + n) = true then (if bnd i k < o + n then 8 else 0) else 1) else flt i o k
/-- How many may be sent in one packet. -/
def rm (i o : Int) (k : Bool) : Int := if bnd i k - o < 200 then bnd i k - o else 200
theorem byB_yes {n : Int} (h : byB n = true) : 0 ≤ n ∧ n ≤ 1073741823 := of_decide_eq_true h
theorem byB_no {n : Int} (h : byB n = false) : n < 0 ∨ 1073741823 < n := by
  have : ¬ (0 ≤ n ∧ n ≤ 1073741823) := of_decide_eq_false h
  omega
theorem pkB_yes {n : Int} (h : pkB n = true) : 0 ≤ n ∧ n ≤ 200 := of_decide_eq_true h
theorem pkB_no {n : Int} (h : pkB n = false) : n < 0 ∨ 200 < n := by
  have : ¬ (0 ≤ n ∧ n ≤ 200) := of_decide_eq_false h
  omega
theorem bnd_le (i : Int) (k : Bool) : bnd i k ≤ 1073741823 := by
  cases k
  · show (if 3 * i < 1073741823 then 3 * i else 1073741823) ≤ (1073741823 : Int); split <;> omega
  · exact Int.le_refl _
theorem bnd_three (i : Int) : bnd i false ≤ 3 * i := by
  show (if 3 * i < 1073741823 then 3 * i else 1073741823) ≤ 3 * i; split <;> omega
theorem flt_zero {i o : Int} {k : Bool} (h : flt i o k = 0) : byB i = true ∧ byB o = true ∧ o ≤ bnd i k := by
  unfold flt at h
  split at h
  · rename_i hb
    split at h
    · omega
    · exact ⟨hb.1, hb.2, by omega⟩
  · omega
theorem flt_cases (i o : Int) (k : Bool) : flt i o k = 0 ∨ flt i o k = 1 ∨ flt i o k = 3 := by
  unfold flt
  split
  · split <;> simp
  · simp

set_option maxRecDepth 100000 in
set_option maxHeartbeats 2000000 in
theorem isBytes_calls (n : Int) (w : World) : Calls Tryd.prog 17 #[.int .i64 n] w fun e w' => e = .returned (.bool (byB n)) ∧ w' = w := by
  by_cases h1 : 0 ≤ n
  · by_cases h2 : n ≤ 1073741823
    · go_enter Tryd.func17, Tryd.ntmps17
      go_wp2
      go_ret
      exact ⟨by simp [byB, h1, h2], rfl⟩
    · go_enter Tryd.func17, Tryd.ntmps17
      go_wp2
      go_ret
      exact ⟨by simp [byB, h1, h2], rfl⟩
  · go_enter Tryd.func17, Tryd.ntmps17
    go_wp2
    go_ret
    exact ⟨by simp [byB] <;> omega, rfl⟩
set_option maxRecDepth 100000 in
set_option maxHeartbeats 2000000 in
theorem isPacket_calls (n : Int) (w : World) : Calls Tryd.prog 19 #[.int .i64 n] w fun e w' => e = .returned (.bool (pkB n)) ∧ w' = w := by
  by_cases h1 : 0 ≤ n
  · by_cases h2 : n ≤ 200
    · go_enter Tryd.func19, Tryd.ntmps19
      go_wp2
      go_ret
      exact ⟨by simp [pkB, h1, h2], rfl⟩
    · go_enter Tryd.func19, Tryd.ntmps19
      go_wp2
      go_ret
      exact ⟨by simp [pkB, h1, h2], rfl⟩
  · go_enter Tryd.func19, Tryd.ntmps19
    go_wp2
    go_ret
    exact ⟨by simp [pkB] <;> omega, rfl⟩
/-- A path in a block of its own. -/
abbrev put (w : World) (i o : Int) (k : Bool) : World := w.alloc (.cells #[.int .i64 i, .int .i64 o, .bool k] 23)
set_option maxRecDepth 100000 in
set_option maxHeartbeats 2000000 in
theorem bound_known (i o : Int) (w : World) : Calls Tryd.prog 18 #[path i o true] w fun e w' => e = .returned (.int .i64 (bnd i true)) ∧ w' = put w i o true := by
  go_enter Tryd.func18, Tryd.ntmps18
  go_wp2
  go_ret
  exact ⟨rfl, rfl⟩
set_option maxRecDepth 100000 in
set_option maxHeartbeats 2000000 in
theorem bound_less (i o : Int) (w : World) (h0 : 0 ≤ i) (h1 : i ≤ 1073741823) (h : 3 * i < 1073741823) : Calls Tryd.prog 18 #[path i o false] w fun e w' => e = .returned (.int .i64 (bnd i false)) ∧ w' = put w i o false := by
  rw [show bnd i false = 3 * i from if_pos h]
  go_enter Tryd.func18, Tryd.ntmps18
  go_wp2
  go_ret
  exact ⟨by simp <;> omega, rfl⟩
set_option maxRecDepth 100000 in
set_option maxHeartbeats 2000000 in
theorem bound_more (i o : Int) (w : World) (h0 : 0 ≤ i) (h1 : i ≤ 1073741823) (h : 1073741823 ≤ 3 * i) : Calls Tryd.prog 18 #[path i o false] w fun e w' => e = .returned (.int .i64 (bnd i false)) ∧ w' = put w i o false := by
  rw [show bnd i false = 1073741823 from if_neg (by omega)]
  go_enter Tryd.func18, Tryd.ntmps18
  go_wp2
  all_goals go_ret
  all_goals exact ⟨by simp <;> omega, rfl⟩
theorem bound_calls (i o : Int) (k : Bool) (w : World) (h : byB i = true) : Calls Tryd.prog 18 #[path i o k] w fun e w' => e = .returned (.int .i64 (bnd i k)) ∧ w' = put w i o k := by
  obtain ⟨h0, h1⟩ := byB_yes h
  cases k
  · by_cases h2 : 3 * i < 1073741823
    · exact bound_less i o w h0 h1 h2
    · exact bound_more i o w h0 h1 (by omega)
  · exact bound_known i o w

set_option maxRecDepth 100000 in
set_option maxHeartbeats 2000000 in
theorem check_in (i o : Int) (k : Bool) (w : World) (hi : byB i = true) (ho : byB o = true) (c : Bool) (hc : decide (bnd i k < o) = c) :
    Calls Tryd.prog 8 #[path i o k] w fun e w' => e = .returned (if c then .iface 41 (.int .i64 3) else .nilIface) ∧ Below w.heap.size w w' := by
  go_enter Tryd.func8, Tryd.ntmps8
  go_wp2_with fail
  refine (isBytes_calls i _).mono ?_
  rintro e w1 ⟨rfl, rfl⟩
  rw [hi]
  go_wp2_with fail
  refine (isBytes_calls o _).mono ?_
  rintro e w1 ⟨rfl, rfl⟩
  rw [ho]
  go_wp2_with fail
  go_cut [18] (fun s18 wx => s18 = .bool c ∧ Below w.heap.size w wx)
  case first =>
    go_region_with (go_at_call 18; refine (bound_calls i o k _ hi).mono ?_; rintro e w3 ⟨rfl, rfl⟩)
    all_goals (try go_wp2_with fail)
    all_goals go_meet
    all_goals exact ⟨by simp [← hc], by repeat (first | exact Below.refl _ _ | (refine Below.drew ?_) | (refine Below.alloc ?_ (by simp <;> omega) _))⟩
  case rest =>
    obtain ⟨rfl, hB⟩ := hcut
    cases c
    · go_wp2_with fail
      go_ret
      exact ⟨rfl, hB⟩
    · go_wp2_with fail
      go_ret
      exact ⟨rfl, hB⟩
end Go.Proofs.YtjjfeffmmkoooaaDoor
