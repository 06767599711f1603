/- What Check, Send, Came and Lost answer, at every window and every number, told by what is wrong. -/
import Derived.Test.YtaiapmibpogoeaaDoorC
namespace Go.Proofs.YtaiapmibpogoeaaDoor
open Go.RowKit Go.Lib Go.Sort
set_option linter.unusedVariables false
set_option linter.unusedSimpArgs false

/-- An error, or none, by its number. -/
def errV (f : Int) : Value := if f = 0 then .nilIface else .iface 33 (.int .i64 f)
theorem errV_0 : errV 0 = .nilIface := rfl
theorem errV_f {f : Int} (h : f ≠ 0) : errV f = .iface 33 (.int .i64 f) := if_neg h
/-- A number where nothing is wrong, else 0. -/
def ifz (f z : Int) : Int := if f = 0 then z else 0
theorem ifz_0 (z : Int) : ifz 0 z = z := rfl
theorem ifz_f {f : Int} (h : f ≠ 0) (z : Int) : ifz f z = 0 := if_neg h
theorem flt_ok {s l y : Int} (h : wB s l y = true) : flt s l y = 0 := by simp [flt, h]
theorem flt_no {s l y : Int} (h : wB s l y = false) : flt s l y = 1 := by simp [flt, h]
theorem flt_zero {s l y : Int} (h : flt s l y = 0) : wB s l y = true := by
  cases e : wB s l y with
  | true => rfl
  | false => rw [flt_no e] at h; omega
theorem sendF_zero {s l y n : Int} (h : sendF s l y n = 0) : bB s l y n = true ∧ y + n ≤ s := by
  unfold sendF at h
  split at h
  · split at h
    · omega
    · exact ⟨by assumption, by omega⟩
  · omega
theorem offF_zero {s l y n : Int} (h : offF s l y n = 0) : bB s l y n = true ∧ n ≤ y := by
  unfold offF at h
  split at h
  · split at h
    · omega
    · exact ⟨by assumption, by omega⟩
  · omega
theorem check_calls (s l y : Int) (w : World) : Calls Tryd.prog 5 #[win s l y] w fun e w' => e = .returned (errV (flt s l y)) ∧ Below w.heap.size w w' := by
  cases h : wB s l y with
  | true => rw [flt_ok h]; exact check_ok s l y w h
  | false => rw [flt_no h]; exact check_no s l y w h
abbrev sendP (s l y n f : Int) : Value := win (ifz f s) (ifz f l) (ifz f (y + n))
abbrev cameP (s l y n f : Int) : Value := win (ifz f (cameS s l n)) (ifz f l) (ifz f (y - n))
abbrev lostP (s l y n f : Int) : Value := win (ifz f (lostS s)) (ifz f (lostS s)) (ifz f (y - n))
theorem send_calls (s l y n : Int) (w : World) : Calls Tryd.prog 7 #[win s l y, .int .i64 n] w fun e w' => e = .returned (.tuple #[sendP s l y n (sendF s l y n), errV (sendF s l y n)]) ∧ Below w.heap.size w w' := by
  cases h : bB s l y n with
  | false => rw [show sendF s l y n = 1 by simp [sendF, h]]; exact send_f s l y n w h
  | true =>
    by_cases hw : s < y + n
    · rw [show sendF s l y n = 8 by simp [sendF, h, hw]]; exact send_w s l y n w h hw
    · rw [show sendF s l y n = 0 by simp [sendF, h, hw]]; exact send_ok s l y n w h (by omega)
theorem came_ok (s l y n : Int) (w : World) (h : bB s l y n = true) (hw : n ≤ y) : Calls Tryd.prog 8 #[win s l y, .int .i64 n] w fun e w' => e = .returned (.tuple #[win (cameS s l n) l (y - n), .nilIface]) ∧ Below w.heap.size w w' := by
  by_cases hs : s + grw s l n < 100000
  · rw [show cameS s l n = s + grw s l n from if_pos hs]; exact came_less s l y n w h hw hs
  · rw [show cameS s l n = 100000 from if_neg hs]; exact came_more s l y n w h hw (by omega)
theorem lost_ok (s l y n : Int) (w : World) (h : bB s l y n = true) (hw : n ≤ y) : Calls Tryd.prog 9 #[win s l y, .int .i64 n] w fun e w' => e = .returned (.tuple #[win (lostS s) (lostS s) (y - n), .nilIface]) ∧ Below w.heap.size w w' := by
  by_cases hs : s / 2 < 400
  · rw [show lostS s = 400 from if_pos hs]; exact lost_low s l y n w h hw hs
  · rw [show lostS s = s / 2 from if_neg hs]; exact lost_high s l y n w h hw (by omega)
theorem came_calls (s l y n : Int) (w : World) : Calls Tryd.prog 8 #[win s l y, .int .i64 n] w fun e w' => e = .returned (.tuple #[cameP s l y n (offF s l y n), errV (offF s l y n)]) ∧ Below w.heap.size w w' := by
  cases h : bB s l y n with
  | false => rw [show offF s l y n = 1 by simp [offF, h]]; exact came_f s l y n w h
  | true =>
    by_cases hw : y < n
    · rw [show offF s l y n = 3 by simp [offF, h, hw]]; exact came_w s l y n w h hw
    · rw [show offF s l y n = 0 by simp [offF, h, hw]]; exact came_ok s l y n w h (by omega)
theorem lost_calls (s l y n : Int) (w : World) : Calls Tryd.prog 9 #[win s l y, .int .i64 n] w fun e w' => e = .returned (.tuple #[lostP s l y n (offF s l y n), errV (offF s l y n)]) ∧ Below w.heap.size w w' := by
  cases h : bB s l y n with
  | false => rw [show offF s l y n = 1 by simp [offF, h]]; exact lost_f s l y n w h
  | true =>
    by_cases hw : y < n
    · rw [show offF s l y n = 3 by simp [offF, h, hw]]; exact lost_w s l y n w h hw
    · rw [show offF s l y n = 0 by simp [offF, h, hw]]; exact lost_ok s l y n w h (by omega)
end Go.Proofs.YtaiapmibpogoeaaDoor
