/- The walk of the law AckTells. -/
import Derived.Test.YtdemmpakiopgjaaDoorQ
import Derived.Test.YtdemmpakiopgjaaDoorI
import Derived.Test.YtdemmpakiopgjaaDoorK
import Derived.Test.YtdemmpakiopgjaaDoorR
import Derived.Test.YtdemmpakiopgjaaDoorZ
namespace Go.Proofs.YtdemmpakiopgjaaDoor
open Go.RowKit Go.Lib Go.Sort
set_option linter.unusedVariables false
set_option linter.unusedSimpArgs false

theorem same_nils (w : World) : Calls Tryd.prog 12 #[.slice none 0 0, .slice none 0 0] w fun e w' => e = .returned (.bool true) ∧ Below w.heap.size w w' := by
  have := same_calls (.slice none 0 0) (.slice none 0 0) [] [] w (Row.nil w) (Row.nil w)
  simpa using this
theorem same_eq (va vb : Value) (zs : List R) (w : World) (ha : Row w va zs) (hb : Row w vb zs) : Calls Tryd.prog 12 #[va, vb] w fun e w' => e = .returned (.bool true) ∧ Below w.heap.size w w' := by
  have := same_calls va vb zs zs w ha hb
  simpa using this
theorem err_same (c : Int) (w : World) (hH : Handle w) : Calls Tryd.prog 9 #[.iface 42 (.int .i64 c), .int .i64 c] w fun e w' => e = .returned (.bool true) ∧ Below w.heap.size w w' := by
  have := same_err c c w hH
  simpa using this
theorem nil_same (w : World) : Calls Tryd.prog 9 #[.nilIface, .int .i64 0] w fun e w' => e = .returned (.bool true) ∧ Below w.heap.size w w' := by
  have := same_nil 0 w
  simpa using this

set_option maxRecDepth 100000 in
set_option maxHeartbeats 4000000 in
theorem tells_err (a0 : Option Addr) (l0 c0 : Nat) (z0 : List R) (b : ByteArray) (W : World) (hF : V.Forms W) (hH : Handle W) (e0 : Row W (.slice a0 l0 c0) z0) (g0 : l0 ≤ c0) (hl : b.size ≤ maxLen) (hc : chk z0 ≠ 0) :
    Calls Tryd.prog 3 #[.slice a0 l0 c0, .string b] W fun e w' => e = .returned (.bool true) ∧ Below W.heap.size W w' := by
  have hsl := (row_len e0).2
  have hlm : b.size ≤ 9223372036854775807 := by unfold maxLen at hl; omega
  have HR := rranges_calls _ z0 W e0
  go_enter Tryd.func3, Tryd.ntmps3
  go_wp2_with fail
  refine HR.mono ?_
  rintro e w1 ⟨rfl, hB1⟩
  clear HR
  have hF1 := hF.below hB1
  have hR1 := e0.below hB1
  have HP := print_err _ z0 _ hR1 hc
  rw [show errV (chk z0) = .iface 42 (.int .i64 (chk z0)) by simp [errV, hc]] at HP
  have gc : (chk z0 == 0) = false := by simp [hc]
  generalize chk z0 = ck at *
  go_wp2_with fail
  refine HP.mono ?_
  rintro e w3 ⟨rfl, hb3⟩
  have hB3 := hB1.trans (hb3.mono hB1.size)
  have hH3 := hH.below hB3
  go_wp2_with fail
  refine (err_same ck _ hH3).mono ?_
  rintro e w4 ⟨rfl, hb4⟩
  have hB4 := hB3.trans (hb4.mono hB3.size)
  go_wp2_with fail
  refine (read_calls b _ hl).mono ?_
  rintro e w5 ⟨⟨hp, rfl⟩ | ⟨zs, v, A, rfl, hRv, hA, f1, f2⟩, hb5⟩
  · have hB5 := hB4.trans (hb5.mono hB4.size)
    have hF5 := hF.below hB5
    go_wp2_with fail
    refine (parse_no b _ hF5 hl hp).mono ?_
    rintro e w6 ⟨rfl, hb6⟩
    have hB6 := hB5.trans (hb6.mono hB5.size)
    have hH6 := hH.below hB6
    go_wp2_with fail
    refine (err_same 2 _ hH6).mono ?_
    rintro e w7 ⟨rfl, hb7⟩
    have hB7 := hB6.trans (hb7.mono hB6.size)
    go_wp2_with fail
    refine (same_nils _).mono ?_
    rintro e w8 ⟨rfl, hb8⟩
    have hB8 := hB7.trans (hb8.mono hB7.size)
    go_wp2_with fail
    go_ret
    exact ⟨by simp, hB8⟩
  · have hB5 := hB4.trans (hb5.mono hB4.size)
    have hF5 := hF.below hB5
    by_cases hAs : A = b.size
    · have hp := f1 hAs
      subst hAs
      clear f1 f2 hA
      have HRv : Hid (Row w5 v zs) := hRv
      obtain ⟨av, cv, rfl, _⟩ := hRv
      go_wp2_with fail
      refine (parse_yes b _ hF5 hl zs hp).mono ?_
      rintro e w6 ⟨v6, rfl, hR6, _, hb6⟩
      have hB6 := hB5.trans (hb6.mono hB5.size)
      go_wp2_with fail
      refine (nil_same _).mono ?_
      rintro e w7 ⟨rfl, hb7⟩
      have hB7 := hB6.trans (hb7.mono hB6.size)
      have HS := same_eq v6 _ zs w7 (hR6.below hb7) ((HRv.out.below hb6).below hb7)
      go_wp2_with fail
      refine HS.mono ?_
      rintro e w8 ⟨rfl, hb8⟩
      have hB8 := hB7.trans (hb8.mono hB7.size)
      clear HS
      go_wp2_with fail
      go_ret
      exact ⟨by simp, hB8⟩
    · have hp := f2 hAs
      have gAs : ¬ (A : Int) = (b.size : Int) := by omega
      clear f1 f2
      obtain ⟨av, cv, rfl, _⟩ := hRv
      go_wp2_with fail
      refine (parse_no b _ hF5 hl hp).mono ?_
      rintro e w6 ⟨rfl, hb6⟩
      have hB6 := hB5.trans (hb6.mono hB5.size)
      have hH6 := hH.below hB6
      go_wp2_with fail
      refine (err_same 2 _ hH6).mono ?_
      rintro e w7 ⟨rfl, hb7⟩
      have hB7 := hB6.trans (hb7.mono hB6.size)
      go_wp2_with fail
      refine (same_nils _).mono ?_
      rintro e w8 ⟨rfl, hb8⟩
      have hB8 := hB7.trans (hb8.mono hB7.size)
      go_wp2_with fail
      go_ret
      exact ⟨by simp, hB8⟩

set_option maxRecDepth 100000 in
set_option maxHeartbeats 4000000 in
theorem tells_none (a0 : Option Addr) (l0 c0 : Nat) (z0 : List R) (b : ByteArray) (W : World) (hF : V.Forms W) (hH : Handle W) (e0 : Row W (.slice a0 l0 c0) z0) (g0 : l0 ≤ c0) (hl : b.size ≤ maxLen) (hc : z0 = []) :
    Calls Tryd.prog 3 #[.slice a0 l0 c0, .string b] W fun e w' => e = .returned (.bool true) ∧ Below W.heap.size W w' := by
  have hsl := (row_len e0).2
  have hlm : b.size ≤ 9223372036854775807 := by unfold maxLen at hl; omega
  subst hc
  have hl00 : l0 = 0 := by have := (row_len e0).1; simpa using this.symm
  subst hl00
  have HR := rranges_calls _ [] W e0
  rw [show chk [] = 0 from rfl] at HR
  go_enter Tryd.func3, Tryd.ntmps3
  go_wp2_with fail
  refine HR.mono ?_
  rintro e w1 ⟨rfl, hB1⟩
  clear HR
  have hF1 := hF.below hB1
  have hR1 := e0.below hB1
  go_wp2_with fail
  refine (print_none _ _ hR1).mono ?_
  rintro e w3 ⟨rfl, hb3⟩
  have hB3 := hB1.trans (hb3.mono hB1.size)
  have hH3 := hH.below hB3
  go_wp2_with fail
  refine (err_same 5 _ hH3).mono ?_
  rintro e w4 ⟨rfl, hb4⟩
  have hB4 := hB3.trans (hb4.mono hB3.size)
  go_wp2_with fail
  refine (read_calls b _ hl).mono ?_
  rintro e w5 ⟨⟨hp, rfl⟩ | ⟨zs, v, A, rfl, hRv, hA, f1, f2⟩, hb5⟩
  · have hB5 := hB4.trans (hb5.mono hB4.size)
    have hF5 := hF.below hB5
    go_wp2_with fail
    refine (parse_no b _ hF5 hl hp).mono ?_
    rintro e w6 ⟨rfl, hb6⟩
    have hB6 := hB5.trans (hb6.mono hB5.size)
    have hH6 := hH.below hB6
    go_wp2_with fail
    refine (err_same 2 _ hH6).mono ?_
    rintro e w7 ⟨rfl, hb7⟩
    have hB7 := hB6.trans (hb7.mono hB6.size)
    go_wp2_with fail
    refine (same_nils _).mono ?_
    rintro e w8 ⟨rfl, hb8⟩
    have hB8 := hB7.trans (hb8.mono hB7.size)
    go_wp2_with fail
    go_ret
    exact ⟨by simp, hB8⟩
  · have hB5 := hB4.trans (hb5.mono hB4.size)
    have hF5 := hF.below hB5
    by_cases hAs : A = b.size
    · have hp := f1 hAs
      subst hAs
      clear f1 f2 hA
      have HRv : Hid (Row w5 v zs) := hRv
      obtain ⟨av, cv, rfl, _⟩ := hRv
      go_wp2_with fail
      refine (parse_yes b _ hF5 hl zs hp).mono ?_
      rintro e w6 ⟨v6, rfl, hR6, _, hb6⟩
      have hB6 := hB5.trans (hb6.mono hB5.size)
      go_wp2_with fail
      refine (nil_same _).mono ?_
      rintro e w7 ⟨rfl, hb7⟩
      have hB7 := hB6.trans (hb7.mono hB6.size)
      have HS := same_eq v6 _ zs w7 (hR6.below hb7) ((HRv.out.below hb6).below hb7)
      go_wp2_with fail
      refine HS.mono ?_
      rintro e w8 ⟨rfl, hb8⟩
      have hB8 := hB7.trans (hb8.mono hB7.size)
      clear HS
      go_wp2_with fail
      go_ret
      exact ⟨by simp, hB8⟩
    · have hp := f2 hAs
      have gAs : ¬ (A : Int) = (b.size : Int) := by omega
      clear f1 f2
      obtain ⟨av, cv, rfl, _⟩ := hRv
      go_wp2_with fail
      refine (parse_no b _ hF5 hl hp).mono ?_
      rintro e w6 ⟨rfl, hb6⟩
      have hB6 := hB5.trans (hb6.mono hB5.size)
      have hH6 := hH.below hB6
      go_wp2_with fail
      refine (err_same 2 _ hH6).mono ?_
      rintro e w7 ⟨rfl, hb7⟩
      have hB7 := hB6.trans (hb7.mono hB6.size)
      go_wp2_with fail
      refine (same_nils _).mono ?_
      rintro e w8 ⟨rfl, hb8⟩
      have hB8 := hB7.trans (hb8.mono hB7.size)
      go_wp2_with fail
      go_ret
      exact ⟨by simp, hB8⟩

set_option maxRecDepth 100000 in
set_option maxHeartbeats 4000000 in
theorem tells_ok (a0 : Option Addr) (l0 c0 : Nat) (z0 : List R) (b : ByteArray) (W : World) (hF : V.Forms W) (hH : Handle W) (e0 : Row W (.slice a0 l0 c0) z0) (g0 : l0 ≤ c0) (hl : b.size ≤ maxLen) (hg : Good z0) (h0 : z0 ≠ []) :
    Calls Tryd.prog 3 #[.slice a0 l0 c0, .string b] W fun e w' => e = .returned (.bool true) ∧ Below W.heap.size W w' := by
  have hsl := (row_len e0).2
  have hlm : b.size ≤ 9223372036854775807 := by unfold maxLen at hl; omega
  have hl00 : ¬ l0 = 0 := by
    have := (row_len e0).1
    intro e
    exact h0 (List.eq_nil_of_length_eq_zero (by omega))
  have gl00 : ((l0 : Int) == 0) = false := by simp; omega
  have HR := rranges_calls _ z0 W e0
  rw [(chk_ok z0).2 hg] at HR
  go_enter Tryd.func3, Tryd.ntmps3
  go_wp2_with fail
  refine HR.mono ?_
  rintro e w1 ⟨rfl, hB1⟩
  clear HR
  have hF1 := hF.below hB1
  have hR1 := e0.below hB1
  have HA := rack_calls _ z0 _ hR1 hg h0
  go_wp2_with fail
  refine HA.mono ?_
  rintro e w2 ⟨rfl, hb2⟩
  have hB2 := hB1.trans (hb2.mono hB1.size)
  have HP := print_ok _ z0 _ (hF.below hB2) (e0.below hB2) (fits_slice g0) hg h0
  clear HA
  generalize strOfNums (enc z0) = se at *
  go_wp2_with fail
  refine HP.mono ?_
  rintro e w3 ⟨rfl, hb3⟩
  have hB3 := hB2.trans (hb3.mono hB2.size)
  clear HP
  go_wp2_with fail
  refine (nil_same _).mono ?_
  rintro e w4 ⟨rfl, hb4⟩
  have hB4 := hB3.trans (hb4.mono hB3.size)
  go_wp2_with fail
  refine (read_calls b _ hl).mono ?_
  rintro e w5 ⟨⟨hp, rfl⟩ | ⟨zs, v, A, rfl, hRv, hA, f1, f2⟩, hb5⟩
  · have hB5 := hB4.trans (hb5.mono hB4.size)
    have hF5 := hF.below hB5
    go_wp2_with fail
    refine (parse_no b _ hF5 hl hp).mono ?_
    rintro e w6 ⟨rfl, hb6⟩
    have hB6 := hB5.trans (hb6.mono hB5.size)
    have hH6 := hH.below hB6
    go_wp2_with fail
    refine (err_same 2 _ hH6).mono ?_
    rintro e w7 ⟨rfl, hb7⟩
    have hB7 := hB6.trans (hb7.mono hB6.size)
    go_wp2_with fail
    refine (same_nils _).mono ?_
    rintro e w8 ⟨rfl, hb8⟩
    have hB8 := hB7.trans (hb8.mono hB7.size)
    go_wp2_with fail
    go_ret
    exact ⟨by simp, hB8⟩
  · have hB5 := hB4.trans (hb5.mono hB4.size)
    have hF5 := hF.below hB5
    by_cases hAs : A = b.size
    · have hp := f1 hAs
      subst hAs
      clear f1 f2 hA
      have HRv : Hid (Row w5 v zs) := hRv
      obtain ⟨av, cv, rfl, _⟩ := hRv
      go_wp2_with fail
      refine (parse_yes b _ hF5 hl zs hp).mono ?_
      rintro e w6 ⟨v6, rfl, hR6, _, hb6⟩
      have hB6 := hB5.trans (hb6.mono hB5.size)
      go_wp2_with fail
      refine (nil_same _).mono ?_
      rintro e w7 ⟨rfl, hb7⟩
      have hB7 := hB6.trans (hb7.mono hB6.size)
      have HS := same_eq v6 _ zs w7 (hR6.below hb7) ((HRv.out.below hb6).below hb7)
      go_wp2_with fail
      refine HS.mono ?_
      rintro e w8 ⟨rfl, hb8⟩
      have hB8 := hB7.trans (hb8.mono hB7.size)
      clear HS
      go_wp2_with fail
      go_ret
      exact ⟨by simp, hB8⟩
    · have hp := f2 hAs
      have gAs : ¬ (A : Int) = (b.size : Int) := by omega
      clear f1 f2
      obtain ⟨av, cv, rfl, _⟩ := hRv
      go_wp2_with fail
      refine (parse_no b _ hF5 hl hp).mono ?_
      rintro e w6 ⟨rfl, hb6⟩
      have hB6 := hB5.trans (hb6.mono hB5.size)
      have hH6 := hH.below hB6
      go_wp2_with fail
      refine (err_same 2 _ hH6).mono ?_
      rintro e w7 ⟨rfl, hb7⟩
      have hB7 := hB6.trans (hb7.mono hB6.size)
      go_wp2_with fail
      refine (same_nils _).mono ?_
      rintro e w8 ⟨rfl, hb8⟩
      have hB8 := hB7.trans (hb8.mono hB7.size)
      go_wp2_with fail
      go_ret
      exact ⟨by simp, hB8⟩

theorem tells_law {W : World} {a0 : Option Addr} {l0 c0 : Nat} {z0 : List R} (e0 : Row W (.slice a0 l0 c0) z0) (g0 : l0 ≤ c0) (b : ByteArray) (hl : b.size ≤ maxLen) (hH : V.Forms W ∧ Handle W) :
    Calls Tryd.prog 3 #[.slice a0 l0 c0, .string b] W fun e w' => e = .returned (.bool true) ∧ Below W.heap.size W w' := by
  by_cases hc : chk z0 = 0
  · by_cases h0 : z0 = []
    · exact tells_none a0 l0 c0 z0 b W hH.1 hH.2 e0 g0 hl h0
    · exact tells_ok a0 l0 c0 z0 b W hH.1 hH.2 e0 g0 hl ((chk_ok z0).1 hc) h0
  · exact tells_err a0 l0 c0 z0 b W hH.1 hH.2 e0 g0 hl hc
end Go.Proofs.YtdemmpakiopgjaaDoor
