/- The walk of the law AckBack. -/
import Derived.Test.YtdemmpakiopgjaaDoorX
import Derived.Test.YtdemmpakiopgjaaDoorG
namespace Go.Proofs.YtdemmpakiopgjaaDoor
open Go.RowKit Go.Lib Go.Sort
set_option linter.unusedVariables false
set_option linter.unusedSimpArgs false

theorem fact_enc : strOfNums (enc [(8, 9), (1, 5)]) = { data := #[9, 1, 1, 1, 4] } := by decide
theorem fact_good : Good [(8, 9), (1, 5)] := (chk_ok _).1 (by decide)
theorem fact_row (W : World) : Row (W.alloc (.cells #[.int .i64 8, .int .i64 9, .int .i64 1, .int .i64 5] 37)) (.slice (some ⟨W.heap.size, 0, none⟩) 2 2) [(8, 9), (1, 5)] := by
  refine ⟨some ⟨W.heap.size, 0, none⟩, 2, rfl, by simp, (fun x => by cases x), .inr ⟨W.heap.size, 0, rfl, by simp, fun j hj => ?_⟩⟩
  match j, hj with
  | 0, _ => simp [at']
  | 1, _ => simp [at']
  | j + 2, hj => simp at hj; omega
theorem fact_calls (w : World) (hF : V.Forms w) : Calls Tryd.prog 8 #[.slice (some ⟨w.heap.size, 0, none⟩) 2 2] (w.alloc (.cells #[.int .i64 8, .int .i64 9, .int .i64 1, .int .i64 5] 37)) fun e w' => e = .returned (.tuple #[.string { data := #[9, 1, 1, 1, 4] }, .nilIface]) ∧ Below w.heap.size w w' := by
  have bel := (Below.refl w.heap.size w).alloc (Nat.le_refl _) (.cells #[.int .i64 8, .int .i64 9, .int .i64 1, .int .i64 5] 37)
  have h := print_ok (.slice (some ⟨w.heap.size, 0, none⟩) 2 2) [(8, 9), (1, 5)] _ (hF.below bel) (fact_row w) (fun a l c e => by cases e; exact Nat.le_refl _) fact_good (by simp)
  rw [fact_enc] at h
  exact h.mono fun e w' ⟨he, hb⟩ => ⟨he, bel.trans (hb.mono bel.size)⟩
theorem parsed {b : ByteArray} {zs : List R} (h : parse (V.ints b) = some zs) : Good zs ∧ zs ≠ [] ∧ strOfNums (enc zs) = b := by
  obtain ⟨h0, hg, he⟩ := (parse_iff (bytes_ints b) zs).1 h
  refine ⟨hg, h0, ints_inj ?_⟩
  rw [ints_str (bytes_enc hg), he]
theorem print_parsed {b : ByteArray} {zs : List R} (h : parse (V.ints b) = some zs) (v : Value) (w : World) (hF : V.Forms w) (hR : Row w v zs) (hf : Fits v) :
    Calls Tryd.prog 8 #[v] w fun e w' => e = .returned (.tuple #[.string b, .nilIface]) ∧ Below w.heap.size w w' := by
  obtain ⟨hg, h0, he⟩ := parsed h
  have := print_ok v zs w hF hR hf hg h0
  rw [he] at this
  exact this
theorem fits_slice {a : Option Addr} {l c : Nat} (h : l ≤ c) : Fits (.slice a l c) := fun a' l' c' e => by cases e; exact h
theorem row_len {w : World} {a : Option Addr} {l c : Nat} {zs : List R} (h : Row w (.slice a l c) zs) : zs.length = l ∧ l ≤ 9223372036854775807 := by
  obtain ⟨ao, c', e, hl, _⟩ := h
  injection e with e1 e2 e3
  exact ⟨e2.symm, by omega⟩

set_option maxRecDepth 100000 in
set_option maxHeartbeats 2000000 in
theorem back_no_err (a0 : Option Addr) (l0 c0 : Nat) (z0 : List R) (b : ByteArray) (W : World) (hF : V.Forms W) (e0 : Row W (.slice a0 l0 c0) z0) (g0 : l0 ≤ c0) (hl : b.size ≤ maxLen) (hp : parse (V.ints b) = none) (hc : chk z0 ≠ 0) :
    Calls Tryd.prog 4 #[.slice a0 l0 c0, .string b] W fun e w' => e = .returned (.bool true) ∧ Below W.heap.size W w' := by
  have hsl := (row_len e0).2
  go_enter Tryd.func4, Tryd.ntmps4
  go_wp2_with fail
  refine (fact_calls _ hF).mono ?_
  rintro e w1 ⟨rfl, hB1⟩
  have hF1 := hF.below hB1
  go_wp2_with fail
  refine (parse_no b _ hF1 hl hp).mono ?_
  rintro e w2 ⟨rfl, hb2⟩
  have hB2 := hB1.trans (hb2.mono hB1.size)
  have hF2 := hF.below hB2
  have hR2 := e0.below hB2
  go_wp2_with fail
  have HP := print_err _ z0 _ hR2 hc
  rw [show errV (chk z0) = .iface 42 (.int .i64 (chk z0)) by simp [errV, hc]] at HP
  refine HP.mono ?_
  rintro e w3 ⟨rfl, hb3⟩
  have hB3 := hB2.trans (hb3.mono hB2.size)
  go_wp2_with fail
  go_ret
  exact ⟨rfl, hB3⟩

set_option maxRecDepth 100000 in
set_option maxHeartbeats 2000000 in
theorem back_no_none (a0 : Option Addr) (l0 c0 : Nat) (z0 : List R) (b : ByteArray) (W : World) (hF : V.Forms W) (e0 : Row W (.slice a0 l0 c0) z0) (g0 : l0 ≤ c0) (hl : b.size ≤ maxLen) (hp : parse (V.ints b) = none) (hc : z0 = []) :
    Calls Tryd.prog 4 #[.slice a0 l0 c0, .string b] W fun e w' => e = .returned (.bool true) ∧ Below W.heap.size W w' := by
  subst hc
  have hsl := (row_len e0).2
  go_enter Tryd.func4, Tryd.ntmps4
  go_wp2_with fail
  refine (fact_calls _ hF).mono ?_
  rintro e w1 ⟨rfl, hB1⟩
  have hF1 := hF.below hB1
  go_wp2_with fail
  refine (parse_no b _ hF1 hl hp).mono ?_
  rintro e w2 ⟨rfl, hb2⟩
  have hB2 := hB1.trans (hb2.mono hB1.size)
  have hF2 := hF.below hB2
  have hR2 := e0.below hB2
  go_wp2_with fail
  refine (print_none _ _ hR2).mono ?_
  rintro e w3 ⟨rfl, hb3⟩
  have hB3 := hB2.trans (hb3.mono hB2.size)
  go_wp2_with fail
  go_ret
  exact ⟨rfl, hB3⟩

set_option maxRecDepth 100000 in
set_option maxHeartbeats 2000000 in
theorem back_no_ok (a0 : Option Addr) (l0 c0 : Nat) (z0 : List R) (b : ByteArray) (W : World) (hF : V.Forms W) (e0 : Row W (.slice a0 l0 c0) z0) (g0 : l0 ≤ c0) (hl : b.size ≤ maxLen) (hp : parse (V.ints b) = none) (hg : Good z0) (h0 : z0 ≠ []) :
    Calls Tryd.prog 4 #[.slice a0 l0 c0, .string b] W fun e w' => e = .returned (.bool true) ∧ Below W.heap.size W w' := by
  have hsl := (row_len e0).2
  go_enter Tryd.func4, Tryd.ntmps4
  go_wp2_with fail
  refine (fact_calls _ hF).mono ?_
  rintro e w1 ⟨rfl, hB1⟩
  have hF1 := hF.below hB1
  go_wp2_with fail
  refine (parse_no b _ hF1 hl hp).mono ?_
  rintro e w2 ⟨rfl, hb2⟩
  have hB2 := hB1.trans (hb2.mono hB1.size)
  have hF2 := hF.below hB2
  have hR2 := e0.below hB2
  go_wp2_with fail
  have HP := print_ok _ z0 _ hF2 hR2 (fits_slice g0) hg h0
  have hpe := parse_enc hg h0
  have hsz := enc_size hg h0
  have hszm : (strOfNums (enc z0)).size ≤ maxLen := by unfold maxLen; omega
  have hsz8 : (strOfNums (enc z0)).size ≤ 8 * l0 + 1 := by
    rw [strOfNums_size, ← (row_len e0).1]; exact enc_length hg h0
  have hl12 : l0 ≤ 12 := by rw [← (row_len e0).1]; exact hg.1
  have HPY := fun W hW => parse_yes (strOfNums (enc z0)) W hW hszm _ hpe
  clear hpe
  generalize strOfNums (enc z0) = se at *
  have gle : ((se.size : Nat) : Int) ≤ 8 * (l0 : Int) + 1 := by omega
  refine HP.mono ?_
  rintro e w3 ⟨rfl, hb3⟩
  have hB3 := hB2.trans (hb3.mono hB2.size)
  have hF3 := hF.below hB3
  clear HP
  go_wp2_with fail
  refine (HPY _ hF3).mono ?_
  rintro e w4 ⟨v4, rfl, hR4, _, hb4⟩
  have hB4 := hB3.trans (hb4.mono hB3.size)
  have HS := same_calls v4 (.slice a0 l0 c0) z0 z0 w4 hR4 (e0.below hB4)
  rw [show decide (z0 = z0) = true by simp] at HS
  clear HPY
  go_wp2_with fail
  refine HS.mono ?_
  rintro e w5 ⟨rfl, hb5⟩
  have hB5 := hB4.trans (hb5.mono hB4.size)
  clear HS
  go_wp2_with fail
  go_ret
  exact ⟨by simp, hB5⟩

set_option maxRecDepth 100000 in
set_option maxHeartbeats 2000000 in
theorem back_yes_err (a0 : Option Addr) (l0 c0 : Nat) (z0 : List R) (b : ByteArray) (W : World) (hF : V.Forms W) (e0 : Row W (.slice a0 l0 c0) z0) (g0 : l0 ≤ c0) (hl : b.size ≤ maxLen) (zs : List R) (hp : parse (V.ints b) = some zs) (hc : chk z0 ≠ 0) :
    Calls Tryd.prog 4 #[.slice a0 l0 c0, .string b] W fun e w' => e = .returned (.bool true) ∧ Below W.heap.size W w' := by
  have hsl := (row_len e0).2
  go_enter Tryd.func4, Tryd.ntmps4
  go_wp2_with fail
  refine (fact_calls _ hF).mono ?_
  rintro e w1 ⟨rfl, hB1⟩
  have hF1 := hF.below hB1
  go_wp2_with fail
  refine (parse_yes b _ hF1 hl zs hp).mono ?_
  rintro e w1' ⟨v, rfl, hRv, hfv, hb1'⟩
  have hB1' := hB1.trans (hb1'.mono hB1.size)
  have hF1' := hF.below hB1'
  go_wp2_with fail
  refine (print_parsed hp v _ hF1' hRv hfv).mono ?_
  rintro e w2 ⟨rfl, hb2⟩
  have hB2 := hB1'.trans (hb2.mono hB1'.size)
  have hF2 := hF.below hB2
  have hR2 := e0.below hB2
  go_wp2_with fail
  have HP := print_err _ z0 _ hR2 hc
  rw [show errV (chk z0) = .iface 42 (.int .i64 (chk z0)) by simp [errV, hc]] at HP
  refine HP.mono ?_
  rintro e w3 ⟨rfl, hb3⟩
  have hB3 := hB2.trans (hb3.mono hB2.size)
  go_wp2_with fail
  go_ret
  exact ⟨rfl, hB3⟩

set_option maxRecDepth 100000 in
set_option maxHeartbeats 2000000 in
theorem back_yes_none (a0 : Option Addr) (l0 c0 : Nat) (z0 : List R) (b : ByteArray) (W : World) (hF : V.Forms W) (e0 : Row W (.slice a0 l0 c0) z0) (g0 : l0 ≤ c0) (hl : b.size ≤ maxLen) (zs : List R) (hp : parse (V.ints b) = some zs) (hc : z0 = []) :
    Calls Tryd.prog 4 #[.slice a0 l0 c0, .string b] W fun e w' => e = .returned (.bool true) ∧ Below W.heap.size W w' := by
  subst hc
  have hsl := (row_len e0).2
  go_enter Tryd.func4, Tryd.ntmps4
  go_wp2_with fail
  refine (fact_calls _ hF).mono ?_
  rintro e w1 ⟨rfl, hB1⟩
  have hF1 := hF.below hB1
  go_wp2_with fail
  refine (parse_yes b _ hF1 hl zs hp).mono ?_
  rintro e w1' ⟨v, rfl, hRv, hfv, hb1'⟩
  have hB1' := hB1.trans (hb1'.mono hB1.size)
  have hF1' := hF.below hB1'
  go_wp2_with fail
  refine (print_parsed hp v _ hF1' hRv hfv).mono ?_
  rintro e w2 ⟨rfl, hb2⟩
  have hB2 := hB1'.trans (hb2.mono hB1'.size)
  have hF2 := hF.below hB2
  have hR2 := e0.below hB2
  go_wp2_with fail
  refine (print_none _ _ hR2).mono ?_
  rintro e w3 ⟨rfl, hb3⟩
  have hB3 := hB2.trans (hb3.mono hB2.size)
  go_wp2_with fail
  go_ret
  exact ⟨rfl, hB3⟩

set_option maxRecDepth 100000 in
set_option maxHeartbeats 2000000 in
theorem back_yes_ok (a0 : Option Addr) (l0 c0 : Nat) (z0 : List R) (b : ByteArray) (W : World) (hF : V.Forms W) (e0 : Row W (.slice a0 l0 c0) z0) (g0 : l0 ≤ c0) (hl : b.size ≤ maxLen) (zs : List R) (hp : parse (V.ints b) = some zs) (hg : Good z0) (h0 : z0 ≠ []) :
    Calls Tryd.prog 4 #[.slice a0 l0 c0, .string b] W fun e w' => e = .returned (.bool true) ∧ Below W.heap.size W w' := by
  have hsl := (row_len e0).2
  go_enter Tryd.func4, Tryd.ntmps4
  go_wp2_with fail
  refine (fact_calls _ hF).mono ?_
  rintro e w1 ⟨rfl, hB1⟩
  have hF1 := hF.below hB1
  go_wp2_with fail
  refine (parse_yes b _ hF1 hl zs hp).mono ?_
  rintro e w1' ⟨v, rfl, hRv, hfv, hb1'⟩
  have hB1' := hB1.trans (hb1'.mono hB1.size)
  have hF1' := hF.below hB1'
  go_wp2_with fail
  refine (print_parsed hp v _ hF1' hRv hfv).mono ?_
  rintro e w2 ⟨rfl, hb2⟩
  have hB2 := hB1'.trans (hb2.mono hB1'.size)
  have hF2 := hF.below hB2
  have hR2 := e0.below hB2
  go_wp2_with fail
  have HP := print_ok _ z0 _ hF2 hR2 (fits_slice g0) hg h0
  have hpe := parse_enc hg h0
  have hsz := enc_size hg h0
  have hszm : (strOfNums (enc z0)).size ≤ maxLen := by unfold maxLen; omega
  have hsz8 : (strOfNums (enc z0)).size ≤ 8 * l0 + 1 := by
    rw [strOfNums_size, ← (row_len e0).1]; exact enc_length hg h0
  have hl12 : l0 ≤ 12 := by rw [← (row_len e0).1]; exact hg.1
  have HPY := fun W hW => parse_yes (strOfNums (enc z0)) W hW hszm _ hpe
  clear hpe
  generalize strOfNums (enc z0) = se at *
  have gle : ((se.size : Nat) : Int) ≤ 8 * (l0 : Int) + 1 := by omega
  refine HP.mono ?_
  rintro e w3 ⟨rfl, hb3⟩
  have hB3 := hB2.trans (hb3.mono hB2.size)
  have hF3 := hF.below hB3
  clear HP
  go_wp2_with fail
  refine (HPY _ hF3).mono ?_
  rintro e w4 ⟨v4, rfl, hR4, _, hb4⟩
  have hB4 := hB3.trans (hb4.mono hB3.size)
  have HS := same_calls v4 (.slice a0 l0 c0) z0 z0 w4 hR4 (e0.below hB4)
  rw [show decide (z0 = z0) = true by simp] at HS
  clear HPY
  go_wp2_with fail
  refine HS.mono ?_
  rintro e w5 ⟨rfl, hb5⟩
  have hB5 := hB4.trans (hb5.mono hB4.size)
  clear HS
  go_wp2_with fail
  go_ret
  exact ⟨by simp, hB5⟩

theorem back_law {W : World} {a0 : Option Addr} {l0 c0 : Nat} {z0 : List R} (e0 : Row W (.slice a0 l0 c0) z0) (g0 : l0 ≤ c0) (b : ByteArray) (hl : b.size ≤ maxLen) (hF : V.Forms W) :
    Calls Tryd.prog 4 #[.slice a0 l0 c0, .string b] W fun e w' => e = .returned (.bool true) ∧ Below W.heap.size W w' := by
  by_cases hc : chk z0 = 0
  · have hg := (chk_ok z0).1 hc
    by_cases h0 : z0 = []
    · cases hp : parse (V.ints b) with
      | none => exact back_no_none a0 l0 c0 z0 b W hF e0 g0 hl hp h0
      | some zs => exact back_yes_none a0 l0 c0 z0 b W hF e0 g0 hl zs hp h0
    · cases hp : parse (V.ints b) with
      | none => exact back_no_ok a0 l0 c0 z0 b W hF e0 g0 hl hp hg h0
      | some zs => exact back_yes_ok a0 l0 c0 z0 b W hF e0 g0 hl zs hp hg h0
  · cases hp : parse (V.ints b) with
    | none => exact back_no_err a0 l0 c0 z0 b W hF e0 g0 hl hp hc
    | some zs => exact back_yes_err a0 l0 c0 z0 b W hF e0 g0 hl zs hp hc
end Go.Proofs.YtdemmpakiopgjaaDoor
