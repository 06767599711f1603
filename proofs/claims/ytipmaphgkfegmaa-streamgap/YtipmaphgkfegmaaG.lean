/- The walk of the law StreamGap. -/
import Derived.Test.YtipmaphgkfegmaaE
namespace Go.Proofs.Ytipmaphgkfegmaa
open Go.RowKit Go.Lib Go.Sort
set_option linter.unusedVariables false
set_option linter.unusedSimpArgs false

theorem clB_new (a : Nat) (d : ByteArray) : clB newS a d = false := clB_no fun i _ => by simp [cl, newS]
theorem up_cm (a : Nat) (d : ByteArray) (j : Nat) : (upS newS a d d.size).cm j = decide (a ≤ j ∧ j < a + d.size) := by simp [upS, newS]
theorem put_new {a : Nat} {d : ByteArray} (h : a + d.size ≤ 60) : putF newS (a : Int) d = 0 ∧ putS newS (a : Int) d = upS newS a d d.size := by
  have e : putF newS (a : Int) d = 0 := putF_yes (decide_eq_true ⟨by omega, by omega⟩) (by omega) (clB_new _ _)
  exact ⟨e, by rw [putS_yes e]; simp⟩
theorem gaps_one_piece {a : Nat} {d : ByteArray} (h : a + d.size ≤ 60) : gaps (upS newS a d d.size) = if 0 < a ∧ 0 < d.size then [((0 : Int), (a : Int) - 1)] else [] := by
  rw [gaps, gp_one (fun j _ => up_cm a d j) 60 (by omega)]
  by_cases h1 : 0 < a ∧ 0 < d.size
  · have : a < 60 := by omega
    simp [h1, this]
  · simp only
    rw [if_neg (by omega), if_neg h1]
theorem rdy_front (d : ByteArray) (h : d.size ≤ 60) : rdy (upS newS 0 d d.size) = d.size := by
  have c : ∀ i, i < d.size → (upS newS 0 d d.size).cm (0 + i) = true := fun i hi => by rw [up_cm]; exact decide_eq_true (by omega)
  rw [rdy, show (upS newS 0 d d.size).tk = 0 from rfl]
  by_cases e : d.size = 60
  · rw [show 60 - 0 = d.size by omega, run_all _ _ _ c]
  · rw [run_stop _ _ _ d.size c (by omega) (by rw [up_cm]; simp)]
theorem rdy_behind {a : Nat} {d : ByteArray} (h : a + d.size ≤ 60) (h0 : 0 < a ∨ d.size = 0) : rdy (upS newS a d d.size) = 0 := by
  rw [rdy, show (upS newS a d d.size).tk = 0 from rfl]
  exact run_stop _ _ _ 0 (fun i hi => by omega) (by omega) (by rw [up_cm]; exact decide_eq_false (by omega))

set_option maxRecDepth 100000 in
set_option maxHeartbeats 2000000 in
theorem gap_lo (p : Int) (d : ByteArray) (w : World) (hd : d.size ≤ 140737488351232) (h : p < 0) : Calls Try.prog 3 #[.int .i64 p, .string d] w fun e w' => e = .returned (.bool true) ∧ Below w.heap.size w w' := by
  go_enter Try.func3, Try.ntmps3
  go_wp2_with fail
  refine (new_one (Below.refl w.heap.size w)).mono ?_
  rintro e w1 ⟨sb, rfl, h1⟩
  have hput := put_one h1 p d hd
  rw [putF_range (decide_eq_false (by omega)), errV_f (by decide)] at hput
  go_wp2_with fail
  refine hput.mono ?_
  rintro e w2 ⟨rfl, h2⟩
  clear h1 hput
  have hb2 := h2.bel
  clear h2
  go_wp2_with fail
  go_ret
  exact ⟨by simp <;> omega, hb2⟩

set_option maxRecDepth 100000 in
set_option maxHeartbeats 2000000 in
theorem gap_hi (p : Int) (d : ByteArray) (w : World) (hd : d.size ≤ 140737488351232) (h : 60 < p) : Calls Try.prog 3 #[.int .i64 p, .string d] w fun e w' => e = .returned (.bool true) ∧ Below w.heap.size w w' := by
  go_enter Try.func3, Try.ntmps3
  go_wp2_with fail
  refine (new_one (Below.refl w.heap.size w)).mono ?_
  rintro e w1 ⟨sb, rfl, h1⟩
  have hput := put_one h1 p d hd
  rw [putF_range (decide_eq_false (by omega)), errV_f (by decide)] at hput
  go_wp2_with fail
  refine hput.mono ?_
  rintro e w2 ⟨rfl, h2⟩
  clear h1 hput
  have hb2 := h2.bel
  clear h2
  go_wp2_with fail
  go_ret
  exact ⟨by simp <;> omega, hb2⟩

set_option maxRecDepth 100000 in
set_option maxHeartbeats 2000000 in
theorem gap_full (p : Int) (d : ByteArray) (w : World) (hd : d.size ≤ 140737488351232) (q0 : 0 ≤ p) (q1 : p ≤ 60) (h : 60 < p + (d.size : Int)) : Calls Try.prog 3 #[.int .i64 p, .string d] w fun e w' => e = .returned (.bool true) ∧ Below w.heap.size w w' := by
  go_enter Try.func3, Try.ntmps3
  go_wp2_with fail
  refine (new_one (Below.refl w.heap.size w)).mono ?_
  rintro e w1 ⟨sb, rfl, h1⟩
  have hput := put_one h1 p d hd
  rw [putF_full (decide_eq_true ⟨q0, q1⟩) h, errV_f (by decide)] at hput
  go_wp2_with fail
  refine hput.mono ?_
  rintro e w2 ⟨rfl, h2⟩
  clear h1 hput
  have hb2 := h2.bel
  clear h2
  go_wp2_with fail
  go_ret
  exact ⟨by simp <;> omega, hb2⟩

set_option maxRecDepth 100000 in
set_option maxHeartbeats 2000000 in
theorem gap_front (d : ByteArray) (w : World) (hd : d.size ≤ 140737488351232) (h : d.size ≤ 60) : Calls Try.prog 3 #[.int .i64 0, .string d] w fun e w' => e = .returned (.bool true) ∧ Below w.heap.size w w' := by
  obtain ⟨e1, e2⟩ := put_new (a := 0) (d := d) (by omega)
  have e3 := rdy_front d h
  have e4 := gaps_one_piece (a := 0) (d := d) (by omega)
  rw [if_neg (by omega)] at e4
  go_enter Try.func3, Try.ntmps3
  go_wp2_with fail
  refine (new_one (Below.refl w.heap.size w)).mono ?_
  rintro e w1 ⟨sb, rfl, h1⟩
  have hput := put_one h1 ((0 : Nat) : Int) d hd
  rw [e1, e2, errV_0] at hput
  go_wp2_with fail
  refine hput.mono ?_
  rintro e w2 ⟨rfl, h2⟩
  clear h1 hput
  have hgap := gaps_one h2
  rw [e4] at hgap
  go_wp2_with fail
  refine hgap.mono ?_
  rintro e w3 ⟨v, rfl, hR, h3⟩
  clear h2 hgap
  obtain ⟨ao, c, rfl, hl, hnn, hz⟩ := hR
  simp only [List.length_cons, List.length_nil, Nat.reduceAdd] at hl ⊢
  have hrd := ready_one h3
  rw [e3] at hrd
  clear e1 e2 e3 e4
  clear hz
  go_wp2_with fail
  refine hrd.mono ?_
  rintro e w4 ⟨rfl, h4⟩
  have hb4 := h4.bel
  clear hrd h3 h4
  go_wp2_with fail
  go_ret
  exact ⟨by simp, hb4⟩

set_option maxRecDepth 100000 in
set_option maxHeartbeats 2000000 in
theorem gap_empty (a : Nat) (d : ByteArray) (w : World) (hd : d.size ≤ 140737488351232) (h : a ≤ 60) (ha : 0 < a) (h0 : d.size = 0) : Calls Try.prog 3 #[.int .i64 (a : Int), .string d] w fun e w' => e = .returned (.bool true) ∧ Below w.heap.size w w' := by
  have hne : (d.toList == []) = true := by
    rw [ByteArray.toList_eq]
    obtain ⟨⟨l⟩⟩ := d
    cases l with
    | nil => rfl
    | cons b r => exact absurd h0 (by simp [ByteArray.size])
  have q : ¬ ((a : Int) = 0) := by omega
  obtain ⟨e1, e2⟩ := put_new (a := a) (d := d) (by omega)
  have e3 := (rdy_behind (a := a) (d := d) (by omega) (.inr h0))
  have e4 := gaps_one_piece (a := a) (d := d) (by omega)
  rw [if_neg (by omega)] at e4
  go_enter Try.func3, Try.ntmps3
  go_wp2_with fail
  refine (new_one (Below.refl w.heap.size w)).mono ?_
  rintro e w1 ⟨sb, rfl, h1⟩
  have hput := put_one h1 (a : Int) d hd
  rw [e1, e2, errV_0] at hput
  go_wp2_with fail
  refine hput.mono ?_
  rintro e w2 ⟨rfl, h2⟩
  clear h1 hput
  have hgap := gaps_one h2
  rw [e4] at hgap
  go_wp2_with fail
  refine hgap.mono ?_
  rintro e w3 ⟨v, rfl, hR, h3⟩
  clear h2 hgap
  obtain ⟨ao, c, rfl, hl, hnn, hz⟩ := hR
  simp only [List.length_cons, List.length_nil, Nat.reduceAdd] at hl ⊢
  have hrd := ready_one h3
  rw [e3] at hrd
  clear e1 e2 e3 e4
  clear hz
  go_wp2_with fail
  refine hrd.mono ?_
  rintro e w4 ⟨rfl, h4⟩
  have hb4 := h4.bel
  clear hrd h3 h4
  go_wp2_with fail
  go_ret
  exact ⟨by simp, hb4⟩

set_option maxRecDepth 100000 in
set_option maxHeartbeats 2000000 in
theorem gap_gap (a : Nat) (d : ByteArray) (w : World) (hd : d.size ≤ 140737488351232) (h : a + d.size ≤ 60) (ha : 0 < a) (h0 : 0 < d.size) : Calls Try.prog 3 #[.int .i64 (a : Int), .string d] w fun e w' => e = .returned (.bool true) ∧ Below w.heap.size w w' := by
  have hne : (d.toList == []) = false := by
    rw [ByteArray.toList_eq]
    obtain ⟨⟨l⟩⟩ := d
    cases l with
    | nil => exact absurd h0 (by decide)
    | cons b r => rfl
  have q : ¬ ((a : Int) = 0) := by omega
  obtain ⟨e1, e2⟩ := put_new (a := a) (d := d) (by omega)
  have e3 := (rdy_behind (a := a) (d := d) (by omega) (.inl ha))
  have e4 := gaps_one_piece (a := a) (d := d) (by omega)
  rw [if_pos ⟨ha, h0⟩] at e4
  go_enter Try.func3, Try.ntmps3
  go_wp2_with fail
  refine (new_one (Below.refl w.heap.size w)).mono ?_
  rintro e w1 ⟨sb, rfl, h1⟩
  have hput := put_one h1 (a : Int) d hd
  rw [e1, e2, errV_0] at hput
  go_wp2_with fail
  refine hput.mono ?_
  rintro e w2 ⟨rfl, h2⟩
  clear h1 hput
  have hgap := gaps_one h2
  rw [e4] at hgap
  go_wp2_with fail
  refine hgap.mono ?_
  rintro e w3 ⟨v, rfl, hR, h3⟩
  clear h2 hgap
  obtain ⟨ao, c, rfl, hl, hnn, hz⟩ := hR
  simp only [List.length_cons, List.length_nil, Nat.reduceAdd] at hl ⊢
  have hrd := ready_one h3
  rw [e3] at hrd
  clear e1 e2 e3 e4
  obtain ⟨b, off, rfl, hb, hC⟩ : ∃ b off, ao = some ⟨b, off, none⟩ ∧ b < w3.heap.size ∧ Cells w3 b off [((0 : Int), (a : Int) - 1)] := by
    rcases hz with h | h
    · exact absurd h (by simp)
    · exact h
  obtain ⟨z0, z1⟩ := hC 0 (by simp)
  have u1 := wrap_small ((a : Int) - 1) (by omega) (by omega)
  simp only [at', List.getElem?_cons_zero, Option.getD_some, Nat.zero_mul, Nat.add_zero] at z0 z1
  go_wp2_with fail
  refine (ready_calls h3.obj).mono ?_
  rintro e w4 ⟨rfl, hb4⟩
  have hb5 := (h3.below hb4).bel
  have y0 := (hb4.cell (p := ⟨b, off, none⟩) hb).trans z0
  have y1 := (hb4.cell (p := ⟨b, off + 1, none⟩) hb).trans z1
  rw [rdy_behind (a := a) (d := d) (by omega) (.inl ha)]
  clear hrd h3 hb4 z0 z1 hC
  go_wp2_with fail
  go_ret
  exact ⟨by simp, hb5⟩

theorem gap_walk (p : Int) (d : ByteArray) (w : World) (hd : d.size ≤ 140737488351232) : Calls Try.prog 3 #[.int .i64 p, .string d] w fun e w' => e = .returned (.bool true) ∧ Below w.heap.size w w' := by
  by_cases h1 : p < 0
  · exact gap_lo p d w hd h1
  by_cases h2 : 60 < p
  · exact gap_hi p d w hd h2
  by_cases h3 : 60 < p + (d.size : Int)
  · exact gap_full p d w hd (by omega) (by omega) h3
  obtain ⟨a, rfl⟩ : ∃ a : Nat, p = (a : Int) := ⟨p.toNat, by omega⟩
  by_cases h4 : a = 0
  · subst h4; exact gap_front d w hd (by omega)
  by_cases h5 : d.size = 0
  · exact gap_empty a d w hd (by omega) (by omega) h5
  · exact gap_gap a d w hd (by omega) (by omega) (by omega)
end Go.Proofs.Ytipmaphgkfegmaa
