/- What Add, Has, Count and Both answer; and whether two lists of ranges are the same. -/
import Derived.Test.YtegelodkopommaaGreatDoorRB
import Derived.Laws.StructEq
namespace Go.Proofs.YtegelodkopommaaGreatDoor
open Go.RowKit Go.Lib Go.Sort Go.Shelf
set_option linter.unusedVariables false
set_option linter.unusedSimpArgs false

theorem errV_ne {k : Int} (h : k ≠ 0) : errV k = .iface 55 (.int .i64 k) := by unfold errV; rw [if_neg h]
theorem good_each {zs : List R} (h : Good zs) : ∀ r, r ∈ zs → 0 ≤ r.1 ∧ r.1 ≤ r.2 ∧ r.2 ≤ 1073741823 := fun r hr => ⟨(h.2.1 r hr).1, norm_le h.2.2 r hr, (h.2.1 r hr).2⟩

set_option maxRecDepth 100000 in
set_option maxHeartbeats 2000000 in
theorem add_bad (v : Value) (zs : List R) (n : Int) (w : World) (h : Row w v zs) (hk : chk zs ≠ 0) :
    Calls Tryz.prog 23 #[v, .int .i64 n] w fun e w' => e = .returned (.tuple #[.slice none 0 0, .bool false, errV (chk zs)]) ∧ Below w.heap.size w w' := by
  have hc := check_calls v zs w h
  rw [errV_ne hk] at hc ⊢
  obtain ⟨ao, c, rfl, hl, hn, hz⟩ := h
  clear hz hn
  generalize chk zs = k at *
  go_enter Tryz.func23, Tryz.ntmps23
  go_wp2_with (go_at_call 27; refine hc.mono ?_; rintro e w1 ⟨rfl, hb1⟩)
  go_ret3
  exact ⟨rfl, hb1⟩

set_option maxRecDepth 100000 in
set_option maxHeartbeats 2000000 in
theorem add_no (v : Value) (zs : List R) (n : Int) (w : World) (h : Row w v zs) (hk : chk zs = 0) (hN : isN n = false) :
    Calls Tryz.prog 23 #[v, .int .i64 n] w fun e w' => e = .returned (.tuple #[.slice none 0 0, .bool false, errV 1]) ∧ Below w.heap.size w w' := by
  have hc := check_calls v zs w h
  rw [hk, errV0] at hc
  rw [errV1]
  obtain ⟨ao, c, rfl, hl, hn, hz⟩ := h
  clear hz hn hk
  go_enter Tryz.func23, Tryz.ntmps23
  go_wp2_with (first | (go_at_call 27; refine hc.mono ?_; rintro e w1 ⟨rfl, hb1⟩) | (go_at_call 46; refine (isNumber_calls n _).mono ?_; rintro e w2 ⟨rfl, rfl⟩; rw [hN]))
  go_ret3
  exact ⟨rfl, hb1⟩

set_option maxRecDepth 100000 in
set_option maxHeartbeats 2000000 in
theorem add_ok (v : Value) (zs : List R) (n : Int) (w : World) (h : Row w v zs) (hk : chk zs = 0) (hN : isN n = true) :
    Calls Tryz.prog 23 #[v, .int .i64 n] w fun e w' => ∃ zs', Norm zs' ∧ (∀ k, Mem zs' k ↔ Mem zs k ∨ k = n) ∧ zs'.length ≤ zs.length + 1 ∧ Below w.heap.size w w' ∧
      ((12 < zs'.length ∧ e = .returned (.tuple #[.slice none 0 0, .bool false, errV 4])) ∨ (zs'.length ≤ 12 ∧ ∃ v', w'.ownsRow w.heap.size 66 2 v' zs'.length (flat zs') ∧ e = .returned (.tuple #[v', .bool (!memB zs n), .nilIface]))) := by
  have hc := check_calls v zs w h
  rw [hk, errV0] at hc
  have HG : Hid (Good zs) := (chk_ok zs).1 hk
  have HR : Hid (Row w v zs) := h
  have hN' := (isN_iff n).1 hN
  have h12 : zs.length ≤ 12 := HG.out.1
  obtain ⟨ao, c, rfl, hl, hn, hz⟩ := h
  clear hz hn hk
  go_enter Tryz.func23, Tryz.ntmps23
  go_wp2_with (first | (go_at_call 27; refine hc.mono ?_; rintro e w1 ⟨rfl, hb1⟩) | (go_at_call 46; refine (isNumber_calls n _).mono ?_; rintro e w2 ⟨rfl, rfl⟩; rw [hN]))
  have hba := hb1.alloc hb1.size (.cells #[.int .i64 n, .int .i64 n] 66)
  refine (joined_calls _ _ zs [(n, n)] _ (HR.out.below hba) (row_new _ n n) (by omega) (by simp) ?_).mono ?_
  · intro r hr
    rcases List.mem_append.1 hr with hr | hr
    · exact good_each HG.out r hr
    · simp at hr; subst hr; exact ⟨hN'.1, Int.le_refl _, hN'.2⟩
  rintro e w3 ⟨v3, zs', rfl, hO3, hn3, hm3, hl3, hb3⟩
  have hr3 := row_of_own hO3 (by simp only [List.length_cons, List.length_nil] at hl3; omega)
  have HO3 : Hid (w3.ownsRow w.heap.size 66 2 v3 zs'.length (flat zs')) := own_mono hO3 (by simp; have := hb1.size; omega)
  clear hO3
  have hbc := hba.trans (hb3.mono hba.size)
  have HM : Hid (Norm zs' ∧ (∀ k, Mem zs' k ↔ Mem zs k ∨ k = n) ∧ zs'.length ≤ zs.length + 1) := by
    refine ⟨hn3, fun k => ?_, by simpa using hl3⟩
    rw [hm3 k, mem_one]
    constructor
    · rintro (x | x)
      · exact .inl x
      · exact .inr (by have := x.1; have := x.2; simp at *; omega)
    · rintro (x | rfl)
      · exact .inl x
      · exact .inr ⟨Int.le_refl _, Int.le_refl _⟩
  have hl' : zs'.length ≤ 13 := by have := HM.out.2.2; omega
  have HR3 : Hid (Row w3 v3 zs') := hr3
  clear hn3 hm3 hl3
  obtain ⟨ao3, c3, rfl, hl4, hn4, hz4⟩ := hr3
  clear hz4 hn4
  generalize hq : zs'.length = len at *
  have HQ : Hid (zs'.length = len) := hq
  clear hq
  by_cases h13 : 12 < len
  · have g1 : (12 : Int) < (len : Int) := by omega
    go_wp2_with fail
    go_ret3
    exact ⟨zs', HM.out.1, HM.out.2.1, HQ.out ▸ HM.out.2.2, hbc, .inl ⟨by rw [HQ.out]; exact h13, rfl⟩⟩
  · have g1 : ¬ (12 : Int) < (len : Int) := by omega
    go_wp2_with (go_at_call 48; refine (has_calls _ zs n _ (HR.out.below hbc)).mono ?_; rintro e w4 ⟨rfl, hb4⟩)
    go_ret3
    exact ⟨zs', HM.out.1, HM.out.2.1, HQ.out ▸ HM.out.2.2, hbc.trans (hb4.mono hbc.size), .inr ⟨by rw [HQ.out]; omega, _, (by rw [HQ.out]; exact own_below HO3.out hb4), rfl⟩⟩

set_option maxRecDepth 100000 in
set_option maxHeartbeats 2000000 in
theorem count_bad (v : Value) (zs : List R) (w : World) (h : Row w v zs) (hk : chk zs ≠ 0) :
    Calls Tryz.prog 12 #[v] w fun e w' => e = .returned (.tuple #[.int .i64 0, errV (chk zs)]) ∧ Below w.heap.size w w' := by
  have hc := check_calls v zs w h
  rw [errV_ne hk] at hc ⊢
  obtain ⟨ao, c, rfl, hl, hn, hz⟩ := h
  clear hz hn
  generalize chk zs = k at *
  go_enter Tryz.func12, Tryz.ntmps12
  go_wp2_with (go_at_call 27; refine hc.mono ?_; rintro e w1 ⟨rfl, hb1⟩)
  go_ret2
  exact ⟨rfl, hb1⟩

theorem cnt_take (zs : List R) (k : Nat) (h : k < zs.length) : cnt (zs.take (k + 1)) = cnt (zs.take k) + ((at' zs k).2 - (at' zs k).1 + 1) := by
  rw [List.take_succ_eq_append_getElem h, cnt_append]
  simp [cnt, at', h]
theorem cnt_take_bound {zs : List R} (hg : Good zs) (k : Nat) : 0 ≤ cnt (zs.take k) ∧ cnt (zs.take k) ≤ 12884901888 := by
  have hb := cnt_bounds (zs := zs.take k) (fun r hr => hg.2.1 r (List.mem_of_mem_take hr)) (fun r hr => norm_le hg.2.2 r (List.mem_of_mem_take hr))
  have hl : (zs.take k).length ≤ 12 := by rw [List.length_take]; have := hg.1; omega
  generalize (zs.take k).length = l at *
  omega

set_option maxRecDepth 100000 in
set_option maxHeartbeats 2000000 in
theorem count_ok (v : Value) (zs : List R) (w : World) (h : Row w v zs) (hk : chk zs = 0) :
    Calls Tryz.prog 12 #[v] w fun e w' => e = .returned (.tuple #[.int .i64 (cnt zs), .nilIface]) ∧ Below w.heap.size w w' := by
  have hc := check_calls v zs w h
  rw [hk, errV0] at hc
  have HG : Hid (Good zs) := (chk_ok zs).1 hk
  have h12 : zs.length ≤ 12 := HG.out.1
  obtain ⟨ao, c, rfl, hl, hn, hz⟩ := h
  have HZ : Hid (zs = [] ∨ ∃ b off, ao = some ⟨b, off, none⟩ ∧ b < w.heap.size ∧ Cells w b off zs) := hz
  clear hz hn hk
  generalize hq : zs.length = len at *
  have HQ : Hid (zs.length = len) := hq
  clear hq
  go_enter Tryz.func12, Tryz.ntmps12
  go_wp2_with (go_at_call 27; refine hc.mono ?_; rintro e w1 ⟨rfl, hb1⟩)
  go_loopw [5, 15] (fun sm i wr => ∃ k : Nat, k ≤ len ∧ i = .int .i64 k ∧ sm = .int .i64 (cnt (zs.take k)) ∧ Below w.heap.size w wr) (fun _ i _ => len - (intOf i).toNat)
  case atStart => exact ⟨0, Nat.zero_le _, rfl, rfl, hb1⟩
  case round =>
    obtain ⟨k, hk, rfl, rfl, hB⟩ := hrel
    by_cases hlt : k < len
    · have g1 : (k : Int) < (len : Int) := by omega
      have hkl : k < zs.length := by have := HQ.out; omega
      obtain ⟨b, off, rfl, hb, hC⟩ : ∃ b off, ao = some ⟨b, off, none⟩ ∧ b < w.heap.size ∧ Cells w b off zs := by
        rcases HZ.out with h | h
        · rw [h] at hkl; simp at hkl
        · exact h
      have c0 := (hC.below hb hB k hkl).1
      have c1 := (hC.below hb hB k hkl).2
      have bd := good_each HG.out _ (at_mem hkl)
      have bs := cnt_take_bound HG.out k
      have bt := cnt_take_bound HG.out (k + 1)
      have HT := cnt_take zs k hkl
      have HT' : Hid (cnt (zs.take (k + 1)) = cnt (zs.take k) + ((at' zs k).2 - (at' zs k).1 + 1)) := HT
      rw [HT] at bt
      clear hC hkl HT
      generalize at' zs k = r at *
      obtain ⟨lo, hi⟩ := r
      simp only at c0 c1 bd bs bt HT'
      generalize cnt (zs.take k) = sm at *
      go_wp2_with fail
      exact ⟨⟨k + 1, by omega, by go_num, by rw [HT'.out], hB.alloc hB.size _⟩, by simp [intOf]; omega⟩
    · obtain rfl : k = len := by omega
      have e1 : zs.take k = zs := List.take_of_length_le (by have := HQ.out; omega)
      rw [e1]
      go_wp2_with fail
      go_ret2
      exact ⟨rfl, hB⟩

set_option maxRecDepth 100000 in
set_option maxHeartbeats 2000000 in
theorem hasx_no (v : Value) (zs : List R) (n : Int) (w : World) (h : Row w v zs) (hN : isN n = false) :
    Calls Tryz.prog 32 #[v, .int .i64 n] w fun e w' => e = .returned (.tuple #[.bool false, errV 1]) ∧ Below w.heap.size w w' := by
  obtain ⟨ao, c, rfl, hl, hn, hz⟩ := h
  clear hz hn
  rw [errV1]
  go_enter Tryz.func32, Tryz.ntmps32
  go_wp2_with (go_at_call 46; refine (isNumber_calls n _).mono ?_; rintro e w2 ⟨rfl, rfl⟩; rw [hN])
  go_ret2
  exact ⟨rfl, Below.refl _ _⟩

set_option maxRecDepth 100000 in
set_option maxHeartbeats 2000000 in
theorem hasx_bad (v : Value) (zs : List R) (n : Int) (w : World) (h : Row w v zs) (hN : isN n = true) (hk : chk zs ≠ 0) :
    Calls Tryz.prog 32 #[v, .int .i64 n] w fun e w' => e = .returned (.tuple #[.bool false, errV (chk zs)]) ∧ Below w.heap.size w w' := by
  have hc := check_calls v zs w h
  rw [errV_ne hk] at hc ⊢
  obtain ⟨ao, c, rfl, hl, hn, hz⟩ := h
  clear hz hn
  generalize chk zs = k at *
  go_enter Tryz.func32, Tryz.ntmps32
  go_wp2_with (first | (go_at_call 27; refine hc.mono ?_; rintro e w1 ⟨rfl, hb1⟩) | (go_at_call 46; refine (isNumber_calls n _).mono ?_; rintro e w2 ⟨rfl, rfl⟩; rw [hN]))
  go_ret2
  exact ⟨rfl, hb1⟩

set_option maxRecDepth 100000 in
set_option maxHeartbeats 2000000 in
theorem hasx_ok (v : Value) (zs : List R) (n : Int) (w : World) (h : Row w v zs) (hN : isN n = true) (hk : chk zs = 0) :
    Calls Tryz.prog 32 #[v, .int .i64 n] w fun e w' => e = .returned (.tuple #[.bool (memB zs n), .nilIface]) ∧ Below w.heap.size w w' := by
  have hc := check_calls v zs w h
  rw [hk, errV0] at hc
  have HR : Hid (Row w v zs) := h
  obtain ⟨ao, c, rfl, hl, hn, hz⟩ := h
  clear hz hn hk
  go_enter Tryz.func32, Tryz.ntmps32
  go_wp2_with (first | (go_at_call 27; refine hc.mono ?_; rintro e w1 ⟨rfl, hb1⟩) | (go_at_call 46; refine (isNumber_calls n _).mono ?_; rintro e w2 ⟨rfl, rfl⟩; rw [hN]))
  refine (has_calls _ zs n _ (HR.out.below hb1)).mono ?_
  rintro e w4 ⟨rfl, hb4⟩
  go_wp2_with fail
  go_ret2
  exact ⟨rfl, hb1.trans (hb4.mono hb1.size)⟩

end Go.Proofs.YtegelodkopommaaGreatDoor
