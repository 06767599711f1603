/- The document's own functions on ranges: May, Ranges, In. -/
import Derived.Test.YtjpdembofiadbaaDoorJ
namespace Go.Proofs.YtjpdembofiadbaaDoor
open Go.RowKit Go.Lib Go.Sort
set_option linter.unusedVariables false
set_option linter.unusedSimpArgs false

set_option maxRecDepth 100000 in
set_option maxHeartbeats 4000000 in
theorem may_calls (n : Int) (w : World) : Calls Tryd.prog 12 #[.int .i64 n] w fun e w' => e = .returned (.bool (isN n)) ∧ w' = w := by
  by_cases h1 : 0 ≤ n
  · by_cases h2 : n ≤ 1073741823
    · go_enter Tryd.func12, Tryd.ntmps12
      go_wp2
      go_ret
      exact ⟨by rw [(isN_iff n).2 ⟨h1, h2⟩]; rfl, rfl⟩
    · go_enter Tryd.func12, Tryd.ntmps12
      go_wp2
      go_ret
      exact ⟨by rw [(isN_no n).2 (by omega)]; rfl, rfl⟩
  · go_enter Tryd.func12, Tryd.ntmps12
    go_wp2
    go_ret
    exact ⟨by rw [(isN_no n).2 (by omega)]; rfl, rfl⟩

set_option maxRecDepth 100000 in
set_option maxHeartbeats 4000000 in
theorem rranges_full (a : Option Addr) (len cap : Nat) (w : World) (h : 12 < len) (hm : len ≤ 9223372036854775807) :
    Calls Tryd.prog 26 #[.slice a len cap] w fun e w' => e = .returned (.int .i64 4) ∧ Below w.heap.size w w' := by
  have h' : (12 : Int) < (len : Int) := by omega
  go_enter Tryd.func26, Tryd.ntmps26
  go_wp2_with fail
  go_ret
  exact ⟨rfl, Below.refl _ _⟩

set_option maxRecDepth 100000 in
set_option maxHeartbeats 4000000 in
theorem rranges_near (ao : Option Addr) (len cap : Nat) (zs : List R) (w : World) (hlen : zs.length = len) (h12 : len ≤ 12) (hz : zs = [] ∨ ∃ b off, ao = some ⟨b, off, none⟩ ∧ b < w.heap.size ∧ Cells w b off zs) :
    Calls Tryd.prog 26 #[.slice ao len cap] w fun e w' => e = .returned (.int .i64 (chkFrom none zs)) ∧ Below w.heap.size w w' := by
  have h12' : ¬ (12 : Int) < (len : Int) := by omega
  have HL : Hid (zs.length = len) := hlen
  have HZ : Hid (zs = [] ∨ ∃ b off, ao = some ⟨b, off, none⟩ ∧ b < w.heap.size ∧ Cells w b off zs) := hz
  clear hlen hz
  go_enter Tryd.func26, Tryd.ntmps26
  go_wp2_with fail
  go_loopw [3] (fun i wr => ∃ k : Nat, k ≤ len ∧ i = .int .i64 k ∧ Hid (chkFrom none zs = chkFrom (prv zs k) (zs.drop k)) ∧ Below w.heap.size w wr) (fun i _ => len - (intOf i).toNat)
  case atStart => exact ⟨0, Nat.zero_le _, rfl, rfl, Below.refl _ _⟩
  case round =>
    obtain ⟨k, hk, rfl, hE, hB⟩ := hrel
    by_cases hlt : k < len
    · have g1 : (k : Int) < (len : Int) := by omega
      have hkl : k < zs.length := by have := HL.out; omega
      obtain ⟨b, off, rfl, hb, hC⟩ : ∃ b off, ao = some ⟨b, off, none⟩ ∧ b < w.heap.size ∧ Cells w b off zs := by
        rcases HZ.out with h | h
        · rw [h] at hkl; simp at hkl
        · exact h
      have c0 := (hC.below hb hB k hkl).1
      have c1 := (hC.below hb hB k hkl).2
      have HD : Hid (zs.drop k = at' zs k :: zs.drop (k + 1)) := drop_at hkl
      have HP : Hid (prv zs (k + 1) = some (at' zs k).1) := prv_succ zs k
      have HK : Hid (0 < k → Cells wr b off zs) := fun _ => hC.below hb hB
      clear hC
      generalize hr : at' zs k = r at c0 c1 HD HP
      obtain ⟨lo, hi⟩ := r
      clear hr hkl
      simp only at c0 c1
      have H1 : Hid ((isN lo = false ∨ isN hi = false) → chkFrom none zs = 1) := by
        show _ → _
        intro h
        rw [hE.out, HD.out]; exact chk_r1 _ _ _ h
      cases n1 : isN lo with
      | false =>
        have HF : Hid (chkFrom none zs = 1) := H1.out (.inl n1)
        clear hE H1
        go_wp2_with (first | (go_at_call_of 12 lo; refine (may_calls lo _).mono ?_; rintro e w1 ⟨rfl, rfl⟩; rw [n1]) | (go_at_call_of 12 hi; refine (may_calls hi _).mono ?_; rintro e w1 ⟨rfl, rfl⟩))
        go_ret
        exact ⟨by rw [HF.out]; rfl, hB⟩
      | true =>
        cases n2 : isN hi with
        | false =>
          have HF : Hid (chkFrom none zs = 1) := H1.out (.inr n2)
          clear hE H1
          go_wp2_with (first | (go_at_call_of 12 lo; refine (may_calls lo _).mono ?_; rintro e w1 ⟨rfl, rfl⟩; rw [n1]) | (go_at_call_of 12 hi; refine (may_calls hi _).mono ?_; rintro e w1 ⟨rfl, rfl⟩; rw [n2]))
          go_ret
          exact ⟨by rw [HF.out]; rfl, hB⟩
        | true =>
          have b1 := (isN_iff lo).1 n1
          have b2 := (isN_iff hi).1 n2
          clear H1
          by_cases h3 : hi < lo
          · have HF : Hid (chkFrom none zs = 3) := by
              show _ = _
              rw [hE.out, HD.out]; exact chk_r3 _ _ _ n1 n2 h3
            clear hE HK
            go_wp2_with (first | (go_at_call_of 12 lo; refine (may_calls lo _).mono ?_; rintro e w1 ⟨rfl, rfl⟩; rw [n1]) | (go_at_call_of 12 hi; refine (may_calls hi _).mono ?_; rintro e w1 ⟨rfl, rfl⟩; rw [n2]))
            go_quiet (fail)
            go_wp2_with fail
            go_ret
            exact ⟨by rw [HF.out]; rfl, below_drewN hB _⟩
          · have hd : decide (hi < lo) = false := by simp; omega
            by_cases h0 : k = 0
            · subst h0
              have HF : Hid (chkFrom none zs = chkFrom (prv zs 1) (zs.drop 1)) := by
                show _ = _
                rw [hE.out, HD.out, HP.out]; exact chk_r0 _ _ n1 n2 (by show lo ≤ hi; omega)
              simp only [Nat.zero_mul, Nat.add_zero] at c0 c1
              clear hE HK
              go_wp2_with (first | (go_at_call_of 12 lo; refine (may_calls lo _).mono ?_; rintro e w1 ⟨rfl, rfl⟩; rw [n1]) | (go_at_call_of 12 hi; refine (may_calls hi _).mono ?_; rintro e w1 ⟨rfl, rfl⟩; rw [n2]))
              go_quiet (fail)
              go_wp2_with fail
              exact ⟨⟨1, by omega, by go_num, HF, below_drewN hB _⟩, by simp [intOf]; omega⟩
            · have g2 : (0 : Int) < (k : Int) := by omega
              have hkl' : k - 1 < zs.length := by have := HL.out; omega
              have d0 := (HK.out (by omega) (k - 1) hkl').1
              have HQ : Hid (prv zs k = some (at' zs (k - 1)).1) := by
                show _ = _
                unfold prv; rw [if_neg h0]
              obtain ⟨j, rfl⟩ : ∃ j, k = j + 1 := ⟨k - 1, by omega⟩
              simp only [Nat.add_sub_cancel] at d0 HQ
              generalize at' zs j = q at d0 HQ
              obtain ⟨qlo, qhi⟩ := q
              simp only at d0 HQ
              have wj : IntKind.i64.wrap (j : Int) = (j : Int) := by simp [IntKind.wrap, IntKind.bits, IntKind.signed]; omega
              have wh : IntKind.i64.wrap (hi + 1) = hi + 1 := by simp [IntKind.wrap, IntKind.bits, IntKind.signed]; omega
              have gj : (j : Int) < (len : Int) := by omega
              have gj0 : ¬ (j : Int) < 0 := by omega
              clear HK hkl'
              by_cases h4 : qlo ≤ hi + 1
              · have HF : Hid (chkFrom none zs = 3) := by
                  show _ = _
                  rw [hE.out, HD.out, HQ.out]; exact chk_r3' _ _ _ n1 n2 h4
                clear hE
                go_wp2_with (first | (go_at_call_of 12 lo; refine (may_calls lo _).mono ?_; rintro e w1 ⟨rfl, rfl⟩; rw [n1]) | (go_at_call_of 12 hi; refine (may_calls hi _).mono ?_; rintro e w1 ⟨rfl, rfl⟩; rw [n2]))
                go_quiet (fail)
                go_wp2_with fail
                go_ret
                exact ⟨by rw [HF.out]; rfl, below_drewN hB _⟩
              · have HF : Hid (chkFrom none zs = chkFrom (prv zs (j + 1 + 1)) (zs.drop (j + 1 + 1))) := by
                  show _ = _
                  rw [hE.out, HD.out, HQ.out, HP.out]; exact chk_r0' _ _ _ n1 n2 (by show lo ≤ hi; omega) (by show hi + 1 < qlo; omega)
                clear hE
                go_wp2_with (first | (go_at_call_of 12 lo; refine (may_calls lo _).mono ?_; rintro e w1 ⟨rfl, rfl⟩; rw [n1]) | (go_at_call_of 12 hi; refine (may_calls hi _).mono ?_; rintro e w1 ⟨rfl, rfl⟩; rw [n2]))
                go_quiet (fail)
                go_wp2_with fail
                exact ⟨⟨j + 1 + 1, by omega, by go_num, HF, below_drewN hB _⟩, by simp [intOf]; omega⟩
    · obtain rfl : k = len := by omega
      have e1 : zs.drop k = [] := List.drop_eq_nil_of_le (by have := HL.out; omega)
      have HF : Hid (chkFrom none zs = 0) := by
        show _ = _
        rw [hE.out, e1]; cases prv zs k <;> rfl
      clear hE e1
      go_wp2_with fail
      go_ret
      exact ⟨by rw [HF.out]; rfl, hB⟩

theorem rranges_calls (v : Value) (zs : List R) (w : World) (h : Row w v zs) :
    Calls Tryd.prog 26 #[v] w fun e w' => e = .returned (.int .i64 (chk zs)) ∧ Below w.heap.size w w' := by
  obtain ⟨ao, c, rfl, hl, hn, h⟩ := h
  unfold chk
  by_cases h12 : 12 < zs.length
  · rw [if_pos h12]
    exact rranges_full ao _ c w h12 hl
  · rw [if_neg h12]
    exact rranges_near ao _ c zs w rfl (by omega) h

end Go.Proofs.YtjpdembofiadbaaDoor
