/- The document's Sent: what is wrong with packets. -/
import Derived.Test.YtingcgadolcanaaDoorB
import Derived.Test.YtingcgadolcanaaDoorG
namespace Go.Proofs.YtingcgadolcanaaDoor
open Go.RowKit Go.Lib Go.Sort
set_option linter.unusedVariables false
set_option linter.unusedSimpArgs false

set_option maxRecDepth 100000 in
set_option maxHeartbeats 2000000 in
theorem rsent_full (a : Option Addr) (len cap : Nat) (w : World) (h : 30 < len) (hm : len ≤ 9223372036854775807) :
    Calls Tryd.prog 4 #[.slice a len cap] w fun e w' => e = .returned (.int .i64 4) ∧ Below w.heap.size w w' := by
  have h' : (30 : Int) < (len : Int) := by omega
  go_enter Tryd.func4, Tryd.ntmps4
  go_wp2_with fail
  go_ret
  exact ⟨rfl, Below.refl _ _⟩
set_option maxRecDepth 100000 in
set_option maxHeartbeats 2000000 in
theorem rsent_near (ao : Option Addr) (len cap : Nat) (zs : List S3) (w : World) (hlen : zs.length = len) (h30 : len ≤ 30) (hz : zs = [] ∨ ∃ b off, ao = some ⟨b, off, none⟩ ∧ b < w.heap.size ∧ Cells3 w b off zs) :
    Calls Tryd.prog 4 #[.slice ao len cap] w fun e w' => e = .returned (.int .i64 (scFrom none zs)) ∧ Below w.heap.size w w' := by
  have h30' : ¬ (30 : Int) < (len : Int) := by omega
  have HL : Hid (zs.length = len) := hlen
  have HZ : Hid (zs = [] ∨ ∃ b off, ao = some ⟨b, off, none⟩ ∧ b < w.heap.size ∧ Cells3 w b off zs) := hz
  clear hlen hz
  go_enter Tryd.func4, Tryd.ntmps4
  go_wp2_with fail
  go_loopw [3] (fun i wr => ∃ k : Nat, k ≤ len ∧ i = .int .i64 k ∧ Hid (scFrom none zs = scFrom (prv3 zs k) (zs.drop k)) ∧ Below w.heap.size w wr) (fun i _ => len - (intOf i).toNat)
  case atStart => exact ⟨0, Nat.zero_le _, rfl, rfl, Below.refl _ _⟩
  case round =>
    obtain ⟨k, hk, rfl, hE, hB⟩ := hrel
    by_cases hlt : k < len
    · have g1 : (k : Int) < (len : Int) := by omega
      have hkl : k < zs.length := by have := HL.out; omega
      obtain ⟨b0, off, rfl, hb, hC⟩ : ∃ b off, ao = some ⟨b, off, none⟩ ∧ b < w.heap.size ∧ Cells3 w b off zs := by
        rcases HZ.out with h | h
        · rw [h] at hkl; simp at hkl
        · exact h
      obtain ⟨c0, c1, c2⟩ := hC.below hb hB k hkl
      have HD : Hid (zs.drop k = at3 zs k :: zs.drop (k + 1)) := drop3 hkl
      have HP : Hid (prv3 zs (k + 1) = some (at3 zs k)) := prv3_succ zs k
      have HK : Hid (0 < k → Cells3 (wr.alloc (.cells #[.int .i64 (at3 zs k).1, .int .i64 (at3 zs k).2.1, .int .i64 (at3 zs k).2.2] 30)) b0 off zs) := fun _ => hC.below hb (hB.alloc hB.size _)
      generalize hr : at3 zs k = r at c0 c1 c2 HD HP HK
      obtain ⟨a, b, c⟩ := r
      clear hr hkl hC
      simp only at c0 c1 c2 HK
      have H1 : Hid (okS (a, b, c) = false → scFrom none zs = 1) := by
        show _ → _
        intro h
        rw [hE.out, HD.out]; exact sc_1 _ _ _ h
      cases n1 : isN a with
      | false =>
        have HF : Hid (scFrom none zs = 1) := H1.out (by simp [okS, n1])
        clear hE H1 HD HP HK
        go_wp2_with (go_at_call 14; refine (may_calls a _).mono ?_; rintro e w1 ⟨rfl, rfl⟩; rw [n1])
        go_ret
        exact ⟨by rw [HF.out]; rfl, hB.alloc hB.size _⟩
      | true =>
        by_cases h2 : b < 0
        · have HF : Hid (scFrom none zs = 1) := H1.out (by rw [okS, show isT b = false by rw [isT_no]; omega]; simp)
          clear hE H1 HD HP HK
          go_wp2_with (go_at_call 14; refine (may_calls a _).mono ?_; rintro e w1 ⟨rfl, rfl⟩; rw [n1])
          go_ret
          exact ⟨by rw [HF.out]; rfl, hB.alloc hB.size _⟩
        · by_cases h3 : 100000 < b
          · have HF : Hid (scFrom none zs = 1) := H1.out (by rw [okS, show isT b = false by rw [isT_no]; omega]; simp)
            clear hE H1 HD HP HK
            go_wp2_with (go_at_call 14; refine (may_calls a _).mono ?_; rintro e w1 ⟨rfl, rfl⟩; rw [n1])
            go_ret
            exact ⟨by rw [HF.out]; rfl, hB.alloc hB.size _⟩
          · by_cases h4 : c < 1
            · have HF : Hid (scFrom none zs = 1) := H1.out (by rw [okS, show isZ c = false by simp [isZ]; omega]; simp)
              clear hE H1 HD HP HK
              go_wp2_with (go_at_call 14; refine (may_calls a _).mono ?_; rintro e w1 ⟨rfl, rfl⟩; rw [n1])
              go_ret
              exact ⟨by rw [HF.out]; rfl, hB.alloc hB.size _⟩
            · by_cases h5 : 200 < c
              · have HF : Hid (scFrom none zs = 1) := H1.out (by rw [okS, show isZ c = false by simp [isZ]; omega]; simp)
                clear hE H1 HD HP HK
                go_wp2_with (go_at_call 14; refine (may_calls a _).mono ?_; rintro e w1 ⟨rfl, rfl⟩; rw [n1])
                go_ret
                exact ⟨by rw [HF.out]; rfl, hB.alloc hB.size _⟩
              · have b1 := (isN_iff a).1 n1
                have hok : okS (a, b, c) = true := (okS_iff _).2 (by simp only; omega)
                clear H1
                by_cases h0 : k = 0
                · subst h0
                  have HF : Hid (scFrom none zs = scFrom (prv3 zs 1) (zs.drop 1)) := by
                    show _ = _
                    rw [hE.out, HD.out, HP.out]; exact sc_0 _ _ _ hok rfl
                  simp only [Nat.zero_mul, Nat.add_zero] at c0 c1 c2
                  clear hE HK HD HP hok
                  go_wp2_with (go_at_call 14; refine (may_calls a _).mono ?_; rintro e w1 ⟨rfl, rfl⟩; rw [n1])
                  go_quiet (fail)
                  go_wp2_with fail
                  exact ⟨⟨1, by omega, by go_num, HF, below_drewN (hB.alloc hB.size _) _⟩, by simp [intOf]; omega⟩
                · have g2 : (0 : Int) < (k : Int) := by omega
                  have hkl' : k - 1 < zs.length := by have := HL.out; omega
                  obtain ⟨d0, d1, d2⟩ := HK.out (by omega) (k - 1) hkl'
                  have HQ : Hid (prv3 zs k = some (at3 zs (k - 1))) := by
                    show _ = _
                    unfold prv3; rw [if_neg h0]
                  obtain ⟨j, rfl⟩ : ∃ j, k = j + 1 := ⟨k - 1, by omega⟩
                  simp only [Nat.add_sub_cancel] at d0 d1 d2 HQ
                  generalize at3 zs j = q at d0 d1 d2 HQ
                  obtain ⟨qa, qb, qc⟩ := q
                  simp only at d0 d1 d2 HQ
                  clear HK hkl'
                  have wj : IntKind.i64.wrap (j : Int) = (j : Int) := wrap_small _ (by omega) (by omega)
                  have gj : (j : Int) < (len : Int) := by omega
                  have gj0 : ¬ (j : Int) < 0 := by omega
                  by_cases h6 : a ≤ qa
                  · have HF : Hid (scFrom none zs = 3) := by
                      show _ = _
                      rw [hE.out, HD.out, HQ.out]; exact sc_3 _ _ _ hok (by simp [badB, behB]; omega)
                    have t6 : decide (a ≤ qa) = true := by simpa using h6
                    clear hE HD HP HQ hok
                    go_wp2_with (go_at_call 14; refine (may_calls a _).mono ?_; rintro e w1 ⟨rfl, rfl⟩; rw [n1])
                    go_quiet (fail)
                    go_wp2_with fail
                    go_ret
                    exact ⟨by rw [HF.out]; rfl, below_drewN (hB.alloc hB.size _) _⟩
                  · have t6 : decide (a ≤ qa) = false := by simp; omega
                    by_cases h7 : b < qb
                    · have HF : Hid (scFrom none zs = 3) := by
                        show _ = _
                        rw [hE.out, HD.out, HQ.out]; exact sc_3 _ _ _ hok (by simp [badB, behB]; omega)
                      have t7 : decide (b < qb) = true := by simpa using h7
                      clear hE HD HP HQ hok
                      go_wp2_with (go_at_call 14; refine (may_calls a _).mono ?_; rintro e w1 ⟨rfl, rfl⟩; rw [n1])
                      go_quiet (fail)
                      go_wp2_with fail
                      go_ret
                      exact ⟨by rw [HF.out]; rfl, below_drewN (hB.alloc hB.size _) _⟩
                    · have HF : Hid (scFrom none zs = scFrom (prv3 zs (j + 1 + 1)) (zs.drop (j + 1 + 1))) := by
                        show _ = _
                        rw [hE.out, HD.out, HQ.out, HP.out]; exact sc_0 _ _ _ hok (by simp [badB, behB]; omega)
                      have t7 : decide (b < qb) = false := by simp; omega
                      clear hE HD HP HQ hok
                      go_wp2_with (go_at_call 14; refine (may_calls a _).mono ?_; rintro e w1 ⟨rfl, rfl⟩; rw [n1])
                      go_quiet (fail)
                      go_wp2_with fail
                      exact ⟨⟨j + 1 + 1, by omega, by go_num, HF, below_drewN (hB.alloc hB.size _) _⟩, by simp [intOf]; omega⟩
    · obtain rfl : k = len := by omega
      have HF : Hid (scFrom none zs = 0) := by
        show _ = _
        rw [hE.out, List.drop_eq_nil_of_le (by have := HL.out; omega)]; rfl
      clear hE
      go_wp2_with fail
      go_ret
      exact ⟨by rw [HF.out]; rfl, hB⟩
theorem rsent_calls (v : Value) (zs : List S3) (w : World) (h : Row3 w v zs) :
    Calls Tryd.prog 4 #[v] w fun e w' => e = .returned (.int .i64 (sc zs)) ∧ Below w.heap.size w w' := by
  obtain ⟨ao, c, rfl, hl, hn, h⟩ := h
  unfold sc
  by_cases h30 : 30 < zs.length
  · rw [if_pos h30]
    exact rsent_full ao _ c w h30 hl
  · rw [if_neg h30]
    exact rsent_near ao _ c zs w rfl (by omega) h
end Go.Proofs.YtingcgadolcanaaDoor
