/- What Check answers. -/
import Derived.Test.YtegelodkopommaaDoorN
namespace Go.Proofs.YtegelodkopommaaDoor
open Go.RowKit Go.Lib Go.Sort
set_option linter.unusedVariables false
set_option linter.unusedSimpArgs false

def errV (k : Int) : Value := if k = 0 then .nilIface else .iface 47 (.int .i64 k)
theorem errV0 : errV 0 = .nilIface := rfl
theorem errV1 : errV 1 = .iface 47 (.int .i64 1) := rfl
theorem errV3 : errV 3 = .iface 47 (.int .i64 3) := rfl
theorem errV4 : errV 4 = .iface 47 (.int .i64 4) := rfl
def prv (zs : List R) (k : Nat) : Option Int := if k = 0 then none else some (at' zs (k - 1)).1
theorem prv_succ (zs : List R) (k : Nat) : prv zs (k + 1) = some (at' zs k).1 := by simp [prv]

theorem chk_r1 (p : Option Int) (r : R) (rs : List R) (h : isN r.1 = false ∨ isN r.2 = false) : chkFrom p (r :: rs) = 1 := by rw [chkFrom, if_pos h]
theorem chk_r3 (p : Option Int) (r : R) (rs : List R) (h1 : isN r.1 = true) (h2 : isN r.2 = true) (h : r.2 < r.1) : chkFrom p (r :: rs) = 3 := by rw [chkFrom, if_neg (by simp [h1, h2]), if_pos (.inl h)]
theorem chk_r3' (q : Int) (r : R) (rs : List R) (h1 : isN r.1 = true) (h2 : isN r.2 = true) (h : q ≤ r.2 + 1) : chkFrom (some q) (r :: rs) = 3 := by rw [chkFrom, if_neg (by simp [h1, h2]), if_pos (.inr ⟨q, rfl, h⟩)]
theorem chk_r0 (r : R) (rs : List R) (h1 : isN r.1 = true) (h2 : isN r.2 = true) (h : r.1 ≤ r.2) : chkFrom none (r :: rs) = chkFrom (some r.1) rs := by
  rw [chkFrom, if_neg (by simp [h1, h2]), if_neg]
  rintro (x | ⟨q, x, _⟩)
  · omega
  · cases x
theorem chk_r0' (q : Int) (r : R) (rs : List R) (h1 : isN r.1 = true) (h2 : isN r.2 = true) (h : r.1 ≤ r.2) (h3 : r.2 + 1 < q) : chkFrom (some q) (r :: rs) = chkFrom (some r.1) rs := by
  rw [chkFrom, if_neg (by simp [h1, h2]), if_neg]
  rintro (x | ⟨q', x, y⟩)
  · omega
  · cases x; omega

set_option maxRecDepth 100000 in
set_option maxHeartbeats 2000000 in
theorem check_full (a : Option Addr) (len cap : Nat) (w : World) (h : 12 < len) (hm : len ≤ 9223372036854775807) :
    Calls Tryd.prog 26 #[.slice a len cap] w fun e w' => e = .returned (.iface 47 (.int .i64 4)) ∧ Below w.heap.size w w' := by
  have h' : (12 : Int) < (len : Int) := by omega
  go_enter Tryd.func26, Tryd.ntmps26
  go_wp2_with fail
  go_ret
  exact ⟨rfl, Below.refl _ _⟩

set_option maxRecDepth 100000 in
set_option maxHeartbeats 2000000 in
theorem check_none (a : Option Addr) (cap : Nat) (w : World) :
    Calls Tryd.prog 26 #[.slice a 0 cap] w fun e w' => e = .returned .nilIface ∧ Below w.heap.size w w' := by
  go_enter Tryd.func26, Tryd.ntmps26
  go_wp2_with fail
  refine wp_loop_rounds 1 ?_
  rw [rounds_succ]
  go_wp2_with fail
  go_ret
  exact ⟨rfl, Below.refl _ _⟩

set_option maxRecDepth 100000 in
set_option maxHeartbeats 2000000 in
theorem check_some (b off len cap : Nat) (zs : List R) (w : World) (hlen : zs.length = len) (h12 : len ≤ 12) (hb : b < w.heap.size) (hc : Cells w b off zs) :
    Calls Tryd.prog 26 #[.slice (some ⟨b, off, none⟩) len cap] w fun e w' => e = .returned (errV (chkFrom none zs)) ∧ Below w.heap.size w w' := by
  have h12' : ¬ (12 : Int) < (len : Int) := by omega
  have HL : Hid (zs.length = len) := hlen
  have HC : Hid (Cells w b off zs) := hc
  clear hlen hc
  go_enter Tryd.func26, Tryd.ntmps26
  go_wp2_with fail
  go_loopw [11] (fun i wr => ∃ k : Nat, k ≤ len ∧ i = .int .i64 k ∧ Hid (chkFrom none zs = chkFrom (prv zs k) (zs.drop k)) ∧ Below w.heap.size w wr) (fun i _ => len - (intOf i).toNat)
  case atStart => exact ⟨0, Nat.zero_le _, rfl, rfl, Below.refl _ _⟩
  case round =>
    obtain ⟨k, hk, rfl, hE, hB⟩ := hrel
    by_cases hlt : k < len
    · have g1 : (k : Int) < (len : Int) := by omega
      have hkl : k < zs.length := by have := HL.out; omega
      have c0 := (HC.out.below hb hB k hkl).1
      have c1 := (HC.out.below hb hB k hkl).2
      have HD : Hid (zs.drop k = at' zs k :: zs.drop (k + 1)) := drop_at hkl
      have HP : Hid (prv zs (k + 1) = some (at' zs k).1) := prv_succ zs k
      have HK : Hid (0 < k → Cells wr b off zs) := fun _ => HC.out.below hb hB
      have hbr : b < wr.heap.size := Nat.lt_of_lt_of_le hb hB.size
      generalize hr : at' zs k = r at c0 c1 HD HP
      obtain ⟨lo, hi⟩ := r
      have HR : Hid (at' zs k = (lo, hi)) := hr
      clear hr
      simp only at c0 c1
      cases n1 : isN lo with
      | false =>
        have HF : Hid (chkFrom none zs = 1) := by
          show _ = _
          rw [hE.out, HD.out]; exact chk_r1 _ _ _ (.inl n1)
        clear hE
        go_wp2_with (go_at_call 27; refine (isNumber_calls lo _).mono ?_; rintro e w1 ⟨rfl, rfl⟩; rw [n1])
        go_ret
        exact ⟨by rw [HF.out, errV1]; rfl, hB.alloc hB.size _⟩
      | true =>
        cases n2 : isN hi with
        | false =>
          have HF : Hid (chkFrom none zs = 1) := by
            show _ = _
            rw [hE.out, HD.out]; exact chk_r1 _ _ _ (.inr n2)
          clear hE
          go_wp2_with (first | (go_at_call_of 27 lo; refine (isNumber_calls lo _).mono ?_; rintro e w1 ⟨rfl, rfl⟩; rw [n1]) | (go_at_call_of 27 hi; refine (isNumber_calls hi _).mono ?_; rintro e w1 ⟨rfl, rfl⟩; rw [n2]))
          go_ret
          exact ⟨by rw [HF.out, errV1]; rfl, hB.alloc hB.size _⟩
        | true =>
          have b1 := (isN_iff lo).1 n1
          have b2 := (isN_iff hi).1 n2
          by_cases h3 : hi < lo
          · have HF : Hid (chkFrom none zs = 3) := by
              show _ = _
              rw [hE.out, HD.out]; exact chk_r3 _ _ _ n1 n2 h3
            clear hE
            go_wp2_with (first | (go_at_call_of 27 lo; refine (isNumber_calls lo _).mono ?_; rintro e w1 ⟨rfl, rfl⟩; rw [n1]) | (go_at_call_of 27 hi; refine (isNumber_calls hi _).mono ?_; rintro e w1 ⟨rfl, rfl⟩; rw [n2]))
            go_quiet (fail)
            go_wp2_with fail
            go_ret
            exact ⟨by rw [HF.out, errV3]; rfl, below_drewN (hB.alloc hB.size _) _⟩
          · by_cases h0 : k = 0
            · subst h0
              have HF : Hid (chkFrom none zs = chkFrom (prv zs 1) (zs.drop 1)) := by
                show _ = _
                rw [hE.out, HD.out, HP.out]; exact chk_r0 _ _ n1 n2 (by show lo ≤ hi; omega)
              have hd : decide (hi < lo) = false := by simp; omega
              simp only [Nat.zero_mul, Nat.add_zero] at c0 c1
              clear hE HK
              go_wp2_with (first | (go_at_call_of 27 lo; refine (isNumber_calls lo _).mono ?_; rintro e w1 ⟨rfl, rfl⟩; rw [n1]) | (go_at_call_of 27 hi; refine (isNumber_calls hi _).mono ?_; rintro e w1 ⟨rfl, rfl⟩; rw [n2]))
              go_quiet (fail)
              go_wp2_with fail
              exact ⟨⟨1, by omega, by go_num, HF, below_drewN (hB.alloc hB.size _) _⟩, by simp [intOf]; omega⟩
            · have g2 : (0 : Int) < (k : Int) := by omega
              have hkl' : k - 1 < zs.length := by have := HL.out; omega
              have d0 := (HK.out (by omega) (k - 1) hkl').1
              have d1 := (HK.out (by omega) (k - 1) hkl').2
              have HQ : Hid (prv zs k = some (at' zs (k - 1)).1) := by
                show _ = _
                unfold prv; rw [if_neg h0]
              obtain ⟨j, rfl⟩ : ∃ j, k = j + 1 := ⟨k - 1, by omega⟩
              simp only [Nat.add_sub_cancel] at d0 d1 HQ
              generalize at' zs j = q at d0 d1 HQ
              obtain ⟨qlo, qhi⟩ := q
              simp only at d0 d1 HQ
              have hd : decide (hi < lo) = false := by simp; omega
              clear HK
              by_cases h4 : qlo ≤ hi + 1
              · have HF : Hid (chkFrom none zs = 3) := by
                  show _ = _
                  rw [hE.out, HD.out, HQ.out]; exact chk_r3' _ _ _ n1 n2 h4
                clear hE
                go_wp2_with (first | (go_at_call_of 27 lo; refine (isNumber_calls lo _).mono ?_; rintro e w1 ⟨rfl, rfl⟩; rw [n1]) | (go_at_call_of 27 hi; refine (isNumber_calls hi _).mono ?_; rintro e w1 ⟨rfl, rfl⟩; rw [n2]))
                generalize hW : wr.alloc (.cells #[.int .i64 lo, .int .i64 hi] 37) = W1
                have e0 : ∀ n os, (grow (W1.drewN n) os).cell? ⟨wr.heap.size, 0, none⟩ = some (.int .i64 lo) := cell_grown (by rw [← hW]; simp) (by rw [← hW]; simp)
                have e1 : ∀ n os, (grow (W1.drewN n) os).cell? ⟨wr.heap.size, 1, none⟩ = some (.int .i64 hi) := cell_grown (by rw [← hW]; simp) (by rw [← hW]; simp)
                have e2 : ∀ n os, (grow (W1.drewN n) os).cell? ⟨b, off + j * 2, none⟩ = some (.int .i64 qlo) := cell_grown (by rw [← hW]; show b < _; simp; omega) (by rw [← hW, Below.cell (((Below.refl wr.heap.size wr).alloc (Nat.le_refl _) _)) (by exact hbr)]; exact d0)
                have e3 : ∀ n os, (grow (W1.drewN n) os).cell? ⟨b, off + j * 2 + 1, none⟩ = some (.int .i64 qhi) := cell_grown (by rw [← hW]; show b < _; simp; omega) (by rw [← hW, Below.cell (((Below.refl wr.heap.size wr).alloc (Nat.le_refl _) _)) (by exact hbr)]; exact d1)
                have hB1 : Below w.heap.size w W1 := by rw [← hW]; exact hB.alloc hB.size _
                clear hW c0 c1 d0 d1 h3
                have mx := mixed
                have wj : IntKind.i64.wrap (j : Int) = (j : Int) := by simp [IntKind.wrap, IntKind.bits, IntKind.signed]; omega
                have gj : (j : Int) < (len : Int) := by omega
                have gj0 : ¬ (j : Int) < 0 := by omega
                go_quiet_grown (first | (go_at_call 34; refine Calls.grown_of (touches_grow lo hi qlo qhi _ b2.1 b2.2)))
                go_wp2_with fail
                go_ret
                exact ⟨by rw [HF.out, errV3]; rfl, below_grow (below_drewN hB1 _) hB1.size _⟩
              · have HF : Hid (chkFrom none zs = chkFrom (prv zs (j + 1 + 1)) (zs.drop (j + 1 + 1))) := by
                  show _ = _
                  rw [hE.out, HD.out, HQ.out, HP.out]; exact chk_r0' _ _ _ n1 n2 (by show lo ≤ hi; omega) (by show hi + 1 < qlo; omega)
                clear hE
                go_wp2_with (first | (go_at_call_of 27 lo; refine (isNumber_calls lo _).mono ?_; rintro e w1 ⟨rfl, rfl⟩; rw [n1]) | (go_at_call_of 27 hi; refine (isNumber_calls hi _).mono ?_; rintro e w1 ⟨rfl, rfl⟩; rw [n2]))
                generalize hW : wr.alloc (.cells #[.int .i64 lo, .int .i64 hi] 37) = W1
                have e0 : ∀ n os, (grow (W1.drewN n) os).cell? ⟨wr.heap.size, 0, none⟩ = some (.int .i64 lo) := cell_grown (by rw [← hW]; simp) (by rw [← hW]; simp)
                have e1 : ∀ n os, (grow (W1.drewN n) os).cell? ⟨wr.heap.size, 1, none⟩ = some (.int .i64 hi) := cell_grown (by rw [← hW]; simp) (by rw [← hW]; simp)
                have e2 : ∀ n os, (grow (W1.drewN n) os).cell? ⟨b, off + j * 2, none⟩ = some (.int .i64 qlo) := cell_grown (by rw [← hW]; show b < _; simp; omega) (by rw [← hW, Below.cell (((Below.refl wr.heap.size wr).alloc (Nat.le_refl _) _)) (by exact hbr)]; exact d0)
                have e3 : ∀ n os, (grow (W1.drewN n) os).cell? ⟨b, off + j * 2 + 1, none⟩ = some (.int .i64 qhi) := cell_grown (by rw [← hW]; show b < _; simp; omega) (by rw [← hW, Below.cell (((Below.refl wr.heap.size wr).alloc (Nat.le_refl _) _)) (by exact hbr)]; exact d1)
                have hB1 : Below w.heap.size w W1 := by rw [← hW]; exact hB.alloc hB.size _
                clear hW c0 c1 d0 d1 h3
                have mx := mixed
                have wj : IntKind.i64.wrap (j : Int) = (j : Int) := by simp [IntKind.wrap, IntKind.bits, IntKind.signed]; omega
                have gj : (j : Int) < (len : Int) := by omega
                have gj0 : ¬ (j : Int) < 0 := by omega
                go_quiet_grown (first | (go_at_call 34; refine Calls.grown_of (touches_grow lo hi qlo qhi _ b2.1 b2.2)))
                go_wp2_with fail
                exact ⟨⟨j + 1 + 1, by omega, by go_num, HF, below_grow (below_drewN hB1 _) hB1.size _⟩, by simp [intOf]; omega⟩
    · obtain rfl : k = len := by omega
      have e1 : zs.drop k = [] := List.drop_eq_nil_of_le (by have := HL.out; omega)
      have HF : Hid (chkFrom none zs = 0) := by
        show _ = _
        rw [hE.out, e1]; cases prv zs k <;> rfl
      clear hE e1
      go_wp2_with fail
      go_ret
      exact ⟨by rw [HF.out, errV0]; rfl, hB⟩

theorem check_calls (v : Value) (zs : List R) (w : World) (h : Row w v zs) :
    Calls Tryd.prog 26 #[v] w fun e w' => e = .returned (errV (chk zs)) ∧ Below w.heap.size w w' := by
  obtain ⟨ao, c, rfl, hl, hn, h⟩ := h
  unfold chk
  by_cases h12 : 12 < zs.length
  · rw [if_pos h12]
    exact check_full ao _ c w h12 hl
  · rw [if_neg h12]
    rcases h with rfl | ⟨b, off, rfl, hb, hc⟩
    · exact check_none ao c w
    · exact check_some b off _ c zs w rfl (by omega) hb hc
end Go.Proofs.YtegelodkopommaaDoor
