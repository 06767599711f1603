/- Slices of packets as they lie in memory; what isNumber, isTime, isSize, isWait, isBehind and Check answer. -/
import Derived.Test.YtingcgadolcanaaDoorA
import Derived.Test.YtingcgadolcanaaDoorC
namespace Go.Proofs.YtingcgadolcanaaDoor
open Go.RowKit Go.Lib Go.Sort
set_option linter.unusedVariables false
set_option linter.unusedSimpArgs false

def at3 (zs : List S3) (j : Nat) : S3 := zs[j]?.getD (0, 0, 0)
def Cells3 (w : World) (b off : Nat) (zs : List S3) : Prop := ∀ j, j < zs.length → w.cell? ⟨b, off + j * 3, none⟩ = some (.int .i64 (at3 zs j).1) ∧ w.cell? ⟨b, off + j * 3 + 1, none⟩ = some (.int .i64 (at3 zs j).2.1) ∧ w.cell? ⟨b, off + j * 3 + 2, none⟩ = some (.int .i64 (at3 zs j).2.2)
/-- The slice's value v holds the packets zs in the world w. -/
def Row3 (w : World) (v : Value) (zs : List S3) : Prop := ∃ ao c, v = .slice ao zs.length c ∧ zs.length ≤ 9223372036854775807 ∧ (ao = none → c = 0) ∧ (zs = [] ∨ ∃ b off, ao = some ⟨b, off, none⟩ ∧ b < w.heap.size ∧ Cells3 w b off zs)
theorem Cells3.below {w w' : World} {b off : Nat} {zs : List S3} (h : Cells3 w b off zs) (hb : b < w.heap.size) (bel : Below w.heap.size w w') : Cells3 w' b off zs := fun j hj =>
  ⟨(bel.cell (p := ⟨b, off + j * 3, none⟩) hb).trans (h j hj).1, (bel.cell (p := ⟨b, off + j * 3 + 1, none⟩) hb).trans (h j hj).2.1, (bel.cell (p := ⟨b, off + j * 3 + 2, none⟩) hb).trans (h j hj).2.2⟩
theorem Row3.below {w w' : World} {v : Value} {zs : List S3} (h : Row3 w v zs) (bel : Below w.heap.size w w') : Row3 w' v zs := by
  obtain ⟨ao, c, rfl, hl, hn, h⟩ := h
  refine ⟨ao, c, rfl, hl, hn, ?_⟩
  rcases h with h | ⟨b, off, rfl, hb, hc⟩
  · exact .inl h
  · exact .inr ⟨b, off, rfl, Nat.lt_of_lt_of_le hb bel.size, hc.below hb bel⟩
theorem Row3.nil (w : World) : Row3 w (.slice none 0 0) [] := ⟨none, 0, rfl, by simp, fun _ => rfl, .inl rfl⟩
theorem at3_mem {zs : List S3} {j : Nat} (h : j < zs.length) : at3 zs j ∈ zs := by simp [at3, h]
theorem drop3 {zs : List S3} {j : Nat} (h : j < zs.length) : zs.drop j = at3 zs j :: zs.drop (j + 1) := by
  rw [List.drop_eq_getElem_cons h]; simp [at3, h]
theorem wrap_small (n : Int) (h0 : -10000000000 ≤ n) (h1 : n ≤ 10000000000) : IntKind.i64.wrap n = n := by simp [IntKind.wrap, IntKind.bits, IntKind.signed]; omega
theorem errV_f {f : Int} (h : f ≠ 0) : errV f = .iface 46 (.int .i64 f) := if_neg h

set_option maxRecDepth 100000 in
set_option maxHeartbeats 2000000 in
theorem sn_calls' (n : Int) (w : World) : Calls Tryd.prog 16 #[.int .i64 n] w fun e w' => e = .returned (.bool (decide (0 ≤ n) && decide (n ≤ 1073741823))) ∧ w' = w := by
  by_cases h1 : 0 ≤ n
  · by_cases h2 : n ≤ 1073741823
    · go_enter Tryd.func16, Tryd.ntmps16
      go_wp2
      go_ret
      exact ⟨by simp [h1, h2], rfl⟩
    · go_enter Tryd.func16, Tryd.ntmps16
      go_wp2
      go_ret
      exact ⟨by simp [h1, h2], rfl⟩
  · go_enter Tryd.func16, Tryd.ntmps16
    go_wp2
    go_ret
    exact ⟨by simp; omega, rfl⟩

set_option maxRecDepth 100000 in
set_option maxHeartbeats 2000000 in
theorem st_calls' (n : Int) (w : World) : Calls Tryd.prog 17 #[.int .i64 n] w fun e w' => e = .returned (.bool (decide (0 ≤ n) && decide (n ≤ 100000))) ∧ w' = w := by
  by_cases h1 : 0 ≤ n
  · by_cases h2 : n ≤ 100000
    · go_enter Tryd.func17, Tryd.ntmps17
      go_wp2
      go_ret
      exact ⟨by simp [h1, h2], rfl⟩
    · go_enter Tryd.func17, Tryd.ntmps17
      go_wp2
      go_ret
      exact ⟨by simp [h1, h2], rfl⟩
  · go_enter Tryd.func17, Tryd.ntmps17
    go_wp2
    go_ret
    exact ⟨by simp; omega, rfl⟩

set_option maxRecDepth 100000 in
set_option maxHeartbeats 2000000 in
theorem sz_calls' (n : Int) (w : World) : Calls Tryd.prog 18 #[.int .i64 n] w fun e w' => e = .returned (.bool (decide (1 ≤ n) && decide (n ≤ 200))) ∧ w' = w := by
  by_cases h1 : 1 ≤ n
  · by_cases h2 : n ≤ 200
    · go_enter Tryd.func18, Tryd.ntmps18
      go_wp2
      go_ret
      exact ⟨by simp [h1, h2], rfl⟩
    · go_enter Tryd.func18, Tryd.ntmps18
      go_wp2
      go_ret
      exact ⟨by simp [h1, h2], rfl⟩
  · go_enter Tryd.func18, Tryd.ntmps18
    go_wp2
    go_ret
    exact ⟨by simp; omega, rfl⟩

set_option maxRecDepth 100000 in
set_option maxHeartbeats 2000000 in
theorem sw_calls' (n : Int) (w : World) : Calls Tryd.prog 22 #[.int .i64 n] w fun e w' => e = .returned (.bool (decide (1 ≤ n) && decide (n ≤ 100000))) ∧ w' = w := by
  by_cases h1 : 1 ≤ n
  · by_cases h2 : n ≤ 100000
    · go_enter Tryd.func22, Tryd.ntmps22
      go_wp2
      go_ret
      exact ⟨by simp [h1, h2], rfl⟩
    · go_enter Tryd.func22, Tryd.ntmps22
      go_wp2
      go_ret
      exact ⟨by simp [h1, h2], rfl⟩
  · go_enter Tryd.func22, Tryd.ntmps22
    go_wp2
    go_ret
    exact ⟨by simp; omega, rfl⟩

theorem sn_calls (n : Int) (w : World) : Calls Tryd.prog 16 #[.int .i64 n] w fun e w' => e = .returned (.bool (isN n)) ∧ w' = w := sn_calls' n w
theorem st_calls (n : Int) (w : World) : Calls Tryd.prog 17 #[.int .i64 n] w fun e w' => e = .returned (.bool (isT n)) ∧ w' = w := st_calls' n w
theorem sz_calls (n : Int) (w : World) : Calls Tryd.prog 18 #[.int .i64 n] w fun e w' => e = .returned (.bool (isZ n)) ∧ w' = w := sz_calls' n w
theorem sw_calls (n : Int) (w : World) : Calls Tryd.prog 22 #[.int .i64 n] w fun e w' => e = .returned (.bool (isW n)) ∧ w' = w := sw_calls' n w
set_option maxRecDepth 100000 in
set_option maxHeartbeats 2000000 in
theorem beh_grow (s q : S3) (w : World) : Calls Tryd.prog 19 #[.agg #[.int .i64 s.1, .int .i64 s.2.1, .int .i64 s.2.2], .agg #[.int .i64 q.1, .int .i64 q.2.1, .int .i64 q.2.2]] w fun e w' => e = .returned (.bool (behB s q)) ∧ ∃ m os', w' = grow (w.drewN m) os' := by
  obtain ⟨a, b, c⟩ := s
  obtain ⟨d, e, f⟩ := q
  unfold behB
  by_cases h1 : d < a
  · go_enter Tryd.func19, Tryd.ntmps19
    go_wp2
    go_ret
    exact ⟨by simp [h1], 0, _, by rw [alloc_eq_grow, alloc_eq_grow, grow_grow]; rfl⟩
  · go_enter Tryd.func19, Tryd.ntmps19
    go_wp2
    go_ret
    exact ⟨by simp; omega, 0, _, by rw [alloc_eq_grow, alloc_eq_grow, grow_grow]; rfl⟩

def prv3 (zs : List S3) (k : Nat) : Option S3 := if k = 0 then none else some (at3 zs (k - 1))
theorem prv3_succ (zs : List S3) (k : Nat) : prv3 zs (k + 1) = some (at3 zs k) := by simp [prv3]

set_option maxRecDepth 100000 in
set_option maxHeartbeats 2000000 in
theorem scheck_full (a : Option Addr) (len cap : Nat) (w : World) (h : 30 < len) (hm : len ≤ 9223372036854775807) :
    Calls Tryd.prog 6 #[.slice a len cap] w fun e w' => e = .returned (.iface 46 (.int .i64 4)) ∧ Below w.heap.size w w' := by
  have h' : (30 : Int) < (len : Int) := by omega
  go_enter Tryd.func6, Tryd.ntmps6
  go_wp2_with fail
  go_ret
  exact ⟨rfl, Below.refl _ _⟩
set_option maxRecDepth 100000 in
set_option maxHeartbeats 2000000 in
theorem scheck_none (a : Option Addr) (cap : Nat) (w : World) :
    Calls Tryd.prog 6 #[.slice a 0 cap] w fun e w' => e = .returned .nilIface ∧ Below w.heap.size w w' := by
  go_enter Tryd.func6, Tryd.ntmps6
  go_wp2_with fail
  refine wp_loop_rounds 1 ?_
  rw [rounds_succ]
  go_wp2_with fail
  go_ret
  exact ⟨rfl, Below.refl _ _⟩
set_option maxRecDepth 100000 in
set_option maxHeartbeats 2000000 in
theorem scheck_some (b0 off len cap : Nat) (zs : List S3) (w : World) (hlen : zs.length = len) (h30 : len ≤ 30) (hb : b0 < w.heap.size) (hc : Cells3 w b0 off zs) :
    Calls Tryd.prog 6 #[.slice (some ⟨b0, off, none⟩) len cap] w fun e w' => e = .returned (errV (scFrom none zs)) ∧ Below w.heap.size w w' := by
  have h30' : ¬ (30 : Int) < (len : Int) := by omega
  have HL : Hid (zs.length = len) := hlen
  have HC : Hid (Cells3 w b0 off zs) := hc
  clear hlen hc
  go_enter Tryd.func6, Tryd.ntmps6
  go_wp2_with fail
  go_loopw [11] (fun i wr => ∃ k : Nat, k ≤ len ∧ i = .int .i64 k ∧ Hid (scFrom none zs = scFrom (prv3 zs k) (zs.drop k)) ∧ Below w.heap.size w wr) (fun i _ => len - (intOf i).toNat)
  case atStart => exact ⟨0, Nat.zero_le _, rfl, rfl, Below.refl _ _⟩
  case round =>
    obtain ⟨k, hk, rfl, hE, hB⟩ := hrel
    by_cases hlt : k < len
    · have g1 : (k : Int) < (len : Int) := by omega
      have hkl : k < zs.length := by have := HL.out; omega
      have c0 := (HC.out.below hb hB k hkl).1
      have c1 := (HC.out.below hb hB k hkl).2.1
      have c2 := (HC.out.below hb hB k hkl).2.2
      have HD : Hid (zs.drop k = at3 zs k :: zs.drop (k + 1)) := drop3 hkl
      have HP : Hid (prv3 zs (k + 1) = some (at3 zs k)) := prv3_succ zs k
      have HK : Hid (0 < k → Cells3 wr b0 off zs) := fun _ => HC.out.below hb hB
      have hbr : b0 < wr.heap.size := Nat.lt_of_lt_of_le hb hB.size
      generalize hr : at3 zs k = r at c0 c1 c2 HD HP
      obtain ⟨a, b, c⟩ := r
      clear hr hkl
      simp only at c0 c1 c2
      have H1 : Hid (okS (a, b, c) = false → scFrom none zs = 1) := by
        show _ → _
        intro h
        rw [hE.out, HD.out]; exact sc_1 _ _ _ h
      cases n1 : isN a with
      | false =>
        have HF : Hid (scFrom none zs = 1) := H1.out (by simp [okS, n1])
        clear hE H1 HD HP HK
        go_wp2_with (go_at_call_of 16 a; refine (sn_calls a _).mono ?_; rintro e w1 ⟨rfl, rfl⟩; rw [n1])
        go_ret
        exact ⟨by rw [HF.out, errV1]; rfl, hB.alloc hB.size _⟩
      | true =>
        cases n2 : isT b with
        | false =>
          have HF : Hid (scFrom none zs = 1) := H1.out (by simp [okS, n1, n2])
          clear hE H1 HD HP HK
          go_wp2_with (first | (go_at_call_of 16 a; refine (sn_calls a _).mono ?_; rintro e w1 ⟨rfl, rfl⟩; rw [n1]) | (go_at_call_of 17 b; refine (st_calls b _).mono ?_; rintro e w1 ⟨rfl, rfl⟩; rw [n2]))
          go_ret
          exact ⟨by rw [HF.out, errV1]; rfl, hB.alloc hB.size _⟩
        | true =>
          cases n3 : isZ c with
          | false =>
            have HF : Hid (scFrom none zs = 1) := H1.out (by simp [okS, n1, n2, n3])
            clear hE H1 HD HP HK
            go_wp2_with (first | (go_at_call_of 16 a; refine (sn_calls a _).mono ?_; rintro e w1 ⟨rfl, rfl⟩; rw [n1]) | (go_at_call_of 17 b; refine (st_calls b _).mono ?_; rintro e w1 ⟨rfl, rfl⟩; rw [n2]) | (go_at_call_of 18 c; refine (sz_calls c _).mono ?_; rintro e w1 ⟨rfl, rfl⟩; rw [n3]))
            go_ret
            exact ⟨by rw [HF.out, errV1]; rfl, hB.alloc hB.size _⟩
          | true =>
            have hok : okS (a, b, c) = true := by simp [okS, n1, n2, n3]
            clear H1
            by_cases h0 : k = 0
            · subst h0
              have HF : Hid (scFrom none zs = scFrom (prv3 zs 1) (zs.drop 1)) := by
                show _ = _
                rw [hE.out, HD.out, HP.out]; exact sc_0 _ _ _ hok rfl
              simp only [Nat.zero_mul, Nat.add_zero] at c0 c1 c2
              clear hE HK HD HP hok
              go_wp2_with (first | (go_at_call_of 16 a; refine (sn_calls a _).mono ?_; rintro e w1 ⟨rfl, rfl⟩; rw [n1]) | (go_at_call_of 17 b; refine (st_calls b _).mono ?_; rintro e w1 ⟨rfl, rfl⟩; rw [n2]) | (go_at_call_of 18 c; refine (sz_calls c _).mono ?_; rintro e w1 ⟨rfl, rfl⟩; rw [n3]))
              go_quiet (fail)
              go_wp2_with fail
              exact ⟨⟨1, by omega, by go_num, HF, below_drewN (hB.alloc hB.size _) _⟩, by simp [intOf]; omega⟩
            · have g2 : (0 : Int) < (k : Int) := by omega
              have hkl' : k - 1 < zs.length := by have := HL.out; omega
              have d0 := (HK.out (by omega) (k - 1) hkl').1
              have d1 := (HK.out (by omega) (k - 1) hkl').2.1
              have d2 := (HK.out (by omega) (k - 1) hkl').2.2
              have HQ : Hid (prv3 zs k = some (at3 zs (k - 1))) := by
                show _ = _
                unfold prv3; rw [if_neg h0]
              obtain ⟨j, rfl⟩ : ∃ j, k = j + 1 := ⟨k - 1, by omega⟩
              simp only [Nat.add_sub_cancel] at d0 d1 d2 HQ
              generalize at3 zs j = q at d0 d1 d2 HQ
              obtain ⟨qa, qb, qc⟩ := q
              simp only at d0 d1 d2 HQ
              clear HK hkl'
              cases h4 : behB (a, b, c) (qa, qb, qc) with
              | false =>
                have HF : Hid (scFrom none zs = 3) := by
                  show _ = _
                  rw [hE.out, HD.out, HQ.out]; exact sc_3 _ _ _ hok (by simp [badB, h4])
                clear hE HD HP HQ hok
                go_wp2_with (first | (go_at_call_of 16 a; refine (sn_calls a _).mono ?_; rintro e w1 ⟨rfl, rfl⟩; rw [n1]) | (go_at_call_of 17 b; refine (st_calls b _).mono ?_; rintro e w1 ⟨rfl, rfl⟩; rw [n2]) | (go_at_call_of 18 c; refine (sz_calls c _).mono ?_; rintro e w1 ⟨rfl, rfl⟩; rw [n3]))
                generalize hW : wr.alloc (.cells #[.int .i64 a, .int .i64 b, .int .i64 c] 30) = W1
                have e0 : ∀ n os, (grow (W1.drewN n) os).cell? ⟨wr.heap.size, 0, none⟩ = some (.int .i64 a) := cell_grown (by rw [← hW]; simp) (by rw [← hW]; simp)
                have e1 : ∀ n os, (grow (W1.drewN n) os).cell? ⟨wr.heap.size, 1, none⟩ = some (.int .i64 b) := cell_grown (by rw [← hW]; simp) (by rw [← hW]; simp)
                have e2 : ∀ n os, (grow (W1.drewN n) os).cell? ⟨wr.heap.size, 2, none⟩ = some (.int .i64 c) := cell_grown (by rw [← hW]; simp) (by rw [← hW]; simp)
                have e3 : ∀ n os, (grow (W1.drewN n) os).cell? ⟨b0, off + j * 3, none⟩ = some (.int .i64 qa) := cell_grown (by rw [← hW]; show b0 < _; simp; omega) (by rw [← hW, Below.cell (((Below.refl wr.heap.size wr).alloc (Nat.le_refl _) _)) (by exact hbr)]; exact d0)
                have e4 : ∀ n os, (grow (W1.drewN n) os).cell? ⟨b0, off + j * 3 + 1, none⟩ = some (.int .i64 qb) := cell_grown (by rw [← hW]; show b0 < _; simp; omega) (by rw [← hW, Below.cell (((Below.refl wr.heap.size wr).alloc (Nat.le_refl _) _)) (by exact hbr)]; exact d1)
                have e5 : ∀ n os, (grow (W1.drewN n) os).cell? ⟨b0, off + j * 3 + 2, none⟩ = some (.int .i64 qc) := cell_grown (by rw [← hW]; show b0 < _; simp; omega) (by rw [← hW, Below.cell (((Below.refl wr.heap.size wr).alloc (Nat.le_refl _) _)) (by exact hbr)]; exact d2)
                have hB1 : Below w.heap.size w W1 := by rw [← hW]; exact hB.alloc hB.size _
                clear hW c0 c1 c2 d0 d1 d2
                have mx := mixed
                have wj : IntKind.i64.wrap (j : Int) = (j : Int) := by simp [IntKind.wrap, IntKind.bits, IntKind.signed]; omega
                have gj : (j : Int) < (len : Int) := by omega
                have gj0 : ¬ (j : Int) < 0 := by omega
                have hbeh := fun W => beh_grow (a, b, c) (qa, qb, qc) W
                generalize behB (a, b, c) (qa, qb, qc) = bb at hbeh h4
                subst h4
                go_quiet_grown (first | (go_at_call 19; refine Calls.grown_of (hbeh _)))
                go_wp2_with fail
                go_ret
                exact ⟨by rw [HF.out, errV3]; rfl, below_grow (below_drewN hB1 _) hB1.size _⟩
              | true =>
                have HF : Hid (scFrom none zs = scFrom (prv3 zs (j + 1 + 1)) (zs.drop (j + 1 + 1))) := by
                  show _ = _
                  rw [hE.out, HD.out, HQ.out, HP.out]; exact sc_0 _ _ _ hok (by simp [badB, h4])
                clear hE HD HP HQ hok
                go_wp2_with (first | (go_at_call_of 16 a; refine (sn_calls a _).mono ?_; rintro e w1 ⟨rfl, rfl⟩; rw [n1]) | (go_at_call_of 17 b; refine (st_calls b _).mono ?_; rintro e w1 ⟨rfl, rfl⟩; rw [n2]) | (go_at_call_of 18 c; refine (sz_calls c _).mono ?_; rintro e w1 ⟨rfl, rfl⟩; rw [n3]))
                generalize hW : wr.alloc (.cells #[.int .i64 a, .int .i64 b, .int .i64 c] 30) = W1
                have e0 : ∀ n os, (grow (W1.drewN n) os).cell? ⟨wr.heap.size, 0, none⟩ = some (.int .i64 a) := cell_grown (by rw [← hW]; simp) (by rw [← hW]; simp)
                have e1 : ∀ n os, (grow (W1.drewN n) os).cell? ⟨wr.heap.size, 1, none⟩ = some (.int .i64 b) := cell_grown (by rw [← hW]; simp) (by rw [← hW]; simp)
                have e2 : ∀ n os, (grow (W1.drewN n) os).cell? ⟨wr.heap.size, 2, none⟩ = some (.int .i64 c) := cell_grown (by rw [← hW]; simp) (by rw [← hW]; simp)
                have e3 : ∀ n os, (grow (W1.drewN n) os).cell? ⟨b0, off + j * 3, none⟩ = some (.int .i64 qa) := cell_grown (by rw [← hW]; show b0 < _; simp; omega) (by rw [← hW, Below.cell (((Below.refl wr.heap.size wr).alloc (Nat.le_refl _) _)) (by exact hbr)]; exact d0)
                have e4 : ∀ n os, (grow (W1.drewN n) os).cell? ⟨b0, off + j * 3 + 1, none⟩ = some (.int .i64 qb) := cell_grown (by rw [← hW]; show b0 < _; simp; omega) (by rw [← hW, Below.cell (((Below.refl wr.heap.size wr).alloc (Nat.le_refl _) _)) (by exact hbr)]; exact d1)
                have e5 : ∀ n os, (grow (W1.drewN n) os).cell? ⟨b0, off + j * 3 + 2, none⟩ = some (.int .i64 qc) := cell_grown (by rw [← hW]; show b0 < _; simp; omega) (by rw [← hW, Below.cell (((Below.refl wr.heap.size wr).alloc (Nat.le_refl _) _)) (by exact hbr)]; exact d2)
                have hB1 : Below w.heap.size w W1 := by rw [← hW]; exact hB.alloc hB.size _
                clear hW c0 c1 c2 d0 d1 d2
                have mx := mixed
                have wj : IntKind.i64.wrap (j : Int) = (j : Int) := by simp [IntKind.wrap, IntKind.bits, IntKind.signed]; omega
                have gj : (j : Int) < (len : Int) := by omega
                have gj0 : ¬ (j : Int) < 0 := by omega
                have hbeh := fun W => beh_grow (a, b, c) (qa, qb, qc) W
                generalize behB (a, b, c) (qa, qb, qc) = bb at hbeh h4
                subst h4
                go_quiet_grown (first | (go_at_call 19; refine Calls.grown_of (hbeh _)))
                go_wp2_with fail
                exact ⟨⟨j + 1 + 1, by omega, by go_num, HF, below_grow (below_drewN hB1 _) hB1.size _⟩, by simp [intOf]; omega⟩
    · obtain rfl : k = len := by omega
      have HF : Hid (scFrom none zs = 0) := by
        show _ = _
        rw [hE.out, List.drop_eq_nil_of_le (by have := HL.out; omega)]; rfl
      clear hE
      go_wp2_with fail
      go_ret
      exact ⟨by rw [HF.out, errV0]; rfl, hB⟩
theorem scheck_calls (v : Value) (zs : List S3) (w : World) (h : Row3 w v zs) :
    Calls Tryd.prog 6 #[v] w fun e w' => e = .returned (errV (sc zs)) ∧ Below w.heap.size w w' := by
  obtain ⟨ao, c, rfl, hl, hn, h⟩ := h
  unfold sc
  by_cases h30 : 30 < zs.length
  · rw [if_pos h30]
    exact scheck_full ao _ c w h30 hl
  · rw [if_neg h30]
    rcases h with rfl | ⟨b, off, rfl, hb, hc⟩
    · exact scheck_none ao c w
    · exact scheck_some b off _ c zs w rfl (by omega) hb hc
end Go.Proofs.YtingcgadolcanaaDoor
