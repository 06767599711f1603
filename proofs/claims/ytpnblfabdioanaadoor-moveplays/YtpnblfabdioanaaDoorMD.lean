/- What Ask, Answer, Move and Where answer, and what they leave. -/
import Derived.Test.YtpnblfabdioanaaDoorMC
namespace Go.Proofs.YtpnblfabdioanaaDoor
open Go.RowKit Go.Lib Go.Sort
set_option linter.unusedVariables false
set_option linter.unusedSimpArgs false

set_option maxRecDepth 100000 in
set_option maxHeartbeats 2000000 in
theorem ask_a (mb : Nat) (i n t : Int) (w : World) (hi : ptB i = false) : Calls Tryd.prog 10 #[.pointer (some ⟨mb, 0, none⟩), .int .i64 i, .int .i64 n, .int .i64 t] w fun e w' => e = .returned (.iface 72 (.int .i64 1)) ∧ w = w' := by
  go_enter Tryd.func10, Tryd.ntmps10
  go_wp2_with (go_at_call 30; refine (isPath_calls i _).mono ?_; rintro e w1 ⟨rfl, rfl⟩; rw [hi])
  go_ret
  exact ⟨rfl, rfl⟩
set_option maxRecDepth 100000 in
set_option maxHeartbeats 2000000 in
theorem ask_b {w : World} {B mb ib im pb pm : Nat} {iv : Value} {s : Mv} (h : MO w B mb ib im iv pb pm s) (j : Nat) (hj : j < 4) (n t : Int) (hh : heardB (s.pi j) (s.pk j) = false) : Calls Tryd.prog 10 #[.pointer (some ⟨mb, 0, none⟩), .int .i64 (j : Int), .int .i64 n, .int .i64 t] w fun e w' => e = .returned (.iface 72 (.int .i64 5)) ∧ Below w.heap.size w w' := by
  have hp := ptB_of hj
  have c0 := h.ci j hj
  have c1 := h.co j hj
  have c2 := h.ck j hj
  have hji : (j : Int) < 4 := by omega
  have hcon := isHeard_calls (s.pi j) (s.po j) (s.pk j) w
  rw [hh] at hcon
  clear h hh
  generalize s.pi j = i0 at *
  generalize s.po j = o0 at *
  generalize s.pk j = k0 at *
  go_enter Tryd.func10, Tryd.ntmps10
  go_wp2_with (first | (go_at_call 30; refine (isPath_calls (j : Int) _).mono ?_; rintro e w1 ⟨rfl, rfl⟩; rw [hp]) | (go_at_call 31; refine hcon.mono ?_; rintro e w1 ⟨rfl, hb1⟩))
  go_ret
  exact ⟨rfl, hb1⟩
set_option maxRecDepth 100000 in
set_option maxHeartbeats 2000000 in
theorem ask_c {w : World} {B mb ib im pb pm : Nat} {iv : Value} {s : Mv} (h : MO w B mb ib im iv pb pm s) (j : Nat) (hj : j < 4) (n t : Int) (hh : heardB (s.pi j) (s.pk j) = true) : Calls Tryd.prog 10 #[.pointer (some ⟨mb, 0, none⟩), .int .i64 (j : Int), .int .i64 n, .int .i64 t] w fun e w' => e = .returned (errV (Ox.askF s.os (j : Int) n t)) ∧ MO w' B mb ib im iv pb pm { s with os := Ox.askL s.os (j : Int) n t } ∧ Off (Ox.own pb pm) w w' := by
  have hp := ptB_of hj
  have c0 := h.ci j hj
  have c1 := h.co j hj
  have c2 := h.ck j hj
  have hji : (j : Int) < 4 := by omega
  have hcon := isHeard_calls (s.pi j) (s.po j) (s.pk j) w
  rw [hh] at hcon
  have HM : Hid (MO w B mb ib im iv pb pm s) := h
  have hcon2 := fun W (hb : Below w.heap.size w W) => Ox.ask_calls (h.below hb).prf (j : Int) n t
  generalize errV (Ox.askF s.os (j : Int) n t) = ev at hcon2 ⊢
  clear h hh
  generalize s.pi j = i0 at *
  generalize s.po j = o0 at *
  generalize s.pk j = k0 at *
  go_enter Tryd.func10, Tryd.ntmps10
  go_wp2_with (first | (go_at_call 30; refine (isPath_calls (j : Int) _).mono ?_; rintro e w1 ⟨rfl, rfl⟩; rw [hp]) | (go_at_call 31; refine hcon.mono ?_; rintro e w1 ⟨rfl, hb1⟩; have hM1 := HM.out.below hb1; have cp := hM1.cp; have hcon3 := hcon2 w1 hb1; clear hcon2; have HM1 : Hid _ := hM1; clear hM1) | (go_at_call 32; refine hcon3.mono ?_; rintro e w2 ⟨rfl, hP2, hO2⟩))
  go_ret
  exact ⟨rfl, HM1.out.turnP hP2 hO2, (Off.of_below hb1).trans hO2⟩
theorem mask_calls {w : World} {B mb ib im pb pm : Nat} {iv : Value} {s : Mv} (h : MO w B mb ib im iv pb pm s) (i n t : Int) : Calls Tryd.prog 10 #[.pointer (some ⟨mb, 0, none⟩), .int .i64 i, .int .i64 n, .int .i64 t] w fun e w' => e = .returned (errV (akF s i n t)) ∧ MO w' B mb ib im iv pb pm (akS s i n t) ∧ Off (Ox.own pb pm) w w' := by
  cases hi : ptB i with
  | false =>
    have e1 : akF s i n t = 1 := by simp [akF, hi]
    have e2 : akS s i n t = s := by simp [akS, e1]
    rw [e1, e2]
    exact (ask_a mb i n t w hi).mono fun e w' ⟨h1, h2⟩ => ⟨h1, h2 ▸ h, h2 ▸ Off.refl _ _⟩
  | true =>
    obtain ⟨j, rfl, hj⟩ := ptB_yes hi
    cases hh : heardB (s.pi j) (s.pk j) with
    | false =>
      have e1 : akF s (j : Int) n t = 5 := by simp [akF, hi, hh]
      have e2 : akS s (j : Int) n t = s := by simp [akS, e1]
      rw [e1, e2]
      exact (ask_b h j hj n t hh).mono fun e w' ⟨h1, h2⟩ => ⟨h1, h.below h2, Off.of_below h2⟩
    | true =>
      have e1 : akF s (j : Int) n t = Ox.askF s.os (j : Int) n t := by simp [akF, hi, hh]
      have e2 : akS s (j : Int) n t = { s with os := Ox.askL s.os (j : Int) n t } := by
        by_cases e : Ox.askF s.os (j : Int) n t = 0
        · simp [akS, e1, e]
        · simp [akS, e1, e, Ox.askL]
      rw [e1, e2]
      exact ask_c h j hj n t hh

set_option maxRecDepth 100000 in
set_option maxHeartbeats 2000000 in
theorem ansC_0 (o : Int) (k : Bool) (w : World) : Calls Tryd.prog 35 #[Px.path 0 o k] w fun e w' => e = .returned (.tuple #[Px.path 0 o k, .nilIface]) ∧ Below w.heap.size w w' := by
  go_enter Tryd.func35, Tryd.ntmps35
  go_wp2_with fail
  have hbel := Below.refl w.heap.size w
  (try simp only [Exit.inBlock, Exit.then])
  refine bodyPost_ret (v := .tuple #[Px.path 0 o k, .nilIface]) ?_ rfl ⟨rfl, ?_⟩
  · rw [results_cell_tmp rfl]; go_simp
  · repeat (first | exact hbel | (refine Below.alloc ?_ (by simp <;> omega) _) | (refine Below.setCell ?_ (by simp <;> omega) _))

set_option maxRecDepth 100000 in
set_option maxHeartbeats 2000000 in
theorem ansC_1 (i o : Int) (k : Bool) (w : World) (hf : Px.flt i o k = 0) (hz : (i == 0) = false) : Calls Tryd.prog 35 #[Px.path i o k] w fun e w' => e = .returned (.tuple #[Px.path i o true, .nilIface]) ∧ Below w.heap.size w w' := by
  have hP := Px.pair_start w i o k
  have hcon := fun W => Px.prove_ok i o k W hf (by simpa using hz)
  go_enter Tryd.func35, Tryd.ntmps35
  go_wp2_with fail
  generalize w.heap.size = P at hP ⊢
  generalize P + 1 = Q at hP ⊢
  refine (hcon _).mono ?_
  rintro e w1 ⟨rfl, hb1⟩
  have hP := hP.below hb1
  obtain ⟨⟨pl, p0, p1, p2, pf0, pf1, pf2⟩, ⟨ql, q0, q1, q2, qf0, qf1, qf2⟩, hbel, hleP, hleQ, hne, hne'⟩ := hP
  go_wp2_with fail
  (try simp only [Exit.inBlock, Exit.then])
  refine bodyPost_ret (v := .tuple #[Px.path i o true, .nilIface]) ?_ rfl ⟨rfl, ?_⟩
  · rw [results_cell_tmp rfl]; go_simp
  · repeat (first | exact hbel | (refine Below.alloc ?_ (by simp <;> omega) _) | (refine Below.setCell ?_ (by simp <;> omega) _))

def prI (s : Mv) (j : Nat) : Mv := if s.pi j = 0 then s else s.setP j (s.pi j) (s.po j) true
theorem setP_same (s : Mv) (j : Nat) : s.setP j (s.pi j) (s.po j) (s.pk j) = s := by
  obtain ⟨a, b, c, d, e, f, g, o⟩ := s
  simp only [Mv.setP]
  have h1 : (fun k => if k = j then a j else a k) = a := by funext k; by_cases e : k = j <;> simp [e]
  have h2 : (fun k => if k = j then b j else b k) = b := by funext k; by_cases e : k = j <;> simp [e]
  have h3 : (fun k => if k = j then c j else c k) = c := by funext k; by_cases e : k = j <;> simp [e]
  rw [h1, h2, h3]
/-- change by what Answer tells. -/
theorem ans_change {w : World} {B mb ib im pb pm : Nat} {iv : Value} {s : Mv} (h : MO w B mb ib im iv pb pm s) (j : Nat) (hj : j < 4) : Calls Tryd.prog 27 #[.pointer (some ⟨mb, 0, none⟩), .int .i64 (j : Int), .func (.func 35) #[] #[]] w fun e w' => e = .returned .nilIface ∧ MO w' B mb ib im iv pb pm (prI s j) ∧ Off (fun k => k = mb) w w' := by
  have eg : ∀ args w, (callFunc 35 args).run Tryd.prog w = .ok (.enter 35 args) w := enters_of Tryd.func35 (by kernel_rfl) rfl
  by_cases hz : s.pi j = 0
  · have hcon := ansC_0 (s.po j) (s.pk j) w
    rw [← hz] at hcon
    have e1 : prI s j = s.setP j (s.pi j) (s.po j) (s.pk j) := by rw [setP_same]; simp [prI, hz]
    rw [e1]
    exact change_yes h j hj 35 #[] eg _ _ _ (h.ok j hj) hcon
  · have hcon := ansC_1 (s.pi j) (s.po j) (s.pk j) w (h.ok j hj) (by simpa using hz)
    have e1 : prI s j = s.setP j (s.pi j) (s.po j) true := by simp [prI, hz]
    rw [e1]
    exact change_yes h j hj 35 #[] eg _ _ _ (prove_flt (h.ok j hj)) hcon
set_option maxRecDepth 100000 in
set_option maxHeartbeats 2000000 in
theorem ans_f {w : World} {B mb ib im pb pm : Nat} {iv : Value} {s : Mv} (h : MO w B mb ib im iv pb pm s) (i n t l : Int) (hf : Ox.ansF i n t l ≠ 0) : Calls Tryd.prog 12 #[.pointer (some ⟨mb, 0, none⟩), .int .i64 i, .int .i64 n, .int .i64 t, .int .i64 l] w fun e w' => e = .returned (.tuple #[.bool false, errV (Ox.ansF i n t l)]) ∧ MO w' B mb ib im iv pb pm s ∧ Off (Ox.own pb pm) w w' := by
  have hcon := Ox.ans_calls h.prf i n t l
  have hB : Ox.ansB s.os i n t l = false := by simp [Ox.ansB, hf]
  have hL : Ox.ansL s.os i n t l = s.os := by simp [Ox.ansL, hB]
  rw [hB, hL, errV_f hf] at hcon
  rw [errV_f hf]
  have c := h.cp
  have HM : Hid (MO w B mb ib im iv pb pm s) := h
  clear h
  generalize Ox.ansF i n t l = f at *
  go_enter Tryd.func12, Tryd.ntmps12
  go_wp2_with (go_at_call 34; refine hcon.mono ?_; rintro e w1 ⟨rfl, hP1, hO1⟩)
  go_ret2
  exact ⟨rfl, HM.out.turnP hP1 hO1, hO1⟩
set_option maxRecDepth 100000 in
set_option maxHeartbeats 2000000 in
theorem ans_n {w : World} {B mb ib im pb pm : Nat} {iv : Value} {s : Mv} (h : MO w B mb ib im iv pb pm s) (i n t l : Int) (hf : Ox.ansF i n t l = 0) (hB : Ox.ansB s.os i n t l = false) : Calls Tryd.prog 12 #[.pointer (some ⟨mb, 0, none⟩), .int .i64 i, .int .i64 n, .int .i64 t, .int .i64 l] w fun e w' => e = .returned (.tuple #[.bool false, .nilIface]) ∧ MO w' B mb ib im iv pb pm s ∧ Off (Ox.own pb pm) w w' := by
  have hcon := Ox.ans_calls h.prf i n t l
  have hL : Ox.ansL s.os i n t l = s.os := by simp [Ox.ansL, hB]
  rw [hB, hL, hf, errV_0] at hcon
  have c := h.cp
  have HM : Hid (MO w B mb ib im iv pb pm s) := h
  clear h hf hB
  go_enter Tryd.func12, Tryd.ntmps12
  go_wp2_with (go_at_call 34; refine hcon.mono ?_; rintro e w1 ⟨rfl, hP1, hO1⟩)
  go_ret2
  exact ⟨rfl, HM.out.turnP hP1 hO1, hO1⟩
set_option maxRecDepth 100000 in
set_option maxHeartbeats 2000000 in
theorem ans_y {w : World} {B mb ib im pb pm : Nat} {iv : Value} {s : Mv} (h : MO w B mb ib im iv pb pm s) (j : Nat) (hj : j < 4) (n t l : Int) (hf : Ox.ansF (j : Int) n t l = 0) (hB : Ox.ansB s.os (j : Int) n t l = true) : Calls Tryd.prog 12 #[.pointer (some ⟨mb, 0, none⟩), .int .i64 (j : Int), .int .i64 n, .int .i64 t, .int .i64 l] w fun e w' => e = .returned (.tuple #[.bool true, .nilIface]) ∧ MO w' B mb ib im iv pb pm (prI { s with os := Ox.ansL s.os (j : Int) n t l } j) ∧ Off (fun k => k = mb ∨ Ox.own pb pm k) w w' := by
  have hcon := Ox.ans_calls h.prf (j : Int) n t l
  rw [hB, hf, errV_0] at hcon
  have c := h.cp
  have HM : Hid (MO w B mb ib im iv pb pm s) := h
  clear h hf hB
  generalize Ox.ansL s.os (j : Int) n t l = os2 at *
  go_enter Tryd.func12, Tryd.ntmps12
  go_wp2_with (first | (go_at_call 34; refine hcon.mono ?_; rintro e w1 ⟨rfl, hP1, hO1⟩; have hM1 := HM.out.turnP hP1 hO1; have hcon2 := ans_change hM1 j hj; clear hM1) | (go_at_call 27; refine hcon2.mono ?_; rintro e w2 ⟨rfl, hM2, hO2⟩))
  go_ret2
  exact ⟨rfl, hM2, (hO1.mono (fun k _ e => .inr e)).trans (hO2.mono (fun k _ e => .inl e))⟩
theorem manswer_calls {w : World} {B mb ib im pb pm : Nat} {iv : Value} {s : Mv} (h : MO w B mb ib im iv pb pm s) (i n t l : Int) : Calls Tryd.prog 12 #[.pointer (some ⟨mb, 0, none⟩), .int .i64 i, .int .i64 n, .int .i64 t, .int .i64 l] w fun e w' => e = .returned (.tuple #[.bool (Ox.ansB s.os i n t l), errV (Ox.ansF i n t l)]) ∧ MO w' B mb ib im iv pb pm (anS s i n t l) ∧ Off (fun k => k = mb ∨ Ox.own pb pm k) w w' := by
  by_cases hf : Ox.ansF i n t l = 0
  · cases hB : Ox.ansB s.os i n t l with
    | false =>
      have e2 : anS s i n t l = s := by simp [anS, hB]
      rw [e2, hf]
      exact (ans_n h i n t l hf hB).mono fun e w' ⟨h1, h2, h3⟩ => ⟨h1, h2, h3.mono (fun k _ e => .inr e)⟩
    | true =>
      have hi : ptB i = true := by
        unfold Ox.ansF at hf
        split at hf
        · rename_i hh
          have := Ox.right_of hh.1
          exact decide_eq_true (by omega)
        · omega
      obtain ⟨j, rfl, hj⟩ := ptB_yes hi
      have e2 : anS s (j : Int) n t l = prI { s with os := Ox.ansL s.os (j : Int) n t l } j := by
        obtain ⟨a, b, c, d, e, f, g, o⟩ := s
        by_cases hz : a j = 0
        · have h3 : (fun k => if k = j ∧ a k ≠ 0 then true else c k) = c := by funext k; by_cases e : k = j <;> simp [e, hz]
          simp only at hB
          simp only [anS, hB, if_true, prI, hz, Int.toNat_natCast, h3]
        · simp only at hB
          have h1 : (fun k => if k = j then a j else a k) = a := by funext k; by_cases e : k = j <;> simp [e]
          have h2 : (fun k => if k = j then b j else b k) = b := by funext k; by_cases e : k = j <;> simp [e]
          have h3 : (fun k => if k = j ∧ a k ≠ 0 then true else c k) = (fun k => if k = j then true else c k) := by funext k; by_cases e : k = j <;> simp [e, hz]
          simp only [anS, hB, if_true, prI, hz, if_false, Int.toNat_natCast, h3, Mv.setP, h1, h2]
      rw [e2, hf]
      exact ans_y h j hj n t l hf hB
  · have hB : Ox.ansB s.os i n t l = false := by simp [Ox.ansB, hf]
    have e2 : anS s i n t l = s := by simp [anS, hB]
    rw [e2, hB]
    exact (ans_f h i n t l hf).mono fun e w' ⟨h1, h2, h3⟩ => ⟨h1, h2, h3.mono (fun k _ e => .inr e)⟩
end Go.Proofs.YtpnblfabdioanaaDoor
