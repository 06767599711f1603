/- What Move and Where answer, and what they leave. -/
import Derived.Test.YtpnblfabdioanaaDoorMD
namespace Go.Proofs.YtpnblfabdioanaaDoor
open Go.RowKit Go.Lib Go.Sort
set_option linter.unusedVariables false
set_option linter.unusedSimpArgs false

theorem own_sh {w : World} {B e size n : Nat} {v : Value} {xs : List Value} (h : w.ownsRow B e size v n xs) : ∃ a cap, v = .slice a n cap := by
  rcases h.2 with ⟨rfl, e⟩ | ⟨g, cap, cur, rfl, _⟩
  · exact ⟨none, 0, by rw [e]⟩
  · exact ⟨_, _, rfl⟩
set_option maxRecDepth 100000 in
set_option maxHeartbeats 2000000 in
theorem move_a (mb : Nat) (i : Int) (w : World) (hi : ptB i = false) : Calls Tryd.prog 11 #[.pointer (some ⟨mb, 0, none⟩), .int .i64 i] w fun e w' => e = .returned (.iface 72 (.int .i64 1)) ∧ Below w.heap.size w w' := by
  go_enter Tryd.func11, Tryd.ntmps11
  go_wp2_with (go_at_call 30; refine (isPath_calls i _).mono ?_; rintro e w1 ⟨rfl, rfl⟩; rw [hi])
  go_ret
  exact ⟨rfl, Below.refl _ _⟩
set_option maxRecDepth 100000 in
set_option maxHeartbeats 2000000 in
theorem move_b {w : World} {B mb ib im pb pm : Nat} {iv : Value} {s : Mv} (h : MO w B mb ib im iv pb pm s) (j : Nat) (hj : j < 4) (hk : s.pk j = false) : Calls Tryd.prog 11 #[.pointer (some ⟨mb, 0, none⟩), .int .i64 (j : Int)] w fun e w' => e = .returned (.iface 72 (.int .i64 6)) ∧ Below w.heap.size w w' := by
  have hp := ptB_of hj
  have c2 := h.ck j hj
  have ca := h.ca
  have cn := h.cn
  have hji : (j : Int) < 4 := by omega
  rw [hk] at c2
  clear h
  go_enter Tryd.func11, Tryd.ntmps11
  go_wp2_with (go_at_call 30; refine (isPath_calls (j : Int) _).mono ?_; rintro e w1 ⟨rfl, rfl⟩; rw [hp])
  go_ret
  exact ⟨rfl, Below.refl _ _⟩
set_option maxRecDepth 100000 in
set_option maxHeartbeats 2000000 in
theorem move_c {w : World} {B mb ib im pb pm : Nat} {iv : Value} {s : Mv} (h : MO w B mb ib im iv pb pm s) (j : Nat) (hj : j < 4) (hk : s.pk j = true) (hw : s.wh = (j : Int)) : Calls Tryd.prog 11 #[.pointer (some ⟨mb, 0, none⟩), .int .i64 (j : Int)] w fun e w' => e = .returned (.iface 72 (.int .i64 7)) ∧ Below w.heap.size w w' := by
  have hp := ptB_of hj
  have c2 := h.ck j hj
  have ca := h.ca
  have cn := h.cn
  have hji : (j : Int) < 4 := by omega
  rw [hk] at c2
  rw [hw] at ca
  clear h hw
  go_enter Tryd.func11, Tryd.ntmps11
  go_wp2_with (go_at_call 30; refine (isPath_calls (j : Int) _).mono ?_; rintro e w1 ⟨rfl, rfl⟩; rw [hp])
  go_ret
  exact ⟨rfl, Below.refl _ _⟩
set_option maxRecDepth 100000 in
set_option maxHeartbeats 2000000 in
theorem move_d {w : World} {B mb ib im pb pm : Nat} {iv : Value} {s : Mv} (h : MO w B mb ib im iv pb pm s) (j : Nat) (hj : j < 4) (hk : s.pk j = true) (hw : ((j : Int) == s.wh) = false) (hl : s.ls.length < 2) : Calls Tryd.prog 11 #[.pointer (some ⟨mb, 0, none⟩), .int .i64 (j : Int)] w fun e w' => e = .returned (.iface 72 (.int .i64 5)) ∧ Below w.heap.size w w' := by
  have hp := ptB_of hj
  have c2 := h.ck j hj
  have ca := h.ca
  have cn := h.cn
  have hji : (j : Int) < 4 := by omega
  rw [hk] at c2
  have hcon := Ix.live_calls h.ids
  have hl2 : (s.ls.length : Int) < 2 := by omega
  clear h hl
  generalize s.wh = wh at *
  generalize Ix.flat s.ls = fl at *
  generalize s.ls.length = m at *
  go_enter Tryd.func11, Tryd.ntmps11
  go_wp2_with (first | (go_at_call 30; refine (isPath_calls (j : Int) _).mono ?_; rintro e w1 ⟨rfl, rfl⟩; rw [hp]) | (go_at_call 24; refine hcon.mono ?_; rintro e w1 ⟨u, rfl, ho, hb1⟩; obtain ⟨a, cap, rfl⟩ := own_sh ho))
  go_ret
  exact ⟨rfl, hb1⟩
theorem isIn_head {ls : List Ix.R} (h : 0 < ls.length) : Ix.isIn ls (Ix.at' ls 0).1 = true := by
  cases ls with
  | nil => simp at h
  | cons a l => simp [Ix.isIn, Ix.at']
theorem gone_head {L : Int} {ns : List Int} {ls : List Ix.R} (h : Ix.Inv L ns ls) (h0 : 0 < ls.length) : Ix.gone ls (Ix.at' ls 0).1 = ls.tail := by
  have := Ix.gone_at ls 0 h.rise h0 rfl
  rw [← this]
  simp
set_option maxRecDepth 100000 in
set_option maxHeartbeats 2000000 in
theorem move_e {w : World} {B mb ib im pb pm : Nat} {iv : Value} {s : Mv} (h : MO w B mb ib im iv pb pm s) (j : Nat) (hj : j < 4) (hk : s.pk j = true) (hw : ((j : Int) == s.wh) = false) (hl : 2 ≤ s.ls.length) : Calls Tryd.prog 11 #[.pointer (some ⟨mb, 0, none⟩), .int .i64 (j : Int)] w fun e w' => e = .returned .nilIface ∧ ∃ iv', MO w' B mb ib im iv' pb pm { s with wh := (j : Int), ls := s.ls.tail } ∧ Off (fun k => k = mb ∨ Ix.own ib im iv k) w w' ∧ (iv'.ownBlock = iv.ownBlock ∨ ∃ k, iv'.ownBlock = some k ∧ w.heap.size ≤ k) := by
  have hp := ptB_of hj
  have c2 := h.ck j hj
  have ca := h.ca
  have cn := h.cn
  have hji : (j : Int) < 4 := by omega
  rw [hk] at c2
  have hcon := Ix.live_calls h.ids
  have hret := fun W (hb : Below w.heap.size w W) => Ix.retire_yes (h.below hb).drew.ids (Ix.at' s.ls 0).1 (isIn_head (by omega))
  rw [gone_head h.ids.inv (by omega)] at hret
  have hfl := (Ix.flat_get s.ls 0 (by omega)).1
  have hl2 : ¬ (s.ls.length : Int) < 2 := by omega
  have hl3 : (0 : Int) < (s.ls.length : Int) := by omega
  have hl4 : 0 < s.ls.length := by omega
  have HM : Hid (MO w B mb ib im iv pb pm s) := h
  have hml := h.ltm
  have HOW : Hid (∀ k, Ix.own ib im iv k → k < w.heap.size ∧ k ≠ mb) := fun k hk => ⟨h.ids.lt hk, (h.a1 k hk).1⟩
  clear h hl
  generalize s.wh = wh at hw ca
  generalize hq : (Ix.at' s.ls 0).1 = q at hret hfl
  clear hq
  generalize Ix.flat s.ls = fl at *
  generalize s.ls.length = m at *
  go_enter Tryd.func11, Tryd.ntmps11
  go_wp2_with (first | (go_at_call 30; refine (isPath_calls (j : Int) _).mono ?_; rintro e w1 ⟨rfl, rfl⟩; rw [hp]) | (go_at_call 24; refine hcon.mono ?_; rintro e w1 ⟨u, rfl, ho, hb1⟩; obtain ⟨g, cap, rfl⟩ := Ix.own_shape ho hl4))
  have hgl := ho.lt g rfl
  have y0 := ho.cells (g := g) rfl _ _ hfl
  rw [Addr.add_lit] at y0
  have hM1 := HM.out.below hb1
  have z3 := hM1.cn
  have hret1 := hret w1 hb1
  have HM1 : Hid (MO w1 B mb ib im iv pb pm s) := hM1
  have HB1 : Hid (Below w.heap.size w w1) := hb1
  have n1 : ¬ Ix.own ib im iv mb := fun e => (HOW.out mb e).2 rfl
  have n2 : ¬ Ix.own ib im iv g := fun e => by have := (HOW.out g e).1; omega
  have y0d : w1.drew.cell? ⟨g, 0, none⟩ = some (.int .i64 q) := y0
  have z3d : w1.drew.cell? ⟨mb, 13, none⟩ = some (.pointer (some ⟨ib, 0, none⟩)) := z3
  clear hcon hret hM1 hb1 ho hgl HM c2 ca cn
  go_region_held3 (fun X => X.cell? ⟨g, 0, none⟩ = some (.int .i64 q) ∧ X.cell? ⟨mb, 13, none⟩ = some (.pointer (some ⟨ib, 0, none⟩))) (go_keep) (first | (go_at_call 33; refine hret1.mono ?_; rintro ex w2 ⟨rfl, iv', hI2, hO2, hv2⟩; have u1 := hO2.cell y0d n2; have u2 := hO2.cell z3d n1))
  have hM2 := HM1.out.drew.turnI hI2 hO2 (.inl hv2)
  have c12 := hM2.ca
  have f12 := hM2.fr 12 (by omega)
  have HM2 : Hid (MO w2 B mb ib im iv' pb pm { s with ls := s.ls.tail }) := hM2
  clear hM2
  go_wp2_with fail
  go_ret
  exact ⟨rfl, iv', HM2.out.go _, (((Off.of_below HB1.out).trans ((Off.refl _ _).drew.trans hO2)).mono (fun k _ e => .inr e)).setCell (.inl rfl) _, .inl hv2⟩
theorem mmove_calls {w : World} {B mb ib im pb pm : Nat} {iv : Value} {s : Mv} (h : MO w B mb ib im iv pb pm s) (i : Int) : Calls Tryd.prog 11 #[.pointer (some ⟨mb, 0, none⟩), .int .i64 i] w fun e w' => e = .returned (errV (mvF s i)) ∧ ∃ iv', MO w' B mb ib im iv' pb pm (mvS s i) ∧ Off (fun k => k = mb ∨ Ix.own ib im iv k) w w' ∧ (iv'.ownBlock = iv.ownBlock ∨ ∃ k, iv'.ownBlock = some k ∧ w.heap.size ≤ k) := by
  have no : ∀ f : Int, f ≠ 0 → mvF s i = f → (Calls Tryd.prog 11 #[.pointer (some ⟨mb, 0, none⟩), .int .i64 i] w fun e w' => e = .returned (.iface 72 (.int .i64 f)) ∧ Below w.heap.size w w') → (Calls Tryd.prog 11 #[.pointer (some ⟨mb, 0, none⟩), .int .i64 i] w fun e w' => e = .returned (errV (mvF s i)) ∧ ∃ iv', MO w' B mb ib im iv' pb pm (mvS s i) ∧ Off (fun k => k = mb ∨ Ix.own ib im iv k) w w' ∧ (iv'.ownBlock = iv.ownBlock ∨ ∃ k, iv'.ownBlock = some k ∧ w.heap.size ≤ k)) := fun f h0 hf hc => by
    have e2 : mvS s i = s := by simp [mvS, hf, h0]
    rw [e2, hf, errV_f h0]
    exact hc.mono fun e w' ⟨h1, h2⟩ => ⟨h1, iv, h.below h2, Off.of_below h2, .inl rfl⟩
  cases hi : ptB i with
  | false => exact no 1 (by omega) (by simp [mvF, hi]) (move_a mb i w hi)
  | true =>
    obtain ⟨j, rfl, hj⟩ := ptB_yes hi
    cases hk : s.pk j with
    | false => exact no 6 (by omega) (by simp [mvF, hi, hk]) (move_b h j hj hk)
    | true =>
      by_cases hw : (j : Int) = s.wh
      · exact no 7 (by omega) (by unfold mvF; rw [if_pos hi, Int.toNat_natCast, if_pos hk, if_pos hw]) (move_c h j hj hk hw.symm)
      · have hw2 : ((j : Int) == s.wh) = false := by simpa using hw
        by_cases hl : s.ls.length < 2
        · exact no 5 (by omega) (by simp [mvF, hi, hk, hw, hl]) (move_d h j hj hk hw2 hl)
        · have e1 : mvF s (j : Int) = 0 := by simp [mvF, hi, hk, hw, hl]
          have e2 : mvS s (j : Int) = { s with wh := (j : Int), ls := s.ls.tail } := by simp [mvS, e1]
          rw [e1, e2]
          exact move_e h j hj hk hw2 (by omega)

set_option maxRecDepth 100000 in
set_option maxHeartbeats 2000000 in
theorem where_no {w : World} {B mb ib im pb pm : Nat} {iv : Value} {s : Mv} (h : MO w B mb ib im iv pb pm s) (hl : s.ls.length = 0) : Calls Tryd.prog 6 #[.pointer (some ⟨mb, 0, none⟩)] w fun e w' => e = .returned (.tuple #[.int .i64 0, .int .i64 0, .iface 72 (.int .i64 5)]) ∧ Below w.heap.size w w' := by
  have cn := h.cn
  have hcon := Ix.live_calls h.ids
  rw [hl] at hcon
  clear h hl
  generalize Ix.flat s.ls = fl at *
  go_enter Tryd.func6, Tryd.ntmps6
  go_wp2_with (go_at_call 24; refine hcon.mono ?_; rintro e w1 ⟨u, rfl, ho, hb1⟩; obtain ⟨a, cap, rfl⟩ := own_sh ho)
  go_ret3
  exact ⟨rfl, hb1⟩
set_option maxRecDepth 100000 in
set_option maxHeartbeats 2000000 in
theorem where_yes {w : World} {B mb ib im pb pm : Nat} {iv : Value} {s : Mv} (h : MO w B mb ib im iv pb pm s) (hl : 0 < s.ls.length) : Calls Tryd.prog 6 #[.pointer (some ⟨mb, 0, none⟩)] w fun e w' => e = .returned (.tuple #[.int .i64 s.wh, .int .i64 (Ix.at' s.ls 0).1, .nilIface]) ∧ Below w.heap.size w w' := by
  have cn := h.cn
  have hcon := Ix.live_calls h.ids
  have hfl := (Ix.flat_get s.ls 0 hl).1
  have HM : Hid (MO w B mb ib im iv pb pm s) := h
  have hl3 : (0 : Int) < (s.ls.length : Int) := by omega
  have hl5 : ((s.ls.length : Int) == 0) = false := by rw [beq_eq_false_iff_ne]; omega
  clear h
  generalize (Ix.at' s.ls 0).1 = q at *
  generalize Ix.flat s.ls = fl at *
  generalize s.ls.length = m at *
  go_enter Tryd.func6, Tryd.ntmps6
  go_wp2_with (go_at_call 24; refine hcon.mono ?_; rintro e w1 ⟨u, rfl, ho, hb1⟩; obtain ⟨g, cap, rfl⟩ := Ix.own_shape ho hl)
  have y0 := ho.cells (g := g) rfl _ _ hfl
  rw [Addr.add_lit] at y0
  have ca := (HM.out.below hb1).ca
  clear hcon HM ho hfl
  go_quiet (fail)
  go_wp2_with fail
  go_ret3
  exact ⟨rfl, below_drewN hb1 _⟩
theorem mwhere_calls {w : World} {B mb ib im pb pm : Nat} {iv : Value} {s : Mv} (h : MO w B mb ib im iv pb pm s) : Calls Tryd.prog 6 #[.pointer (some ⟨mb, 0, none⟩)] w fun e w' => e = .returned (.tuple #[.int .i64 (whI s), .int .i64 (whQ s), errV (whF s)]) ∧ Below w.heap.size w w' := by
  by_cases hl : s.ls.length = 0
  · have e1 : whF s = 5 := by simp [whF, hl]
    have e2 : whI s = 0 := by simp [whI, hl]
    have e3 : whQ s = 0 := by simp [whQ, hl]
    rw [e1, e2, e3]
    exact where_no h hl
  · have e1 : whF s = 0 := by simp [whF, hl]
    have e2 : whI s = s.wh := by simp [whI, hl]
    have e3 : whQ s = (Ix.at' s.ls 0).1 := by simp [whQ, hl]
    rw [e1, e2, e3]
    exact where_yes h (by omega)
end Go.Proofs.YtpnblfabdioanaaDoor
