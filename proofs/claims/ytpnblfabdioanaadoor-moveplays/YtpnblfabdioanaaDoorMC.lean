/- What Came, Send, Path, New and Offer answer, and what they leave. -/
import Derived.Test.YtpnblfabdioanaaDoorMB
namespace Go.Proofs.YtpnblfabdioanaaDoor
open Go.RowKit Go.Lib Go.Sort
set_option linter.unusedVariables false
set_option linter.unusedSimpArgs false

set_option maxRecDepth 100000 in
set_option maxHeartbeats 2000000 in
theorem mcame_a {w : World} {B mb ib im pb pm : Nat} {iv : Value} {s : Mv} (h : MO w B mb ib im iv pb pm s) (i n : Int) (hi : ptB i = false) : Calls Tryd.prog 9 #[.pointer (some ⟨mb, 0, none⟩), .int .i64 i, .int .i64 n] w fun e w' => e = .returned (.iface 72 (.int .i64 1)) ∧ Below w.heap.size w w' := by
  go_enter Tryd.func9, Tryd.ntmps9
  go_wp2_with (go_at_call 27; refine (change_range mb i _ _ hi).mono ?_; rintro e w1 ⟨rfl, rfl⟩)
  go_ret
  exact ⟨rfl, (Below.refl _ _).alloc (Nat.le_refl _) _⟩
set_option maxRecDepth 100000 in
set_option maxHeartbeats 2000000 in
theorem mcame_b {w : World} {B mb ib im pb pm : Nat} {iv : Value} {s : Mv} (h : MO w B mb ib im iv pb pm s) (j : Nat) (hj : j < 4) (n : Int) (hf : Px.cameF (s.pi j) (s.po j) (s.pk j) n ≠ 0) : Calls Tryd.prog 9 #[.pointer (some ⟨mb, 0, none⟩), .int .i64 (j : Int), .int .i64 n] w fun e w' => e = .returned (errV (Px.cameF (s.pi j) (s.po j) (s.pk j) n)) ∧ Below w.heap.size w w' := by
  have eg : ∀ args w, (callFunc 28 args).run Tryd.prog w = .ok (.enter 28 args) w := enters_of Tryd.func28 (by kernel_rfl) rfl
  have bel : Below w.heap.size w (w.alloc (.cells #[.int .i64 n] 3)) := (Below.refl _ _).alloc (Nat.le_refl _) _
  have hcon := cameC_calls (s.pi j) (s.po j) (s.pk j) n w.heap.size (w.alloc (.cells #[.int .i64 n] 3)) (by simp)
  rw [errV_f hf] at hcon ⊢
  have hch := change_no (h.below bel) j hj 28 #[.pointer (some ⟨w.heap.size, 0, none⟩)] eg _ _ _ _ hcon
  clear hcon
  generalize Px.cameF (s.pi j) (s.po j) (s.pk j) n = f at *
  go_enter Tryd.func9, Tryd.ntmps9
  go_wp2_with (go_at_call 27; refine hch.mono ?_; rintro e w1 ⟨rfl, hb1⟩)
  go_ret
  exact ⟨rfl, bel.trans (hb1.mono bel.size)⟩
set_option maxRecDepth 100000 in
set_option maxHeartbeats 2000000 in
theorem mcame_c {w : World} {B mb ib im pb pm : Nat} {iv : Value} {s : Mv} (h : MO w B mb ib im iv pb pm s) (j : Nat) (hj : j < 4) (n : Int) (hf : Px.cameF (s.pi j) (s.po j) (s.pk j) n = 0) : Calls Tryd.prog 9 #[.pointer (some ⟨mb, 0, none⟩), .int .i64 (j : Int), .int .i64 n] w fun e w' => e = .returned .nilIface ∧ MO w' B mb ib im iv pb pm (s.setP j (s.pi j + n) (s.po j) (s.pk j)) ∧ Off (fun k => k = mb) w w' := by
  have eg : ∀ args w, (callFunc 28 args).run Tryd.prog w = .ok (.enter 28 args) w := enters_of Tryd.func28 (by kernel_rfl) rfl
  have bel : Below w.heap.size w (w.alloc (.cells #[.int .i64 n] 3)) := (Below.refl _ _).alloc (Nat.le_refl _) _
  have hcon := cameC_calls (s.pi j) (s.po j) (s.pk j) n w.heap.size (w.alloc (.cells #[.int .i64 n] 3)) (by simp)
  have hfl := came_flt hf
  simp only [Px.cameI, Px.cameO, Px.cameK, hf, if_true, errV_0] at hcon
  have hch := change_yes (h.below bel) j hj 28 #[.pointer (some ⟨w.heap.size, 0, none⟩)] eg _ _ _ hfl hcon
  clear hcon
  generalize s.setP j (s.pi j + n) (s.po j) (s.pk j) = s2 at *
  go_enter Tryd.func9, Tryd.ntmps9
  go_wp2_with (go_at_call 27; refine hch.mono ?_; rintro e w1 ⟨rfl, hM, hO⟩)
  go_ret
  exact ⟨rfl, hM, (Off.of_below bel).trans hO⟩
theorem mcame_calls {w : World} {B mb ib im pb pm : Nat} {iv : Value} {s : Mv} (h : MO w B mb ib im iv pb pm s) (i n : Int) : Calls Tryd.prog 9 #[.pointer (some ⟨mb, 0, none⟩), .int .i64 i, .int .i64 n] w fun e w' => e = .returned (errV (cmF s i n)) ∧ MO w' B mb ib im iv pb pm (cmS s i n) ∧ Off (fun k => k = mb) w w' := by
  cases hi : ptB i with
  | false =>
    have e1 : cmF s i n = 1 := by simp [cmF, hi]
    have e2 : cmS s i n = s := by simp [cmS, e1]
    rw [e1, e2]
    exact (mcame_a h i n hi).mono fun e w' ⟨h1, h2⟩ => ⟨h1, h.below h2, Off.of_below h2⟩
  | true =>
    obtain ⟨j, rfl, hj⟩ := ptB_yes hi
    have e1 : cmF s (j : Int) n = Px.cameF (s.pi j) (s.po j) (s.pk j) n := by simp [cmF, hi]
    by_cases hf : Px.cameF (s.pi j) (s.po j) (s.pk j) n = 0
    · have e2 : cmS s (j : Int) n = s.setP j (s.pi j + n) (s.po j) (s.pk j) := by simp [cmS, e1, hf]
      rw [e1, e2, hf]
      exact mcame_c h j hj n hf
    · have e2 : cmS s (j : Int) n = s := by simp [cmS, e1, hf]
      rw [e1, e2]
      exact (mcame_b h j hj n hf).mono fun e w' ⟨h1, h2⟩ => ⟨h1, h.below h2, Off.of_below h2⟩

set_option maxRecDepth 100000 in
set_option maxHeartbeats 2000000 in
theorem msend_a {w : World} {B mb ib im pb pm : Nat} {iv : Value} {s : Mv} (h : MO w B mb ib im iv pb pm s) (i n : Int) (hi : ptB i = false) : Calls Tryd.prog 16 #[.pointer (some ⟨mb, 0, none⟩), .int .i64 i, .int .i64 n] w fun e w' => e = .returned (.iface 72 (.int .i64 1)) ∧ Below w.heap.size w w' := by
  go_enter Tryd.func16, Tryd.ntmps16
  go_wp2_with (go_at_call 27; refine (change_range mb i _ _ hi).mono ?_; rintro e w1 ⟨rfl, rfl⟩)
  go_ret
  exact ⟨rfl, (Below.refl _ _).alloc (Nat.le_refl _) _⟩
set_option maxRecDepth 100000 in
set_option maxHeartbeats 2000000 in
theorem msend_b {w : World} {B mb ib im pb pm : Nat} {iv : Value} {s : Mv} (h : MO w B mb ib im iv pb pm s) (j : Nat) (hj : j < 4) (n : Int) (hf : Px.sendF (s.pi j) (s.po j) (s.pk j) n ≠ 0) : Calls Tryd.prog 16 #[.pointer (some ⟨mb, 0, none⟩), .int .i64 (j : Int), .int .i64 n] w fun e w' => e = .returned (errV (Px.sendF (s.pi j) (s.po j) (s.pk j) n)) ∧ Below w.heap.size w w' := by
  have eg : ∀ args w, (callFunc 39 args).run Tryd.prog w = .ok (.enter 39 args) w := enters_of Tryd.func39 (by kernel_rfl) rfl
  have bel : Below w.heap.size w (w.alloc (.cells #[.int .i64 n] 3)) := (Below.refl _ _).alloc (Nat.le_refl _) _
  have hcon := sendC_calls (s.pi j) (s.po j) (s.pk j) n w.heap.size (w.alloc (.cells #[.int .i64 n] 3)) (by simp)
  rw [errV_f hf] at hcon ⊢
  have hch := change_no (h.below bel) j hj 39 #[.pointer (some ⟨w.heap.size, 0, none⟩)] eg _ _ _ _ hcon
  clear hcon
  generalize Px.sendF (s.pi j) (s.po j) (s.pk j) n = f at *
  go_enter Tryd.func16, Tryd.ntmps16
  go_wp2_with (go_at_call 27; refine hch.mono ?_; rintro e w1 ⟨rfl, hb1⟩)
  go_ret
  exact ⟨rfl, bel.trans (hb1.mono bel.size)⟩
set_option maxRecDepth 100000 in
set_option maxHeartbeats 2000000 in
theorem msend_c {w : World} {B mb ib im pb pm : Nat} {iv : Value} {s : Mv} (h : MO w B mb ib im iv pb pm s) (j : Nat) (hj : j < 4) (n : Int) (hf : Px.sendF (s.pi j) (s.po j) (s.pk j) n = 0) : Calls Tryd.prog 16 #[.pointer (some ⟨mb, 0, none⟩), .int .i64 (j : Int), .int .i64 n] w fun e w' => e = .returned .nilIface ∧ MO w' B mb ib im iv pb pm (s.setP j (s.pi j) (s.po j + n) (s.pk j)) ∧ Off (fun k => k = mb) w w' := by
  have eg : ∀ args w, (callFunc 39 args).run Tryd.prog w = .ok (.enter 39 args) w := enters_of Tryd.func39 (by kernel_rfl) rfl
  have bel : Below w.heap.size w (w.alloc (.cells #[.int .i64 n] 3)) := (Below.refl _ _).alloc (Nat.le_refl _) _
  have hcon := sendC_calls (s.pi j) (s.po j) (s.pk j) n w.heap.size (w.alloc (.cells #[.int .i64 n] 3)) (by simp)
  have hfl := send_flt hf
  simp only [Px.sendI, Px.sendO, Px.sendK, hf, if_true, errV_0] at hcon
  have hch := change_yes (h.below bel) j hj 39 #[.pointer (some ⟨w.heap.size, 0, none⟩)] eg _ _ _ hfl hcon
  clear hcon
  generalize s.setP j (s.pi j) (s.po j + n) (s.pk j) = s2 at *
  go_enter Tryd.func16, Tryd.ntmps16
  go_wp2_with (go_at_call 27; refine hch.mono ?_; rintro e w1 ⟨rfl, hM, hO⟩)
  go_ret
  exact ⟨rfl, hM, (Off.of_below bel).trans hO⟩
theorem msend_calls {w : World} {B mb ib im pb pm : Nat} {iv : Value} {s : Mv} (h : MO w B mb ib im iv pb pm s) (i n : Int) : Calls Tryd.prog 16 #[.pointer (some ⟨mb, 0, none⟩), .int .i64 i, .int .i64 n] w fun e w' => e = .returned (errV (sdF s i n)) ∧ MO w' B mb ib im iv pb pm (sdS s i n) ∧ Off (fun k => k = mb) w w' := by
  cases hi : ptB i with
  | false =>
    have e1 : sdF s i n = 1 := by simp [sdF, hi]
    have e2 : sdS s i n = s := by simp [sdS, e1]
    rw [e1, e2]
    exact (msend_a h i n hi).mono fun e w' ⟨h1, h2⟩ => ⟨h1, h.below h2, Off.of_below h2⟩
  | true =>
    obtain ⟨j, rfl, hj⟩ := ptB_yes hi
    have e1 : sdF s (j : Int) n = Px.sendF (s.pi j) (s.po j) (s.pk j) n := by simp [sdF, hi]
    by_cases hf : Px.sendF (s.pi j) (s.po j) (s.pk j) n = 0
    · have e2 : sdS s (j : Int) n = s.setP j (s.pi j) (s.po j + n) (s.pk j) := by simp [sdS, e1, hf]
      rw [e1, e2, hf]
      exact msend_c h j hj n hf
    · have e2 : sdS s (j : Int) n = s := by simp [sdS, e1, hf]
      rw [e1, e2]
      exact (msend_b h j hj n hf).mono fun e w' ⟨h1, h2⟩ => ⟨h1, h.below h2, Off.of_below h2⟩

set_option maxRecDepth 100000 in
set_option maxHeartbeats 2000000 in
/-- Path: none of that number. -/
theorem mpath_no (mb : Nat) (i : Int) (w : World) (hi : ptB i = false) : Calls Tryd.prog 21 #[.pointer (some ⟨mb, 0, none⟩), .int .i64 i] w fun e w' => e = .returned (.tuple #[Px.path 0 0 false, .iface 72 (.int .i64 1)]) ∧ Below w.heap.size w w' := by
  go_enter Tryd.func21, Tryd.ntmps21
  go_wp2_with (go_at_call 30; refine (isPath_calls i _).mono ?_; rintro e w1 ⟨rfl, rfl⟩; rw [hi])
  (try simp only [Exit.inBlock, Exit.then])
  refine bodyPost_ret (v := .tuple #[Px.path 0 0 false, .iface 72 (.int .i64 1)]) ?_ rfl ⟨rfl, ?_⟩
  · rw [results_cell_tmp rfl]; go_simp
  · have hbel := Below.refl w.heap.size w
    repeat (first | exact hbel | (refine Below.alloc ?_ (by simp <;> omega) _) | (refine Below.setCell ?_ (by simp <;> omega) _))

set_option maxRecDepth 100000 in
set_option maxHeartbeats 2000000 in
theorem mpath_yes {w : World} {B mb ib im pb pm : Nat} {iv : Value} {s : Mv} (h : MO w B mb ib im iv pb pm s) (j : Nat) (hj : j < 4) : Calls Tryd.prog 21 #[.pointer (some ⟨mb, 0, none⟩), .int .i64 (j : Int)] w fun e w' => e = .returned (.tuple #[Px.path (s.pi j) (s.po j) (s.pk j), .nilIface]) ∧ Below w.heap.size w w' := by
  have hp := ptB_of hj
  have h2 := h.below (Px.below_put w 0 0 false)
  have c0 := h2.ci j hj
  have c1 := h2.co j hj
  have c2 := h2.ck j hj
  obtain ⟨xl, x0, x1, x2, xf0, xf1, xf2⟩ := Px.Box.new w 0 0 false
  have hml := h.ltm
  have hne : w.heap.size ≠ mb := by omega
  have hne' : mb ≠ w.heap.size := by omega
  have hji : (j : Int) < 4 := by omega
  clear h h2
  generalize s.pi j = i0 at *
  generalize s.po j = o0 at *
  generalize s.pk j = k0 at *
  go_enter Tryd.func21, Tryd.ntmps21
  go_wp2_with (go_at_call 30; refine (isPath_calls (j : Int) _).mono ?_; rintro e w1 ⟨rfl, rfl⟩; rw [hp])
  (try simp only [Exit.inBlock, Exit.then])
  refine bodyPost_ret (v := .tuple #[Px.path i0 o0 k0, .nilIface]) ?_ rfl ⟨rfl, ?_⟩
  · rw [results_cell_tmp rfl]; go_simp
  · have hbel := Below.refl w.heap.size w
    repeat (first | exact hbel | (refine Below.alloc ?_ (by simp <;> omega) _) | (refine Below.setCell ?_ (by simp <;> omega) _))

set_option maxRecDepth 100000 in
set_option maxHeartbeats 2000000 in
/-- New: no such limit. -/
theorem mnew_no (L : Int) (w : World) (hL : Ix.limitB L = false) : Calls Tryd.prog 5 #[.int .i64 L] w fun e w' => e = .returned (.tuple #[.pointer none, .iface 72 (.int .i64 1)]) ∧ w = w' := by
  go_enter Tryd.func5, Tryd.ntmps5
  go_wp2_with (go_at_call 22; refine (Ix.new_no L _ hL).mono ?_; rintro e w1 ⟨rfl, rfl⟩)
  go_ret2
  exact ⟨rfl, rfl⟩
theorem obase {w : World} {B B' sb bm : Nat} {ls : List Ox.T} (h : Ox.Obj w B sb bm ls) (hB : B' ≤ B) : Ox.Obj w B' sb bm ls := ⟨h.inv, h.c0, h.map, Nat.le_trans hB h.hs, Nat.le_trans hB h.hm, h.ne⟩
theorem new_MO {w2 : World} {B ib im pb pm : Nat} {iv : Value} {L : Int} (hI : Ix.Obj w2 B ib im iv L [] []) (hO : Ox.Obj w2 B pb pm []) (ha : ∀ k, Ix.own ib im iv k → ¬ Ox.own pb pm k) :
    MO (w2.alloc (.cells #[.int .i64 0, .int .i64 0, .bool true, .int .i64 0, .int .i64 0, .bool false, .int .i64 0, .int .i64 0, .bool false, .int .i64 0, .int .i64 0, .bool false, .int .i64 0, .pointer (some ⟨ib, 0, none⟩), .pointer (some ⟨pb, 0, none⟩)] 71)) B w2.heap.size ib im iv pb pm (Mv.start L) := by
  have bel : Off (fun k => k = w2.heap.size) w2 (w2.alloc (.cells #[.int .i64 0, .int .i64 0, .bool true, .int .i64 0, .int .i64 0, .bool false, .int .i64 0, .int .i64 0, .bool false, .int .i64 0, .int .i64 0, .bool false, .int .i64 0, .pointer (some ⟨ib, 0, none⟩), .pointer (some ⟨pb, 0, none⟩)] 71)) := (Off.refl _ _).alloc _
  have l1 : ∀ k, Ix.own ib im iv k → k ≠ w2.heap.size := fun k hk => by have := hI.lt hk; omega
  have l2 : ∀ k, Ox.own pb pm k → k ≠ w2.heap.size := fun k hk => by have := hO.lt hk; omega
  refine ⟨Pok.start L, fun j hj => ?_, fun j hj => ?_, fun j hj => ?_, ?_, ?_, ?_, fun j hj => ?_, hI.off bel l1, hO.off bel l2, hI.le, fun k hk => ⟨l1 k hk, ha k hk⟩, l2⟩
  · match j, hj with
    | 0, _ => simp [Mv.start]
    | 1, _ => simp [Mv.start]
    | 2, _ => simp [Mv.start]
    | 3, _ => simp [Mv.start]
  · match j, hj with
    | 0, _ => simp [Mv.start]
    | 1, _ => simp [Mv.start]
    | 2, _ => simp [Mv.start]
    | 3, _ => simp [Mv.start]
  · match j, hj with
    | 0, _ => simp [Mv.start]
    | 1, _ => simp [Mv.start]
    | 2, _ => simp [Mv.start]
    | 3, _ => simp [Mv.start]
  · simp [Mv.start]
  · simp [Mv.start]
  · simp [Mv.start]
  · simp
set_option maxRecDepth 100000 in
set_option maxHeartbeats 2000000 in
theorem mnew_yes (L : Int) (w : World) (hL : Ix.limitB L = true) : Calls Tryd.prog 5 #[.int .i64 L] w fun e w' => ∃ mb ib im iv pb pm, e = .returned (.tuple #[.pointer (some ⟨mb, 0, none⟩), .nilIface]) ∧ MO w' w.heap.size mb ib im iv pb pm (Mv.start L) ∧ Below w.heap.size w w' := by
  go_enter Tryd.func5, Tryd.ntmps5
  go_wp2_with (first | (go_at_call 22; refine (Ix.new_yes L _ hL).mono ?_; rintro e w1 ⟨rfl, hI1, hb1⟩) | (go_at_call 23; refine (Ox.new_calls' _).mono ?_; rintro e w2 ⟨rfl, hO2, hb2⟩))
  have hI2 := hI1.below hb2
  have hMO := new_MO hI2 (obase hO2 hb1.size) (fun k hk ho => by have := hI1.lt hk; have := hO2.ge ho; omega)
  have hB2 : Below w.heap.size w w2 := hb1.trans (hb2.mono hb1.size)
  go_ret2
  exact ⟨_, _, _, _, _, _, rfl, hMO, hB2.alloc hB2.size _⟩
set_option maxRecDepth 100000 in
set_option maxHeartbeats 2000000 in
/-- Offer, what is refused. -/
theorem offer_no {w : World} {B mb ib im pb pm : Nat} {iv : Value} {s : Mv} (h : MO w B mb ib im iv pb pm s) (n f : Int) (hcon : Calls Tryd.prog 25 #[.pointer (some ⟨ib, 0, none⟩), .int .i64 n] w fun e w' => e = .returned (.tuple #[.agg #[.int .i64 0, .int .i64 0], .iface 72 (.int .i64 f)]) ∧ Below w.heap.size w w') :
    Calls Tryd.prog 7 #[.pointer (some ⟨mb, 0, none⟩), .int .i64 n] w fun e w' => e = .returned (.iface 72 (.int .i64 f)) ∧ Below w.heap.size w w' := by
  have c := h.cn
  clear h
  go_enter Tryd.func7, Tryd.ntmps7
  go_wp2_with (go_at_call 25; refine hcon.mono ?_; rintro e w1 ⟨rfl, hb1⟩)
  go_ret
  exact ⟨rfl, hb1.alloc hb1.size _⟩
set_option maxRecDepth 100000 in
set_option maxHeartbeats 2000000 in
theorem offer_yes {w : World} {B mb ib im pb pm : Nat} {iv : Value} {s : Mv} (h : MO w B mb ib im iv pb pm s) (n : Int) (hb : Ix.nameB n = true) (hn : n ∉ s.ns) (hf : Ix.fullB s.L s.ns s.ls = false) :
    Calls Tryd.prog 7 #[.pointer (some ⟨mb, 0, none⟩), .int .i64 n] w fun e w' => e = .returned .nilIface ∧ ∃ iv', MO w' B mb ib im iv' pb pm { s with ns := s.ns ++ [n], ls := s.ls ++ [((s.ns.length : Int), n)] } ∧ Off (Ix.own ib im iv) w w' ∧ (iv'.ownBlock = iv.ownBlock ∨ ∃ k, iv'.ownBlock = some k ∧ w.heap.size ≤ k) := by
  have c := h.cn
  have hcon := Ix.issue_yes h.ids n hb hn hf
  have HM : Hid (MO w B mb ib im iv pb pm s) := h
  clear h
  generalize hq : (s.ns.length : Int) = q at hcon
  go_enter Tryd.func7, Tryd.ntmps7
  go_wp2_with (go_at_call 25; refine hcon.mono ?_; rintro e w1 ⟨rfl, iv', hI, hO, hv⟩)
  go_ret
  subst hq
  exact ⟨rfl, iv', (HM.out.turnI hI hO hv).below ((Below.refl _ _).alloc (Nat.le_refl _) _), hO.alloc _, hv⟩
theorem offer_calls {w : World} {B mb ib im pb pm : Nat} {iv : Value} {s : Mv} (h : MO w B mb ib im iv pb pm s) (n : Int) : Calls Tryd.prog 7 #[.pointer (some ⟨mb, 0, none⟩), .int .i64 n] w fun e w' => e = .returned (errV (issF s n)) ∧ ∃ iv', MO w' B mb ib im iv' pb pm (offS s n) ∧ Off (Ix.own ib im iv) w w' ∧ (iv'.ownBlock = iv.ownBlock ∨ ∃ k, iv'.ownBlock = some k ∧ w.heap.size ≤ k) := by
  have no : ∀ f : Int, f ≠ 0 → issF s n = f → (Calls Tryd.prog 25 #[.pointer (some ⟨ib, 0, none⟩), .int .i64 n] w fun e w' => e = .returned (.tuple #[.agg #[.int .i64 0, .int .i64 0], .iface 72 (.int .i64 f)]) ∧ Below w.heap.size w w') → (Calls Tryd.prog 7 #[.pointer (some ⟨mb, 0, none⟩), .int .i64 n] w fun e w' => e = .returned (errV (issF s n)) ∧ ∃ iv', MO w' B mb ib im iv' pb pm (offS s n) ∧ Off (Ix.own ib im iv) w w' ∧ (iv'.ownBlock = iv.ownBlock ∨ ∃ k, iv'.ownBlock = some k ∧ w.heap.size ≤ k)) := fun f h0 hf hc => by
    have e2 : offS s n = s := by simp [offS, hf, h0]
    rw [e2, hf, errV_f h0]
    exact (offer_no h n f hc).mono fun e w' ⟨h1, h2⟩ => ⟨h1, iv, h.below h2, Off.of_below h2, .inl rfl⟩
  cases hb : Ix.nameB n with
  | false => exact no 1 (by omega) (by simp [issF, hb]) (Ix.issue_range h.ids n hb)
  | true =>
    by_cases hn : n ∈ s.ns
    · exact no 7 (by omega) (by simp [issF, hb, hn]) (Ix.issue_clash h.ids n hb hn)
    · cases hf : Ix.fullB s.L s.ns s.ls with
      | true => exact no 4 (by omega) (by simp [issF, hb, hn, hf]) (Ix.issue_full h.ids n hb hn hf)
      | false =>
        have e1 : issF s n = 0 := by simp [issF, hb, hn, hf]
        have e2 : offS s n = { s with ns := s.ns ++ [n], ls := s.ls ++ [((s.ns.length : Int), n)] } := by simp [offS, e1]
        rw [e1, e2]
        exact offer_yes h n hb hn hf
end Go.Proofs.YtpnblfabdioanaaDoor
