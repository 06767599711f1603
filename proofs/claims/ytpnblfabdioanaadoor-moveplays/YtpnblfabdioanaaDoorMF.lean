/- A Mover, all that is its own, and what a call leaves of both. -/
import Derived.Test.YtpnblfabdioanaaDoorME
namespace Go.Proofs.YtpnblfabdioanaaDoor
open Go.RowKit Go.Lib Go.Sort
set_option linter.unusedVariables false
set_option linter.unusedSimpArgs false

theorem ibase {w : World} {B B' sb bm : Nat} {v : Value} {L : Int} {ns : List Int} {ls : List Ix.R} (h : Ix.Obj w B sb bm v L ns ls) (hB : B' ≤ B) : Ix.Obj w B' sb bm v L ns ls :=
  ⟨h.inv, h.c0, h.c1, h.c2, h.f2, h.map, Ix.own_mono h.row hB, Nat.le_trans hB h.hs, Nat.le_trans hB h.hm, h.ne, h.nv⟩
/-- A Mover; F is all that is its own. -/
def M (w : World) (B mb : Nat) (F : Nat → Prop) (s : Mv) : Prop := ∃ ib im iv pb pm, MO w B mb ib im iv pb pm s ∧ F = mown mb ib im iv pb pm
/-- It alone has turned, to s. -/
def Mt (w w' : World) (B mb : Nat) (F : Nat → Prop) (s : Mv) : Prop := ∃ F', M w' B mb F' s ∧ Off F w w' ∧ ∀ k, F' k → F k ∨ w.heap.size ≤ k
section
variable {w w' w0 : World} {B mb : Nat} {F : Nat → Prop} {s s' : Mv}
theorem M.lt (h : M w B mb F s) {k : Nat} (hk : F k) : k < w.heap.size := by
  obtain ⟨ib, im, iv, pb, pm, h, rfl⟩ := h
  exact h.lt hk
theorem M.ge (h : M w B mb F s) {k : Nat} (hk : F k) : B ≤ k := by
  obtain ⟨ib, im, iv, pb, pm, h, rfl⟩ := h
  exact h.ge hk
theorem M.pok (h : M w B mb F s) : Pok s := by
  obtain ⟨ib, im, iv, pb, pm, h, rfl⟩ := h
  exact h.ok
theorem M.inv (h : M w B mb F s) : Ix.Inv s.L s.ns s.ls := by
  obtain ⟨ib, im, iv, pb, pm, h, rfl⟩ := h
  exact h.ids.inv
theorem M.pinv (h : M w B mb F s) : Ox.Inv s.os := by
  obtain ⟨ib, im, iv, pb, pm, h, rfl⟩ := h
  exact h.prf.inv
theorem M.le (h : M w B mb F s) : B ≤ w.heap.size := by
  obtain ⟨ib, im, iv, pb, pm, h, rfl⟩ := h
  exact h.ids.le
theorem M.off {K : Nat → Prop} (h : M w B mb F s) (ho : Off K w w') (hK : ∀ k, F k → ¬ K k) : M w' B mb F s := by
  obtain ⟨ib, im, iv, pb, pm, h, rfl⟩ := h
  exact ⟨ib, im, iv, pb, pm, h.off ho hK, rfl⟩
theorem M.below (h : M w B mb F s) (hb : Below w.heap.size w w') : M w' B mb F s := h.off (Off.of_below (K := fun _ => False) hb) (fun _ _ => id)
theorem Mt.mk' {ib im pb pm : Nat} {iv iv' : Value} {K : Nat → Prop} (h : MO w' B mb ib im iv' pb pm s) (ho : Off K w w') (hK : ∀ k, K k → mown mb ib im iv pb pm k) (hv : iv'.ownBlock = iv.ownBlock ∨ ∃ k, iv'.ownBlock = some k ∧ w.heap.size ≤ k) : Mt w w' B mb (mown mb ib im iv pb pm) s := by
  refine ⟨_, ⟨ib, im, iv', pb, pm, h, rfl⟩, ho.mono (fun k _ hk => hK k hk), fun k hk => ?_⟩
  rcases hk with rfl | (rfl | rfl | hk) | hk
  · exact .inl (.inl rfl)
  · exact .inl (.inr (.inl (.inl rfl)))
  · exact .inl (.inr (.inl (.inr (.inl rfl))))
  · rcases hv with e | ⟨q, e, hq⟩
    · exact .inl (.inr (.inl (.inr (.inr (e ▸ hk)))))
    · have hkq : k = q := Option.some.inj (hk.symm.trans e)
      exact .inr (by omega)
  · exact .inl (.inr (.inr hk))
theorem m_offer (h : M w B mb F s) (n : Int) : Calls Tryd.prog 7 #[.pointer (some ⟨mb, 0, none⟩), .int .i64 n] w fun e w' => e = .returned (errV (issF s n)) ∧ Mt w w' B mb F (offS s n) := by
  obtain ⟨ib, im, iv, pb, pm, h, rfl⟩ := h
  exact (offer_calls h n).mono fun e w' ⟨h1, iv', h2, h3, h4⟩ => ⟨h1, Mt.mk' h2 h3 (fun k hk => .inr (.inl hk)) h4⟩
theorem m_came (h : M w B mb F s) (i n : Int) : Calls Tryd.prog 9 #[.pointer (some ⟨mb, 0, none⟩), .int .i64 i, .int .i64 n] w fun e w' => e = .returned (errV (cmF s i n)) ∧ Mt w w' B mb F (cmS s i n) := by
  obtain ⟨ib, im, iv, pb, pm, h, rfl⟩ := h
  exact (mcame_calls h i n).mono fun e w' ⟨h1, h2, h3⟩ => ⟨h1, Mt.mk' h2 h3 (fun k hk => .inl hk) (.inl rfl)⟩
theorem m_send (h : M w B mb F s) (i n : Int) : Calls Tryd.prog 16 #[.pointer (some ⟨mb, 0, none⟩), .int .i64 i, .int .i64 n] w fun e w' => e = .returned (errV (sdF s i n)) ∧ Mt w w' B mb F (sdS s i n) := by
  obtain ⟨ib, im, iv, pb, pm, h, rfl⟩ := h
  exact (msend_calls h i n).mono fun e w' ⟨h1, h2, h3⟩ => ⟨h1, Mt.mk' h2 h3 (fun k hk => .inl hk) (.inl rfl)⟩
theorem m_ask (h : M w B mb F s) (i n t : Int) : Calls Tryd.prog 10 #[.pointer (some ⟨mb, 0, none⟩), .int .i64 i, .int .i64 n, .int .i64 t] w fun e w' => e = .returned (errV (akF s i n t)) ∧ Mt w w' B mb F (akS s i n t) := by
  obtain ⟨ib, im, iv, pb, pm, h, rfl⟩ := h
  exact (mask_calls h i n t).mono fun e w' ⟨h1, h2, h3⟩ => ⟨h1, Mt.mk' h2 h3 (fun k hk => .inr (.inr hk)) (.inl rfl)⟩
theorem m_answer (h : M w B mb F s) (i n t l : Int) : Calls Tryd.prog 12 #[.pointer (some ⟨mb, 0, none⟩), .int .i64 i, .int .i64 n, .int .i64 t, .int .i64 l] w fun e w' => e = .returned (.tuple #[.bool (Ox.ansB s.os i n t l), errV (Ox.ansF i n t l)]) ∧ Mt w w' B mb F (anS s i n t l) := by
  obtain ⟨ib, im, iv, pb, pm, h, rfl⟩ := h
  exact (manswer_calls h i n t l).mono fun e w' ⟨h1, h2, h3⟩ => ⟨h1, Mt.mk' h2 h3 (fun k hk => hk.imp id .inr) (.inl rfl)⟩
theorem m_move (h : M w B mb F s) (i : Int) : Calls Tryd.prog 11 #[.pointer (some ⟨mb, 0, none⟩), .int .i64 i] w fun e w' => e = .returned (errV (mvF s i)) ∧ Mt w w' B mb F (mvS s i) := by
  obtain ⟨ib, im, iv, pb, pm, h, rfl⟩ := h
  exact (mmove_calls h i).mono fun e w' ⟨h1, iv', h2, h3, h4⟩ => ⟨h1, Mt.mk' h2 h3 (fun k hk => hk.imp id .inl) h4⟩
theorem m_where (h : M w B mb F s) : Calls Tryd.prog 6 #[.pointer (some ⟨mb, 0, none⟩)] w fun e w' => e = .returned (.tuple #[.int .i64 (whI s), .int .i64 (whQ s), errV (whF s)]) ∧ Below w.heap.size w w' := by
  obtain ⟨ib, im, iv, pb, pm, h, rfl⟩ := h
  exact mwhere_calls h
theorem m_path (h : M w B mb F s) (j : Nat) (hj : j < 4) : Calls Tryd.prog 21 #[.pointer (some ⟨mb, 0, none⟩), .int .i64 (j : Int)] w fun e w' => e = .returned (.tuple #[Px.path (s.pi j) (s.po j) (s.pk j), .nilIface]) ∧ Below w.heap.size w w' := by
  obtain ⟨ib, im, iv, pb, pm, h, rfl⟩ := h
  exact mpath_yes h j hj

/-- A Mover that a law made; what was there when it began is as it was. -/
def Mq (w0 w : World) (mb : Nat) (s : Mv) : Prop := ∃ F, M w w0.heap.size mb F s ∧ Below w0.heap.size w0 w
theorem Mq.bel (h : Mq w0 w mb s) : Below w0.heap.size w0 w := h.choose_spec.2
theorem Mq.below (h : Mq w0 w mb s) (hb : Below w.heap.size w w') : Mq w0 w' mb s := by
  obtain ⟨F, h1, h2⟩ := h
  exact ⟨F, h1.below hb, h2.trans (hb.mono h2.size)⟩
theorem Mq.turn (h : M w w0.heap.size mb F s) (hb : Below w0.heap.size w0 w) (ht : Mt w w' w0.heap.size mb F s') : Mq w0 w' mb s' := by
  obtain ⟨F', h1, h2, _⟩ := ht
  exact ⟨F', h1, hb.trans (h2.below (fun k hk => h.ge hk) h.le)⟩
theorem MO.base {ib im pb pm : Nat} {iv : Value} {B' : Nat} (h : MO w B mb ib im iv pb pm s) (hB : B' ≤ B) : MO w B' mb ib im iv pb pm s :=
  ⟨h.ok, h.ci, h.co, h.ck, h.ca, h.cn, h.cp, h.fr, ibase h.ids hB, obase h.prf hB, Nat.le_trans hB h.hm, h.a1, h.a2⟩
theorem q_new (L : Int) (hL : Ix.limitB L = true) (hb : Below w0.heap.size w0 w) : Calls Tryd.prog 5 #[.int .i64 L] w fun e w' => ∃ mb, e = .returned (.tuple #[.pointer (some ⟨mb, 0, none⟩), .nilIface]) ∧ Mq w0 w' mb (Mv.start L) ∧ w.heap.size ≤ mb :=
  (mnew_yes L w hL).mono fun e w' ⟨mb, ib, im, iv, pb, pm, h1, h2, h3⟩ => ⟨mb, h1, ⟨_, ⟨ib, im, iv, pb, pm, h2.base hb.size, rfl⟩, hb.trans (h3.mono hb.size)⟩, h2.hm⟩
theorem q_offer (h : Mq w0 w mb s) (n : Int) : Calls Tryd.prog 7 #[.pointer (some ⟨mb, 0, none⟩), .int .i64 n] w fun e w' => e = .returned (errV (issF s n)) ∧ Mq w0 w' mb (offS s n) := by
  obtain ⟨F, h1, h2⟩ := h
  exact (m_offer h1 n).mono fun e w' ⟨he, ht⟩ => ⟨he, Mq.turn h1 h2 ht⟩
theorem q_came (h : Mq w0 w mb s) (i n : Int) : Calls Tryd.prog 9 #[.pointer (some ⟨mb, 0, none⟩), .int .i64 i, .int .i64 n] w fun e w' => e = .returned (errV (cmF s i n)) ∧ Mq w0 w' mb (cmS s i n) := by
  obtain ⟨F, h1, h2⟩ := h
  exact (m_came h1 i n).mono fun e w' ⟨he, ht⟩ => ⟨he, Mq.turn h1 h2 ht⟩
theorem q_send (h : Mq w0 w mb s) (i n : Int) : Calls Tryd.prog 16 #[.pointer (some ⟨mb, 0, none⟩), .int .i64 i, .int .i64 n] w fun e w' => e = .returned (errV (sdF s i n)) ∧ Mq w0 w' mb (sdS s i n) := by
  obtain ⟨F, h1, h2⟩ := h
  exact (m_send h1 i n).mono fun e w' ⟨he, ht⟩ => ⟨he, Mq.turn h1 h2 ht⟩
theorem q_ask (h : Mq w0 w mb s) (i n t : Int) : Calls Tryd.prog 10 #[.pointer (some ⟨mb, 0, none⟩), .int .i64 i, .int .i64 n, .int .i64 t] w fun e w' => e = .returned (errV (akF s i n t)) ∧ Mq w0 w' mb (akS s i n t) := by
  obtain ⟨F, h1, h2⟩ := h
  exact (m_ask h1 i n t).mono fun e w' ⟨he, ht⟩ => ⟨he, Mq.turn h1 h2 ht⟩
theorem q_answer (h : Mq w0 w mb s) (i n t l : Int) : Calls Tryd.prog 12 #[.pointer (some ⟨mb, 0, none⟩), .int .i64 i, .int .i64 n, .int .i64 t, .int .i64 l] w fun e w' => e = .returned (.tuple #[.bool (Ox.ansB s.os i n t l), errV (Ox.ansF i n t l)]) ∧ Mq w0 w' mb (anS s i n t l) := by
  obtain ⟨F, h1, h2⟩ := h
  exact (m_answer h1 i n t l).mono fun e w' ⟨he, ht⟩ => ⟨he, Mq.turn h1 h2 ht⟩
theorem q_move (h : Mq w0 w mb s) (i : Int) : Calls Tryd.prog 11 #[.pointer (some ⟨mb, 0, none⟩), .int .i64 i] w fun e w' => e = .returned (errV (mvF s i)) ∧ Mq w0 w' mb (mvS s i) := by
  obtain ⟨F, h1, h2⟩ := h
  exact (m_move h1 i).mono fun e w' ⟨he, ht⟩ => ⟨he, Mq.turn h1 h2 ht⟩
theorem q_where (h : Mq w0 w mb s) : Calls Tryd.prog 6 #[.pointer (some ⟨mb, 0, none⟩)] w fun e w' => e = .returned (.tuple #[.int .i64 (whI s), .int .i64 (whQ s), errV (whF s)]) ∧ Mq w0 w' mb s := by
  have hq := h
  obtain ⟨F, h1, h2⟩ := h
  exact (m_where h1).mono fun e w' ⟨he, ht⟩ => ⟨he, hq.below ht⟩
end
end Go.Proofs.YtpnblfabdioanaaDoor
