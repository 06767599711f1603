/- What a step does to a Mover; which names were used; the Mover, the row of names used and the box of a step beside one another. -/
import Derived.Test.YtpnblfabdioanaaDoorMF
namespace Go.Proofs.YtpnblfabdioanaaDoor
open Go.RowKit Go.Lib Go.Sort
set_option linter.unusedVariables false
set_option linter.unusedSimpArgs false

/-- What a step does: it stays where it is, and the names are more, at their end; or it goes on with the next name to another path that is known. -/
def St (s s' : Mv) : Prop := (s'.wh = s.wh ∧ (s'.ls = s.ls ∨ ∃ y, s'.ls = s.ls ++ [y]) ∧ ∀ j, s.pk j = true → s'.pk j = true) ∨ (s'.wh ≠ s.wh ∧ ptB s'.wh = true ∧ s'.pk s'.wh.toNat = true ∧ 2 ≤ s.ls.length ∧ s'.ls = s.ls.tail)
theorem St.refl (s : Mv) : St s s := .inl ⟨rfl, .inl rfl, fun _ h => h⟩
theorem St.offer (s : Mv) (n : Int) : St s (offS s n) := by
  unfold offS
  split
  · exact .inl ⟨rfl, .inr ⟨_, rfl⟩, fun _ h => h⟩
  · exact St.refl s
theorem setP_pk (s : Mv) (j : Nat) (a b : Int) (k : Nat) (h : s.pk k = true) : (s.setP j a b (s.pk j)).pk k = true := by
  by_cases e : k = j
  · subst e; simpa [Mv.setP] using h
  · simpa [Mv.setP, e] using h
theorem St.came (s : Mv) (i n : Int) : St s (cmS s i n) := by
  unfold cmS
  split
  · exact .inl ⟨rfl, .inl rfl, fun k h => setP_pk s _ _ _ k h⟩
  · exact St.refl s
theorem St.send (s : Mv) (i n : Int) : St s (sdS s i n) := by
  unfold sdS
  split
  · exact .inl ⟨rfl, .inl rfl, fun k h => setP_pk s _ _ _ k h⟩
  · exact St.refl s
theorem St.ask (s : Mv) (i n t : Int) : St s (akS s i n t) := by
  unfold akS
  split
  · exact .inl ⟨rfl, .inl rfl, fun k h => h⟩
  · exact St.refl s
theorem St.answer (s : Mv) (i n t l : Int) : St s (anS s i n t l) := by
  unfold anS
  split
  · refine .inl ⟨rfl, .inl rfl, fun k h => ?_⟩
    simp only
    split
    · rfl
    · exact h
  · exact St.refl s
theorem St.move (s : Mv) (i : Int) : St s (mvS s i) := by
  unfold mvS
  split
  · rename_i h
    unfold mvF at h
    split at h
    · rename_i hp
      split at h
      · rename_i hk
        split at h
        · omega
        · rename_i hw
          split at h
          · omega
          · rename_i hl
            exact .inr ⟨hw, hp, hk, by omega, rfl⟩
      · omega
    · omega
  · exact St.refl s
/-- It is on a path that is known. -/
def Wk (s : Mv) : Prop := ∃ j : Nat, j < 4 ∧ s.wh = (j : Int) ∧ s.pk j = true
theorem Wk.start (L : Int) : Wk (Mv.start L) := ⟨0, by omega, rfl, rfl⟩
theorem Wk.step {s s' : Mv} (h : Wk s) (hs : St s s') : Wk s' := by
  obtain ⟨j, h1, h2, h3⟩ := h
  rcases hs with ⟨a, _, c⟩ | ⟨_, b, c, _⟩
  · exact ⟨j, h1, a.trans h2, c j h3⟩
  · obtain ⟨i, e, hi⟩ := ptB_yes b
    exact ⟨i, hi, e, by rw [e] at c; simpa using c⟩
/-- Which names were used, and the path it was on at last: -1, if it had no name yet. -/
def Jv (s : Mv) (us : Nat → Int) (la : Int) : Prop := Wk s ∧ ((la = -1 ∧ s.ls = [] ∧ ∀ i, us i = 0) ∨ (la = s.wh ∧ s.ls ≠ [] ∧ ∀ i : Nat, (Ix.at' s.ls 0).1 < (i : Int) → us i = 0))
def up1 (us : Nat → Int) (j : Nat) (z : Int) : Nat → Int := fun i => if i = j then z else us i
theorem Jv.start (L : Int) : Jv (Mv.start L) (fun _ => 0) (-1) := ⟨Wk.start L, .inl ⟨rfl, rfl, fun _ => rfl⟩⟩
theorem head_seq {L : Int} {ns : List Int} {ls : List Ix.R} (h : Ix.Inv L ns ls) (hl : ls ≠ []) : ∃ q : Nat, (Ix.at' ls 0).1 = (q : Int) ∧ q < 100 := by
  cases ls with
  | nil => exact absurd rfl hl
  | cons a l =>
    obtain ⟨j, h1, h2⟩ := h.was a (by simp)
    have := (List.getElem?_eq_some_iff.1 h2).1
    have := h.many
    exact ⟨j, by simpa [Ix.at'] using h1, by omega⟩
theorem Jv.step {s s' : Mv} {us : Nat → Int} {la : Int} (h : Jv s us la) (hs : St s s') (hr : s.ls.Pairwise (fun a b => a.1 < b.1)) (hi : Ix.Inv s'.L s'.ns s'.ls) :
    (s'.ls.length = 0 ∧ Jv s' us la) ∨ (s'.ls.length ≠ 0 ∧ ∃ j q : Nat, j < 4 ∧ s'.wh = (j : Int) ∧ s'.pk j = true ∧ (Ix.at' s'.ls 0).1 = (q : Int) ∧ q < 100 ∧ ((la = (j : Int) ∧ Jv s' us (j : Int)) ∨ ((j : Int) ≠ la ∧ us q = 0 ∧ Jv s' (up1 us q 1) (j : Int)))) := by
  have hW := h.1.step hs
  obtain ⟨j, hj, ej, kj⟩ := id hW
  by_cases hl : s'.ls = []
  · refine .inl ⟨by rw [hl]; rfl, hW, ?_⟩
    rcases h.2 with ⟨a, b, c⟩ | ⟨a, b, c⟩
    · exact .inl ⟨a, hl, c⟩
    · exfalso
      rcases hs with ⟨_, e | ⟨y, e⟩, _⟩ | ⟨_, _, _, d, e⟩
      · exact b (e ▸ hl)
      · rw [e] at hl; simp at hl
      · rw [hl] at e
        have : s.ls.tail.length = 0 := by rw [← e]; rfl
        rw [List.length_tail] at this
        omega
  · obtain ⟨q, eq, hq⟩ := head_seq hi hl
    have up : (∀ i : Nat, (q : Int) < (i : Int) → us i = 0) → ∀ i : Nat, (Ix.at' s'.ls 0).1 < (i : Int) → up1 us q 1 i = 0 := fun hu i hi => by
      rw [eq] at hi
      have : i ≠ q := by omega
      simp only [up1, if_neg this]
      exact hu i hi
    refine .inr ⟨fun e => hl (List.eq_nil_of_length_eq_zero e), j, q, hj, ej, kj, eq, hq, ?_⟩
    rcases h.2 with ⟨a, b, c⟩ | ⟨a, b, c⟩
    · exact .inr ⟨by omega, c q, hW, .inr ⟨ej.symm, hl, up (fun i _ => c i)⟩⟩
    · rcases hs with ⟨d, e, _⟩ | ⟨d, _, _, e, f⟩
      · have e0 : Ix.at' s'.ls 0 = Ix.at' s.ls 0 := by
          rcases e with e | ⟨y, e⟩
          · rw [e]
          · rw [e]
            cases hc : s.ls with
            | nil => exact absurd hc b
            | cons z zs => simp [Ix.at']
        exact .inl ⟨by rw [a, ← d, ej], hW, .inr ⟨ej.symm, hl, by rw [e0]; exact c⟩⟩
      · have lt : (Ix.at' s.ls 0).1 < (q : Int) := by
          rw [← eq, f]
          cases hc : s.ls with
          | nil => exact absurd hc b
          | cons z zs =>
            cases hd : zs with
            | nil => rw [hc, hd] at e; simp at e
            | cons y ys =>
              rw [hc, hd] at hr
              have := (List.pairwise_cons.1 hr).1 y (by simp)
              simpa [Ix.at'] using this
        exact .inr ⟨by rw [a, ← ej]; exact d, c q lt, hW, .inr ⟨ej.symm, hl, up (fun i hi => c i (by omega))⟩⟩

/-- The block V holds n integers. -/
structure Nts (n : Nat) (w : World) (V : Nat) (ys : Nat → Int) : Prop where
  lt : V < w.heap.size
  c : ∀ i, i < n → w.cell? ⟨V, i, none⟩ = some (.int .i64 (ys i))
  f : ∀ i, i < n → w.frozen? ⟨V, i, none⟩ = false
theorem Nts.new5 (w : World) : Nts 5 (w.alloc (.cells #[.int .i64 0, .int .i64 0, .int .i64 0, .int .i64 0, .int .i64 0] 49)) w.heap.size (fun _ => 0) := by
  refine ⟨by simp, fun i hi => ?_, fun i hi => ?_⟩
  · rcases (show i = 0 ∨ i = 1 ∨ i = 2 ∨ i = 3 ∨ i = 4 by omega) with rfl | rfl | rfl | rfl | rfl <;> simp
  · rcases (show i = 0 ∨ i = 1 ∨ i = 2 ∨ i = 3 ∨ i = 4 by omega) with rfl | rfl | rfl | rfl | rfl <;> simp
theorem Nts.off {n : Nat} {K : Nat → Prop} {w w' : World} {V : Nat} {ys : Nat → Int} (h : Nts n w V ys) (ho : Off K w w') (hK : ¬ K V) : Nts n w' V ys :=
  ⟨Nat.lt_of_lt_of_le h.lt ho.size, fun i hi => ho.cell (h.c i hi) hK, fun i hi => (ho.frozen (p := ⟨V, i, none⟩) h.lt hK).trans (h.f i hi)⟩
theorem Nts.below {n : Nat} {w w' : World} {V : Nat} {ys : Nat → Int} (h : Nts n w V ys) (hb : Below w.heap.size w w') : Nts n w' V ys := h.off (Off.of_below (K := fun _ => False) hb) id
theorem Nts.set {n : Nat} {w : World} {V : Nat} {ys : Nat → Int} (h : Nts n w V ys) {j : Nat} (hj : j < n) (z : Int) : Nts n (w.setCell ⟨V, j, none⟩ (.int .i64 z)) V (up1 ys j z) := by
  refine ⟨by simpa using h.lt, fun i hi => ?_, fun i hi => by simpa using h.f i hi⟩
  by_cases e : i = j
  · subst e
    rw [World.cell?_setCell_same _ _ _ (h.c i hi)]
    simp [up1]
  · rw [World.cell?_setCell_other _ _ _ _ (by intro e'; injection e' with _ e' _; exact e (by first | exact e' | exact e'.symm))]
    rw [h.c i hi]
    simp [up1, e]
/-- The Mover, and the row of names used, made since w. -/
structure Hd (w wr : World) (mb ub : Nat) (F : Nat → Prop) (s : Mv) (us : Nat → Int) : Prop where
  mv : M wr w.heap.size mb F s
  row : Nts 100 wr ub us
  nU : ¬ F ub
  ge : w.heap.size ≤ ub
  bel : Below w.heap.size w wr
/-- And the box of a step. -/
structure Hp (w wr : World) (mb ub V : Nat) (F : Nat → Prop) (s : Mv) (us ys : Nat → Int) : Prop where
  hd : Hd w wr mb ub F s us
  box : Nts 5 wr V ys
  nV : ¬ F V ∧ V ≠ ub
  ge : w.heap.size ≤ V
section
variable {w wr wx : World} {mb ub V : Nat} {F : Nat → Prop} {s s' : Mv} {us ys : Nat → Int}
theorem Hd.below (h : Hd w wr mb ub F s us) (hb : Below wr.heap.size wr wx) : Hd w wx mb ub F s us := ⟨h.mv.below hb, h.row.below hb, h.nU, h.ge, h.bel.trans (hb.mono h.bel.size)⟩
theorem Hp.below (h : Hp w wr mb ub V F s us ys) (hb : Below wr.heap.size wr wx) : Hp w wx mb ub V F s us ys := ⟨h.hd.below hb, h.box.below hb, h.nV, h.ge⟩
theorem Hp.new (h : Hd w wr mb ub F s us) : Hp w (wr.alloc (.cells #[.int .i64 0, .int .i64 0, .int .i64 0, .int .i64 0, .int .i64 0] 49)) mb ub wr.heap.size F s us (fun _ => 0) :=
  ⟨h.below ((Below.refl _ _).alloc (Nat.le_refl _) _), Nts.new5 wr, ⟨fun e => by have := h.mv.lt e; omega, fun e => by have := h.row.lt; omega⟩, h.bel.size⟩
theorem Hp.set (h : Hp w wr mb ub V F s us ys) {j : Nat} (hj : j < 5) (z : Int) : Hp w (wr.setCell ⟨V, j, none⟩ (.int .i64 z)) mb ub V F s us (up1 ys j z) := by
  have o : Off (fun k => k = V) wr (wr.setCell ⟨V, j, none⟩ (.int .i64 z)) := (Off.refl _ _).setCell (K := fun k => k = V) (a := ⟨V, j, none⟩) rfl _
  exact ⟨⟨h.hd.mv.off o (fun k hk e => h.nV.1 (e ▸ hk)), h.hd.row.off o (fun e => h.nV.2 e.symm), h.hd.nU, h.hd.ge, h.hd.bel.setCell h.ge _⟩, h.box.set hj z, h.nV, h.ge⟩
theorem Hd.use (h : Hd w wr mb ub F s us) {j : Nat} (hj : j < 100) (z : Int) : Hd w (wr.setCell ⟨ub, j, none⟩ (.int .i64 z)) mb ub F s (up1 us j z) := by
  have o : Off (fun k => k = ub) wr (wr.setCell ⟨ub, j, none⟩ (.int .i64 z)) := (Off.refl _ _).setCell (K := fun k => k = ub) (a := ⟨ub, j, none⟩) rfl _
  exact ⟨h.mv.off o (fun k hk e => h.nU (e ▸ hk)), h.row.set hj z, h.nU, h.ge, h.bel.setCell h.ge _⟩
theorem Hp.turn (h : Hp w wr mb ub V F s us ys) (ht : Mt wr wx w.heap.size mb F s') : ∃ F', Hp w wx mb ub V F' s' us ys := by
  obtain ⟨F', h1, h2, h3⟩ := ht
  have hu := h.hd.row.lt
  have hv := h.box.lt
  refine ⟨F', ⟨h1, h.hd.row.off h2 h.hd.nU, fun e => ?_, h.hd.ge, h.hd.bel.trans (h2.below (fun k hk => h.hd.mv.ge hk) h.hd.mv.le)⟩, h.box.off h2 h.nV.1, ⟨fun e => ?_, h.nV.2⟩, h.ge⟩
  · rcases h3 _ e with e | e
    · exact h.hd.nU e
    · omega
  · rcases h3 _ e with e | e
    · exact h.nV.1 e
    · omega
theorem h_offer (h : Hp w wr mb ub V F s us ys) (n : Int) : Calls Tryd.prog 7 #[.pointer (some ⟨mb, 0, none⟩), .int .i64 n] wr fun e w' => ∃ r, e = .returned r ∧ ∃ F' s', Hp w w' mb ub V F' s' us ys ∧ St s s' :=
  (m_offer h.hd.mv n).mono fun e w' ⟨he, ht⟩ => ⟨_, he, by obtain ⟨F', h'⟩ := h.turn ht; exact ⟨F', _, h', St.offer s n⟩⟩
theorem h_came (h : Hp w wr mb ub V F s us ys) (i n : Int) : Calls Tryd.prog 9 #[.pointer (some ⟨mb, 0, none⟩), .int .i64 i, .int .i64 n] wr fun e w' => ∃ r, e = .returned r ∧ ∃ F' s', Hp w w' mb ub V F' s' us ys ∧ St s s' :=
  (m_came h.hd.mv i n).mono fun e w' ⟨he, ht⟩ => ⟨_, he, by obtain ⟨F', h'⟩ := h.turn ht; exact ⟨F', _, h', St.came s i n⟩⟩
theorem h_send (h : Hp w wr mb ub V F s us ys) (i n : Int) : Calls Tryd.prog 16 #[.pointer (some ⟨mb, 0, none⟩), .int .i64 i, .int .i64 n] wr fun e w' => ∃ r, e = .returned r ∧ ∃ F' s', Hp w w' mb ub V F' s' us ys ∧ St s s' :=
  (m_send h.hd.mv i n).mono fun e w' ⟨he, ht⟩ => ⟨_, he, by obtain ⟨F', h'⟩ := h.turn ht; exact ⟨F', _, h', St.send s i n⟩⟩
theorem h_ask (h : Hp w wr mb ub V F s us ys) (i n t : Int) : Calls Tryd.prog 10 #[.pointer (some ⟨mb, 0, none⟩), .int .i64 i, .int .i64 n, .int .i64 t] wr fun e w' => ∃ r, e = .returned r ∧ ∃ F' s', Hp w w' mb ub V F' s' us ys ∧ St s s' :=
  (m_ask h.hd.mv i n t).mono fun e w' ⟨he, ht⟩ => ⟨_, he, by obtain ⟨F', h'⟩ := h.turn ht; exact ⟨F', _, h', St.ask s i n t⟩⟩
theorem h_answer (h : Hp w wr mb ub V F s us ys) (i n t l : Int) : Calls Tryd.prog 12 #[.pointer (some ⟨mb, 0, none⟩), .int .i64 i, .int .i64 n, .int .i64 t, .int .i64 l] wr fun e w' => ∃ r, e = .returned r ∧ ∃ F' s', Hp w w' mb ub V F' s' us ys ∧ St s s' :=
  (m_answer h.hd.mv i n t l).mono fun e w' ⟨he, ht⟩ => ⟨_, he, by obtain ⟨F', h'⟩ := h.turn ht; exact ⟨F', _, h', St.answer s i n t l⟩⟩
theorem h_move (h : Hp w wr mb ub V F s us ys) (i : Int) : Calls Tryd.prog 11 #[.pointer (some ⟨mb, 0, none⟩), .int .i64 i] wr fun e w' => ∃ r, e = .returned r ∧ ∃ F' s', Hp w w' mb ub V F' s' us ys ∧ St s s' :=
  (m_move h.hd.mv i).mono fun e w' ⟨he, ht⟩ => ⟨_, he, by obtain ⟨F', h'⟩ := h.turn ht; exact ⟨F', _, h', St.move s i⟩⟩
end
end Go.Proofs.YtpnblfabdioanaaDoor
