/- What the laws of package run need. -/
import Derived.Test.YtdokgalidhmbbaaGreatDoorHZB
import Derived.Test.YtdokgalidhmbbaaGreatDoorHL
import Derived.Test.YtdokgalidhmbbaaGreatDoorHX
set_option linter.unusedVariables false
set_option linter.unusedSimpArgs false
set_option maxRecDepth 100000
set_option maxHeartbeats 8000000
namespace Go.Proofs.YtdokgalidhmbbaaGreatDoor
open Go.RowKit Go.Lib Go.Sort


/-- Where the slices of a Talk lie. -/
structure Tv where
  la : Value
  ca : Value
  lb : Value
  cb : Value
  v : Value
/-- The cells of a Talk. -/
def tcel (s : Tt) (u : Tv) (i : Nat) : Value := if i < 251 then ecell s.a u.la u.ca i else if i < 502 then ecell s.b u.lb u.cb (i - 251) else u.v
theorem tcel_a {s : Tt} {u : Tv} {i : Nat} (h : i < 251) : tcel s u i = ecell s.a u.la u.ca i := if_pos h
theorem tcel_b {s : Tt} {u : Tv} {i : Nat} (h0 : 251 ≤ i) (h : i < 502) : tcel s u i = ecell s.b u.lb u.cb (i - 251) := by
  unfold tcel
  rw [if_neg (by omega), if_pos h]
/-- The blocks of a Talk. -/
def OwnT (tb : Nat) (u : Tv) (k : Nat) : Prop := k = tb ∨ u.la.ownBlock = some k ∨ u.ca.ownBlock = some k ∨ u.lb.ownBlock = some k ∨ u.cb.ownBlock = some k ∨ u.v.ownBlock = some k
/-- A Talk in the block tb, its slices in u; none of them below the block B. -/
structure TO (w : World) (B tb : Nat) (u : Tv) (s : Tt) : Prop where
  ia : EInv s.a
  ib : EInv s.b
  il : Lk.Inv s.ls
  cl : ∀ i, i < 503 → w.cell? ⟨tb, i, none⟩ = some (tcel s u i)
  fz : ∀ i, w.frozen? ⟨tb, i, none⟩ = false
  hs : B ≤ tb
  la : w.ownsRow B 241 62 u.la s.a.ls.length (lds s.a.ls)
  ca : w.ownsRow B 143 2 u.ca s.a.cm.length (flat s.a.cm)
  lb : w.ownsRow B 241 62 u.lb s.b.ls.length (lds s.b.ls)
  cb : w.ownsRow B 143 2 u.cb s.b.cm.length (flat s.b.cm)
  lv : w.ownsRow B 212 2 u.v s.ls.length (Lk.flat s.ls)
  ap : u.la.ownBlock ≠ some tb ∧ u.ca.ownBlock ≠ some tb ∧ u.lb.ownBlock ≠ some tb ∧ u.cb.ownBlock ≠ some tb ∧ u.v.ownBlock ≠ some tb
  dl : ∀ k, u.la.ownBlock = some k → u.lb.ownBlock ≠ some k
  dc : ∀ k, u.ca.ownBlock = some k → u.cb.ownBlock ≠ some k
/-- Rows of different kinds do not lie in one block. -/
theorem rows_apart {w : World} {B B' n m t t' z z' : Nat} {u v : Value} {xs ys : List Value} (h : w.ownsRow B t z u n xs) (h' : w.ownsRow B' t' z' v m ys) (ht : t ≠ t') : ∀ k, v.ownBlock = some k → u.ownBlock ≠ some k := by
  intro k hk hu
  rcases h.2 with ⟨rfl, _⟩ | ⟨g, cap, cur, rfl, _, hg, _⟩
  · cases hu
  · rcases h'.2 with ⟨rfl, _⟩ | ⟨g', cap', cur', rfl, _, hg', _⟩
    · cases hk
    · obtain rfl : g = k := by simpa [Value.ownBlock] using hu
      obtain rfl : g' = g := by simpa [Value.ownBlock] using hk
      rw [hg] at hg'
      injection hg' with hg'
      injection hg' with _ e _
      exact ht e
section
variable {w w' : World} {B tb : Nat} {u : Tv} {s : Tt}
theorem TO.lt (h : TO w B tb u s) : tb < w.heap.size := World.block_lt_of_cell? w _ (h.cl 60 (by omega))
theorem TO.own_lt (h : TO w B tb u s) {k : Nat} (hk : OwnT tb u k) : B ≤ k ∧ k < w.heap.size := by
  rcases hk with rfl | hk | hk | hk | hk | hk
  · exact ⟨h.hs, h.lt⟩
  · exact h.la.lt k hk
  · exact h.ca.lt k hk
  · exact h.lb.lt k hk
  · exact h.cb.lt k hk
  · exact h.lv.lt k hk
theorem TO.le (h : TO w B tb u s) : B ≤ w.heap.size := by have := h.hs; have := h.lt; omega
theorem TO.off {K : Nat → Prop} (h : TO w B tb u s) (ho : Off K w w') (hK : ∀ k, OwnT tb u k → ¬ K k) : TO w' B tb u s :=
  ⟨h.ia, h.ib, h.il, fun i hi => ho.cell (h.cl i hi) (hK tb (.inl rfl)), fun i => (ho.frozen (p := ⟨tb, i, none⟩) h.lt (hK tb (.inl rfl))).trans (h.fz i), h.hs,
    ho.row h.la fun k hk => hK k (.inr (.inl hk)), ho.row h.ca fun k hk => hK k (.inr (.inr (.inl hk))), ho.row h.lb fun k hk => hK k (.inr (.inr (.inr (.inl hk)))), ho.row h.cb fun k hk => hK k (.inr (.inr (.inr (.inr (.inl hk))))), ho.row h.lv fun k hk => hK k (.inr (.inr (.inr (.inr (.inr hk))))), h.ap, h.dl, h.dc⟩
theorem TO.below (h : TO w B tb u s) (hb : Below w.heap.size w w') : TO w' B tb u s := h.off (Off.of_below (K := fun _ => False) hb) fun _ _ => id
/-- The one. -/
theorem TO.a (h : TO w B tb u s) : Ez.EP 0 (fun i => w.cell? ⟨tb, i, none⟩) w B tb u.la u.ca s.a :=
  ⟨h.ia, fun i hi => by rw [Nat.zero_add, h.cl i (by omega), tcel_a hi], h.fz, fun _ _ => rfl, h.hs, h.la, h.ca, h.ap.1, h.ap.2.1⟩
/-- The other one. -/
theorem TO.b (h : TO w B tb u s) : Ez.EP 251 (fun i => w.cell? ⟨tb, i, none⟩) w B tb u.lb u.cb s.b :=
  ⟨h.ib, fun i hi => by rw [h.cl _ (by omega), tcel_b (by omega) (by omega), show 251 + i - 251 = i by omega], h.fz, fun _ _ => rfl, h.hs, h.lb, h.cb, h.ap.2.2.1, h.ap.2.2.2.1⟩
/-- The letters. -/
theorem TO.l (h : TO w B tb u s) : Lk.Lnk (fun i => w.cell? ⟨tb, i, none⟩) w 212 502 B tb u.v s.ls :=
  ⟨h.il, h.cl 502 (by omega), h.fz 502, h.lv, h.hs, fun k hk e => h.ap.2.2.2.2 (by rw [← e]; exact hk), fun _ _ => rfl, h.fz⟩
end
/-- What a call leaves of a Talk, and all else. -/
def TTurn (w w' : World) (B tb : Nat) (u : Tv) (s : Tt) : Prop :=
  ∃ u', TO w' B tb u' s ∧ Off (OwnT tb u) w w' ∧ ∀ k, OwnT tb u' k → OwnT tb u k ∨ w.heap.size ≤ k
section
variable {w w' w2 : World} {B tb : Nat} {u : Tv} {s s' : Tt}
theorem TTurn.below (h : TO w B tb u s) (hb : Below w.heap.size w w') : TTurn w w' B tb u s := ⟨u, h.below hb, Off.of_below hb, fun _ hk => .inl hk⟩
theorem TTurn.same (h : TO w B tb u s) : TTurn w w B tb u s := ⟨u, h, Off.refl _ _, fun _ hk => .inl hk⟩
theorem TTurn.drew (h : TTurn w.drew w' B tb u s) : TTurn w w' B tb u s := by
  obtain ⟨u', h1, h2, h3⟩ := h
  exact ⟨u', h1, ((Off.refl _ w).drew).trans h2, h3⟩
theorem TTurn.trans {u1 : Tv} (h1 : TO w' B tb u1 s) (ho : Off (OwnT tb u) w w') (hk : ∀ k, OwnT tb u1 k → OwnT tb u k ∨ w.heap.size ≤ k) (h2 : TTurn w' w2 B tb u1 s') : TTurn w w2 B tb u s' := by
  obtain ⟨u2, o2, f2, k2⟩ := h2
  refine ⟨u2, o2, ?_, fun k h => ?_⟩
  · refine ⟨f2.os.trans ho.os, f2.tape.trans ho.tape, f2.output.trans ho.output, Nat.le_trans ho.size f2.size, fun k hl hn => ?_⟩
    rw [f2.block k (Nat.lt_of_lt_of_le hl ho.size) (fun e => ?_), ho.block k hl hn]
    rcases hk k e with h | h
    · exact hn h
    · omega
  · rcases k2 k h with h | h
    · exact hk k h
    · exact .inr (Nat.le_trans ho.size h)
/-- The one turned. -/
theorem TTurn.a {e : En} (h : TO w B tb u s) (ht : Ez.TurnP 0 (fun i => w.cell? ⟨tb, i, none⟩) w w' B tb u.la u.ca e) : TTurn w w' B tb u { s with a := e } := by
  obtain ⟨vl, vc, h1, h2, h3⟩ := ht
  have n1 : ∀ k, u.lb.ownBlock = some k → ¬ OwnE tb u.la u.ca k := fun k hk hn => by
    rcases hn with e | e | e
    · exact h.ap.2.2.1 (by rw [← e]; exact hk)
    · exact h.dl k e hk
    · exact rows_apart h.lb h.ca (by decide) k e hk
  have n2 : ∀ k, u.cb.ownBlock = some k → ¬ OwnE tb u.la u.ca k := fun k hk hn => by
    rcases hn with e | e | e
    · exact h.ap.2.2.2.1 (by rw [← e]; exact hk)
    · exact rows_apart h.cb h.la (by decide) k e hk
    · exact h.dc k e hk
  have n3 : ∀ k, u.v.ownBlock = some k → ¬ OwnE tb u.la u.ca k := fun k hk hn => by
    rcases hn with e | e | e
    · exact h.ap.2.2.2.2 (by rw [← e]; exact hk)
    · exact rows_apart h.lv h.la (by decide) k e hk
    · exact rows_apart h.lv h.ca (by decide) k e hk
  refine ⟨⟨vl, vc, u.lb, u.cb, u.v⟩, ⟨h1.inv, h.ib, h.il, fun i hi => ?_, h1.fz, h.hs, h1.ld, h1.cm, h2.row h.lb n1, h2.row h.cb n2, h2.row h.lv n3, ⟨h1.ap.1, h1.ap.2, h.ap.2.2⟩, fun k hk hk2 => ?_, fun k hk hk2 => ?_⟩, h2.mono fun k _ hk => ?_, fun k hk => ?_⟩
  · by_cases g : i < 251
    · have := h1.cl i g
      rw [Nat.zero_add] at this
      rw [this, tcel_a g]
    · rw [h1.rs i (by omega)]
      refine (h.cl i hi).trans (congrArg some ?_)
      unfold tcel
      rw [if_neg g, if_neg g]
  · rcases h3 k (.inr (.inl hk)) with h' | h'
    · exact n1 k hk2 h'
    · have := (h.lb.lt k hk2).2; omega
  · rcases h3 k (.inr (.inr hk)) with h' | h'
    · exact n2 k hk2 h'
    · have := (h.cb.lt k hk2).2; omega
  · rcases hk with e | e | e
    · exact .inl e
    · exact .inr (.inl e)
    · exact .inr (.inr (.inl e))
  · have f : OwnE tb vl vc k → OwnT tb u k ∨ w.heap.size ≤ k := fun hk => by
      rcases h3 k hk with (e | e | e) | h'
      · exact .inl (.inl e)
      · exact .inl (.inr (.inl e))
      · exact .inl (.inr (.inr (.inl e)))
      · exact .inr h'
    rcases hk with e | e | e | e
    · exact .inl (.inl e)
    · exact f (.inr (.inl e))
    · exact f (.inr (.inr e))
    · exact .inl (.inr (.inr (.inr e)))
/-- The other one turned. -/
theorem TTurn.b {e : En} (h : TO w B tb u s) (ht : Ez.TurnP 251 (fun i => w.cell? ⟨tb, i, none⟩) w w' B tb u.lb u.cb e) : TTurn w w' B tb u { s with b := e } := by
  obtain ⟨vl, vc, h1, h2, h3⟩ := ht
  have n1 : ∀ k, u.la.ownBlock = some k → ¬ OwnE tb u.lb u.cb k := fun k hk hn => by
    rcases hn with e | e | e
    · exact h.ap.1 (by rw [← e]; exact hk)
    · exact h.dl k hk e
    · exact rows_apart h.la h.cb (by decide) k e hk
  have n2 : ∀ k, u.ca.ownBlock = some k → ¬ OwnE tb u.lb u.cb k := fun k hk hn => by
    rcases hn with e | e | e
    · exact h.ap.2.1 (by rw [← e]; exact hk)
    · exact rows_apart h.ca h.lb (by decide) k e hk
    · exact h.dc k hk e
  have n3 : ∀ k, u.v.ownBlock = some k → ¬ OwnE tb u.lb u.cb k := fun k hk hn => by
    rcases hn with e | e | e
    · exact h.ap.2.2.2.2 (by rw [← e]; exact hk)
    · exact rows_apart h.lv h.lb (by decide) k e hk
    · exact rows_apart h.lv h.cb (by decide) k e hk
  refine ⟨⟨u.la, u.ca, vl, vc, u.v⟩, ⟨h.ia, h1.inv, h.il, fun i hi => ?_, h1.fz, h.hs, h2.row h.la n1, h2.row h.ca n2, h1.ld, h1.cm, h2.row h.lv n3, ⟨h.ap.1, h.ap.2.1, h1.ap.1, h1.ap.2, h.ap.2.2.2.2⟩, fun k hk hk2 => ?_, fun k hk hk2 => ?_⟩, h2.mono fun k _ hk => ?_, fun k hk => ?_⟩
  · by_cases g : 251 ≤ i ∧ i < 502
    · have := h1.cl (i - 251) (by omega)
      rw [show 251 + (i - 251) = i by omega] at this
      rw [this, tcel_b g.1 g.2]
    · rw [h1.rs i (by omega)]
      refine (h.cl i hi).trans (congrArg some ?_)
      unfold tcel
      by_cases g1 : i < 251
      · rw [if_pos g1, if_pos g1]
      · rw [if_neg g1, if_neg g1, if_neg (by omega), if_neg (by omega)]
  · rcases h3 k (.inr (.inl hk2)) with h' | h'
    · exact n1 k hk h'
    · have := (h.la.lt k hk).2; omega
  · rcases h3 k (.inr (.inr hk2)) with h' | h'
    · exact n2 k hk h'
    · have := (h.ca.lt k hk).2; omega
  · rcases hk with e | e | e
    · exact .inl e
    · exact .inr (.inr (.inr (.inl e)))
    · exact .inr (.inr (.inr (.inr (.inl e))))
  · have f : OwnE tb vl vc k → OwnT tb u k ∨ w.heap.size ≤ k := fun hk => by
      rcases h3 k hk with (e | e | e) | h'
      · exact .inl (.inl e)
      · exact .inl (.inr (.inr (.inr (.inl e))))
      · exact .inl (.inr (.inr (.inr (.inr (.inl e)))))
      · exact .inr h'
    rcases hk with e | e | e | e | e | e
    · exact .inl (.inl e)
    · exact .inl (.inr (.inl e))
    · exact .inl (.inr (.inr (.inl e)))
    · exact f (.inr (.inl e))
    · exact f (.inr (.inr e))
    · exact .inl (.inr (.inr (.inr (.inr (.inr e)))))
/-- The letters turned. -/
theorem TTurn.l {ls : List Lk.LR} (h : TO w B tb u s) (ht : Lk.Turn (fun i => w.cell? ⟨tb, i, none⟩) w w' 212 502 B tb u.v ls) : TTurn w w' B tb u { s with ls := ls } := by
  obtain ⟨v, h1, h2, h3⟩ := ht
  have nn : ∀ {t z n : Nat} {y : Value} {xs : List Value}, w.ownsRow B t z y n xs → t ≠ 212 → y.ownBlock ≠ some tb → ∀ k, y.ownBlock = some k → ¬ Lk.own tb u.v k := fun hr ht hy k hk hn => by
    rcases hn with e | e
    · exact hy (by rw [← e]; exact hk)
    · exact rows_apart hr h.lv ht k e hk
  refine ⟨⟨u.la, u.ca, u.lb, u.cb, v⟩, ⟨h.ia, h.ib, h1.inv, fun i hi => ?_, h1.rf, h.hs, h2.row h.la (nn h.la (by decide) h.ap.1), h2.row h.ca (nn h.ca (by decide) h.ap.2.1), h2.row h.lb (nn h.lb (by decide) h.ap.2.2.1), h2.row h.cb (nn h.cb (by decide) h.ap.2.2.2.1), h1.row, ⟨h.ap.1, h.ap.2.1, h.ap.2.2.1, h.ap.2.2.2.1, fun e => h1.nv tb e rfl⟩, h.dl, h.dc⟩, h2.mono fun k _ hk => ?_, fun k hk => ?_⟩
  · by_cases g : i = 502
    · subst g
      exact h1.c
    · rw [h1.rs i g]
      refine (h.cl i hi).trans (congrArg some ?_)
      unfold tcel
      by_cases g1 : i < 251
      · rw [if_pos g1, if_pos g1]
      · rw [if_neg g1, if_neg g1, if_pos (by omega), if_pos (by omega)]
  · rcases hk with e | e
    · exact .inl e
    · exact .inr (.inr (.inr (.inr (.inr e))))
  · rcases hk with e | e | e | e | e | e
    · exact .inl (.inl e)
    · exact .inl (.inr (.inl e))
    · exact .inl (.inr (.inr (.inl e)))
    · exact .inl (.inr (.inr (.inr (.inl e))))
    · exact .inl (.inr (.inr (.inr (.inr (.inl e)))))
    · rcases h3 k e with e | e
      · exact .inl (.inr (.inr (.inr (.inr (.inr e)))))
      · exact .inr e
end
end Go.Proofs.YtdokgalidhmbbaaGreatDoor
