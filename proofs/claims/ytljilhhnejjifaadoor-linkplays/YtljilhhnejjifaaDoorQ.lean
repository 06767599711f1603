/- The program's link and the document's letters, side by side. -/
import Derived.Test.YtljilhhnejjifaaDoorE
import Derived.Test.YtljilhhnejjifaaDoorG
import Derived.Test.YtljilhhnejjifaaDoorS
import Derived.Deep.CutBlock
namespace Go.Proofs.YtljilhhnejjifaaDoor
open Go.RowKit Go.Lib Go.Sort
set_option linter.unusedVariables false
set_option linter.unusedSimpArgs false

/-- Both, apart, not below what was there when the law began; that is as it was. -/
structure Two (w wr : World) (sb mb : Nat) (v u : Value) (s m : List LR) : Prop where
  obj : Lnk wr 56 0 w.heap.size sb v s
  ref : Lnk wr 41 2 w.heap.size mb u m
  ap : ∀ k, own sb v k → ¬ own mb u k
  bel : Below w.heap.size w wr
section
variable {w wr wx : World} {sb mb : Nat} {v u : Value} {s m s' : List LR}
theorem Two.off {K : Nat → Prop} (h : Two w wr sb mb v u s m) (ho : Off K wr wx) (hK : ∀ k, K k → w.heap.size ≤ k ∧ ¬ own sb v k ∧ ¬ own mb u k) : Two w wx sb mb v u s m :=
  ⟨h.obj.off ho (fun k hk e => (hK k e).2.1 hk), h.ref.off ho (fun k hk e => (hK k e).2.2 hk), h.ap, h.bel.trans (ho.below (fun k hk => (hK k hk).1) h.obj.le)⟩
theorem Two.below (h : Two w wr sb mb v u s m) (hb : Below wr.heap.size wr wx) : Two w wx sb mb v u s m := h.off (Off.of_below (K := fun _ => False) hb) (fun _ e => e.elim)
theorem Two.objTurn (h : Two w wr sb mb v u s m) (ht : Turn wr wx 56 0 w.heap.size sb v s') : ∃ v', Two w wx sb mb v' u s' m ∧ ∀ k, own sb v' k → own sb v k ∨ wr.heap.size ≤ k := by
  obtain ⟨v', h1, h2, h3⟩ := ht
  refine ⟨v', ⟨h1, h.ref.off h2 (fun k hk e => h.ap k e hk), fun k hk e => ?_, h.bel.trans (h2.below (fun k hk => h.obj.ge hk) h.obj.le)⟩, fun k hk => ?_⟩
  · rcases hk with rfl | hk
    · exact h.ap _ (.inl rfl) e
    · rcases h3 k hk with e' | e'
      · exact h.ap k (.inr e') e
      · have := h.ref.lt e; omega
  · rcases hk with rfl | hk
    · exact .inl (.inl rfl)
    · exact (h3 k hk).imp .inr id
theorem Two.refTurn (h : Two w wr sb mb v u s m) (ht : Turn wr wx 41 2 w.heap.size mb u s') : ∃ u', Two w wx sb mb v u' s s' ∧ ∀ k, own mb u' k → own mb u k ∨ wr.heap.size ≤ k := by
  obtain ⟨u', h1, h2, h3⟩ := ht
  refine ⟨u', ⟨h.obj.off h2 (fun k hk e => h.ap k hk e), h1, fun k hk e => ?_, h.bel.trans (h2.below (fun k hk => h.ref.ge hk) h.obj.le)⟩, fun k hk => ?_⟩
  · rcases e with rfl | e
    · exact h.ap _ hk (.inl rfl)
    · rcases h3 k e with e' | e'
      · exact h.ap k hk (.inr e')
      · have := h.obj.lt hk; omega
  · rcases hk with rfl | hk
    · exact .inl (.inl rfl)
    · exact (h3 k hk).imp .inr id
end
/-- A box of two integers, that may be written. -/
structure Pair (w : World) (V : Nat) (ys : Nat → Int) : Prop where
  lt : V < w.heap.size
  c : ∀ i, i < 2 → w.cell? ⟨V, i, none⟩ = some (.int .i64 (ys i))
  f : ∀ i, i < 2 → w.frozen? ⟨V, i, none⟩ = false
theorem Pair.new (w : World) : Pair (w.alloc (.cells #[.int .i64 0, .int .i64 0] 38)) w.heap.size (fun _ => 0) := by
  refine ⟨by simp, fun i hi => ?_, fun i hi => ?_⟩
  · rcases (show i = 0 ∨ i = 1 by omega) with rfl | rfl <;> simp
  · rcases (show i = 0 ∨ i = 1 by omega) with rfl | rfl <;> simp
theorem Pair.off {K : Nat → Prop} {w w' : World} {V : Nat} {ys : Nat → Int} (h : Pair w V ys) (ho : Off K w w') (hK : ¬ K V) : Pair w' V ys :=
  ⟨Nat.lt_of_lt_of_le h.lt ho.size, fun i hi => ho.cell (h.c i hi) hK, fun i hi => (ho.frozen (p := ⟨V, i, none⟩) h.lt hK).trans (h.f i hi)⟩
theorem Pair.below {w w' : World} {V : Nat} {ys : Nat → Int} (h : Pair w V ys) (hb : Below w.heap.size w w') : Pair w' V ys := h.off (Off.of_below (K := fun _ => False) hb) id
def upd (ys : Nat → Int) (j : Nat) (z : Int) : Nat → Int := fun i => if i = j then z else ys i
theorem Pair.set {w : World} {V : Nat} {ys : Nat → Int} (h : Pair w V ys) {j : Nat} (hj : j < 2) (z : Int) : Pair (w.setCell ⟨V, j, none⟩ (.int .i64 z)) V (upd ys j z) := by
  refine ⟨by simpa using h.lt, fun i hi => ?_, fun i hi => by simpa using h.f i hi⟩
  by_cases e : i = j
  · subst e
    rw [World.cell?_setCell_same _ _ _ (h.c i hi)]
    simp [upd]
  · rw [World.cell?_setCell_other _ _ _ _ (by intro e'; injection e' with _ e' _; exact e (by first | exact e' | exact e'.symm))]
    rw [h.c i hi]
    simp [upd, e]

/-- The box lies beside both. -/
def Play (w wr : World) (sb mb V : Nat) (s m : List LR) (ys : Nat → Int) : Prop := ∃ v u, Two w wr sb mb v u s m ∧ Pair wr V ys ∧ (¬ own sb v V ∧ ¬ own mb u V) ∧ w.heap.size ≤ V
/-- Both, whatever their slices. -/
def Both (w wr : World) (sb mb : Nat) (s m : List LR) : Prop := ∃ v u, Two w wr sb mb v u s m
section
variable {w wr wx : World} {sb mb V : Nat} {v u : Value} {s m s' : List LR} {ys : Nat → Int}
theorem Both.bel (h : Both w wr sb mb s m) : Below w.heap.size w wr := by obtain ⟨v, u, h⟩ := h; exact h.bel
theorem Both.below (h : Both w wr sb mb s m) (hb : Below wr.heap.size wr wx) : Both w wx sb mb s m := by obtain ⟨v, u, h⟩ := h; exact ⟨v, u, h.below hb⟩
theorem Both.start (h : One w wr sb []) : Both w (wr.alloc (.cells #[.pointer none, .pointer none, .slice none 0 0] 37)) sb wr.heap.size [] [] := by
  obtain ⟨v, h1, h2⟩ := h
  have b : Below wr.heap.size wr (wr.alloc (.cells #[.pointer none, .pointer none, .slice none 0 0] 37)) := (Below.refl _ _).alloc (Nat.le_refl _) _
  refine ⟨v, .slice none 0 0, h1.below b, ⟨Inv.start, by simp, by simp, World.ownsRow_nil _ _ _ _, h2.size, fun k hk => by simp [Value.ownBlock] at hk⟩, fun k hk e => ?_, h2.trans (b.mono h2.size)⟩
  have := h1.lt hk
  rcases e with e | e
  · omega
  · simp [Value.ownBlock] at e
theorem Play.both (h : Play w wr sb mb V s m ys) : Both w wr sb mb s m := by obtain ⟨v, u, h, _⟩ := h; exact ⟨v, u, h⟩
theorem Play.bel (h : Play w wr sb mb V s m ys) : Below w.heap.size w wr := h.both.bel
theorem Play.box (h : Play w wr sb mb V s m ys) : Pair wr V ys := by obtain ⟨v, u, _, h, _⟩ := h; exact h
theorem Play.below (h : Play w wr sb mb V s m ys) (hb : Below wr.heap.size wr wx) : Play w wx sb mb V s m ys := by
  obtain ⟨v, u, hT, hX, hV, hge⟩ := h
  exact ⟨v, u, hT.below hb, hX.below hb, hV, hge⟩
theorem Play.drew (h : Play w wr sb mb V s m ys) : Play w wr.drew sb mb V s m ys := h.below (Below.refl _ _).drew
theorem Play.set (h : Play w wr sb mb V s m ys) {j : Nat} (hj : j < 2) (z : Int) : Play w (wr.setCell ⟨V, j, none⟩ (.int .i64 z)) sb mb V s m (upd ys j z) := by
  obtain ⟨v, u, hT, hX, hV, hge⟩ := h
  exact ⟨v, u, hT.off (K := fun k => k = V) ((Off.refl _ _).setCell (K := fun k => k = V) (a := ⟨V, j, none⟩) rfl (.int .i64 z)) (fun k e => by rw [e]; exact ⟨hge, hV⟩), hX.set hj z, hV, hge⟩
theorem Play.new (h : Both w wr sb mb s m) : Play w (wr.alloc (.cells #[.int .i64 0, .int .i64 0] 38)) sb mb wr.heap.size s m (fun _ => 0) := by
  obtain ⟨v, u, h⟩ := h
  exact ⟨v, u, h.below ((Below.refl _ _).alloc (Nat.le_refl _) _), Pair.new wr, ⟨fun e => by have := h.obj.lt e; omega, fun e => by have := h.ref.lt e; omega⟩, h.bel.size⟩
theorem Play.objTurn (hT : Two w wr sb mb v u s m) (hX : Pair wr V ys) (hV : ¬ own sb v V ∧ ¬ own mb u V) (hge : w.heap.size ≤ V) (ht : Turn wr wx 56 0 w.heap.size sb v s') : Play w wx sb mb V s' m ys := by
  obtain ⟨v', h1, h2⟩ := hT.objTurn ht
  obtain ⟨_, _, ho, _⟩ := ht
  exact ⟨v', u, h1, hX.off ho hV.1, ⟨fun e => by rcases h2 _ e with e | e; exact hV.1 e; have := hX.lt; omega, hV.2⟩, hge⟩
theorem Play.refTurn (hT : Two w wr sb mb v u s m) (hX : Pair wr V ys) (hV : ¬ own sb v V ∧ ¬ own mb u V) (hge : w.heap.size ≤ V) (ht : Turn wr wx 41 2 w.heap.size mb u s') : Play w wx sb mb V s s' ys := by
  obtain ⟨u', h1, h2⟩ := hT.refTurn ht
  obtain ⟨_, _, ho, _⟩ := ht
  exact ⟨v, u', h1, hX.off ho hV.2, ⟨hV.1, fun e => by rcases h2 _ e with e | e; exact hV.2 e; have := hX.lt; omega⟩, hge⟩
theorem send_play (h : Play w wr sb mb V s m ys) (q : Int) (b : ByteArray) (hb : b.size ≤ 140737488351232) : Calls Tryd.prog 7 #[.pointer (some ⟨sb, 0, none⟩), .int .i64 q, .string b] wr fun e w' => e = .returned (errV (sendF s q b)) ∧ Play w w' sb mb V (sendS s q b) m ys := by
  obtain ⟨v, u, hT, hX, hV, hge⟩ := h
  exact (send_calls hT.obj q b hb).mono fun e w' ⟨h1, h2⟩ => ⟨h1, Play.objTurn hT hX hV hge h2⟩
theorem give_play (h : Play w wr sb mb V s m ys) (i : Int) : Calls Tryd.prog 10 #[.pointer (some ⟨sb, 0, none⟩), .int .i64 i] wr fun e w' => e = .returned (.tuple #[.int .i64 (giveV s i).1, .string (giveV s i).2, errV (giveF s i)]) ∧ Play w w' sb mb V (giveS s i) m ys := by
  obtain ⟨v, u, hT, hX, hV, hge⟩ := h
  exact (give_calls hT.obj i).mono fun e w' ⟨h1, h2⟩ => ⟨h1, Play.objTurn hT hX hV hge h2⟩
theorem lose_play (h : Play w wr sb mb V s m ys) (i : Int) : Calls Tryd.prog 11 #[.pointer (some ⟨sb, 0, none⟩), .int .i64 i] wr fun e w' => e = .returned (errV (giveF s i)) ∧ Play w w' sb mb V (giveS s i) m ys := by
  obtain ⟨v, u, hT, hX, hV, hge⟩ := h
  exact (lose_calls hT.obj i).mono fun e w' ⟨h1, h2⟩ => ⟨h1, Play.objTurn hT hX hV hge h2⟩
theorem twice_play (h : Play w wr sb mb V s m ys) (i : Int) : Calls Tryd.prog 12 #[.pointer (some ⟨sb, 0, none⟩), .int .i64 i] wr fun e w' => e = .returned (errV (twF s i)) ∧ Play w w' sb mb V (twS s i) m ys := by
  obtain ⟨v, u, hT, hX, hV, hge⟩ := h
  exact (twice_calls hT.obj i).mono fun e w' ⟨h1, h2⟩ => ⟨h1, Play.objTurn hT hX hV hge h2⟩
theorem rout_play (h : Play w wr sb mb V s m ys) (i : Int) : Calls Tryd.prog 9 #[.pointer (some ⟨mb, 0, none⟩), .int .i64 i] wr fun e w' => e = .returned (.tuple #[.agg #[.int .i64 (giveV m i).1, .string (giveV m i).2], .int .i64 (giveF m i)]) ∧ Play w w' sb mb V s (giveS m i) ys := by
  obtain ⟨v, u, hT, hX, hV, hge⟩ := h
  exact (rout_calls hT.ref i).mono fun e w' ⟨h1, h2⟩ => ⟨h1, Play.refTurn hT hX hV hge h2⟩
theorem rtw_play (h : Play w wr sb mb V s m ys) (i : Int) : Calls Tryd.prog 13 #[.pointer (some ⟨mb, 0, none⟩), .int .i64 i] wr fun e w' => e = .returned (.int .i64 (twF m i)) ∧ Play w w' sb mb V s (twS m i) ys := by
  obtain ⟨v, u, hT, hX, hV, hge⟩ := h
  exact (rtw_calls hT.ref i).mono fun e w' ⟨h1, h2⟩ => ⟨h1, Play.refTurn hT hX hV hge h2⟩
theorem count_both (h : Both w wr sb mb s m) : Calls Tryd.prog 6 #[.pointer (some ⟨sb, 0, none⟩)] wr fun e w' => e = .returned (.int .i64 (s.length : Int)) ∧ w' = wr := by
  obtain ⟨v, u, h⟩ := h
  exact count_calls h.obj
end
end Go.Proofs.YtljilhhnejjifaaDoor
