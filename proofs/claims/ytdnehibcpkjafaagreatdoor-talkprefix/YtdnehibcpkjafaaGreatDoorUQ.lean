/- What TalkPrefix works with: boxes of its own beside a Talk; what is written and read, step by step; its fact. -/
import Derived.Test.YtdnehibcpkjafaaGreatDoorUC
import Derived.Test.YtdnehibcpkjafaaGreatDoorGX
import Derived.Test.YtdnehibcpkjafaaGreatDoorAR
import Derived.Deep.LoopGhost
import Derived.Deep.DeepCutAuto
namespace Go.Proofs.YtdnehibcpkjafaaGreatDoor
open Go.RowKit Go.Lib Go.Sort
set_option linter.unusedVariables false
set_option linter.unusedSimpArgs false


/-- A Talk of the law's own, apart from the law's own boxes N. -/
def Tq (w wr : World) (tb : Nat) (N : Nat → Prop) (s : Tt) : Prop := ∃ u, TO wr w.heap.size tb u s ∧ Below w.heap.size w wr ∧ (∀ k, OwnT tb u k → ¬ N k) ∧ ∀ k, N k → w.heap.size ≤ k ∧ k < wr.heap.size
section
variable {w wr wx : World} {tb : Nat} {N N' : Nat → Prop} {s s' : Tt}
theorem Tq.turn {u : Tv} (h : TO wr w.heap.size tb u s) (hB : Below w.heap.size w wr) (hN : ∀ k, OwnT tb u k → ¬ N k) (hn : ∀ k, N k → w.heap.size ≤ k ∧ k < wr.heap.size) (ht : TTurn wr wx w.heap.size tb u s') : Tq w wx tb N s' ∧ Off (fun k => ¬ N k) wr wx := by
  obtain ⟨u', h1, h2, h3⟩ := ht
  refine ⟨⟨u', h1, hB.trans (h2.below (fun k hk => (h.own_lt hk).1) hB.size), fun k hk hk2 => ?_, fun k hk => ⟨(hn k hk).1, Nat.lt_of_lt_of_le (hn k hk).2 h2.size⟩⟩, h2.mono fun k _ hk => hN k hk⟩
  rcases h3 k hk with e | e
  · exact hN k e hk2
  · have := (hn k hk2).2; omega
theorem Tq.below (h : Tq w wr tb N s) (hb : Below wr.heap.size wr wx) : Tq w wx tb N s := by
  obtain ⟨u, h1, h2, h3, h4⟩ := h
  exact ⟨u, h1.below hb, h2.trans (hb.mono h2.size), h3, fun k hk => ⟨(h4 k hk).1, Nat.lt_of_lt_of_le (h4 k hk).2 hb.size⟩⟩
theorem Tq.bel (h : Tq w wr tb N s) : Below w.heap.size w wr := by
  obtain ⟨u, h1, h2, h3, h4⟩ := h
  exact h2
theorem Tq.set {b : Nat} (h : Tq w wr tb N s) (hb : N b) (ho : Off (fun k => k = b) wr wx) : Tq w wx tb N s := by
  obtain ⟨u, h1, h2, h3, h4⟩ := h
  exact ⟨u, h1.off ho fun k hk e => h3 k hk (by rw [e]; exact hb), h2.trans (ho.below (fun k hk => by rw [hk]; exact (h4 b hb).1) h2.size), h3, fun k hk => ⟨(h4 k hk).1, Nat.lt_of_lt_of_le (h4 k hk).2 ho.size⟩⟩
theorem Tq.less (h : Tq w wr tb N s) (hN : ∀ k, N' k → N k) : Tq w wr tb N' s := by
  obtain ⟨u, h1, h2, h3, h4⟩ := h
  exact ⟨u, h1, h2, fun k hk e => h3 k hk (hN k e), fun k hk => h4 k (hN k hk)⟩
/-- One box more. -/
theorem Tq.more (h : Tq w wr tb N s) (o : Go.Obj) (hN : ∀ k, N' k → N k ∨ k = wr.heap.size) : Tq w (wr.alloc o) tb N' s := by
  obtain ⟨u, h1, h2, h3, h4⟩ := h
  have hb : Below wr.heap.size wr (wr.alloc o) := (Below.refl _ _).alloc (Nat.le_refl _) _
  refine ⟨u, h1.below hb, h2.trans (hb.mono h2.size), fun k hk e => ?_, fun k hk => ?_⟩
  · rcases hN k e with e | e
    · exact h3 k hk e
    · have := (h1.own_lt hk).2; omega
  · rcases hN k hk with e | e
    · exact ⟨(h4 k e).1, Nat.lt_of_lt_of_le (h4 k e).2 hb.size⟩
    · rw [e]; exact ⟨h2.size, by simp⟩
end
/-- A box of two strings, that may be written. -/
structure Bx (w : World) (b : Nat) (x y : ByteArray) : Prop where
  lt : b < w.heap.size
  c0 : w.cell? ⟨b, 0, none⟩ = some (.string x)
  c1 : w.cell? ⟨b, 1, none⟩ = some (.string y)
  f0 : w.frozen? ⟨b, 0, none⟩ = false
  f1 : w.frozen? ⟨b, 1, none⟩ = false
theorem Bx.new (w : World) : Bx (w.alloc (.cells #[.string { data := #[] }, .string { data := #[] }] 33)) w.heap.size { data := #[] } { data := #[] } := by constructor <;> simp
theorem Bx.off {K : Nat → Prop} {w w' : World} {b : Nat} {x y : ByteArray} (h : Bx w b x y) (ho : Off K w w') (hK : ¬ K b) : Bx w' b x y :=
  ⟨Nat.lt_of_lt_of_le h.lt ho.size, ho.cell h.c0 hK, ho.cell h.c1 hK, (ho.frozen (p := ⟨b, 0, none⟩) h.lt hK).trans h.f0, (ho.frozen (p := ⟨b, 1, none⟩) h.lt hK).trans h.f1⟩
theorem Bx.below {w w' : World} {b : Nat} {x y : ByteArray} (h : Bx w b x y) (hb : Below w.heap.size w w') : Bx w' b x y := h.off (Off.of_below (K := fun _ => False) hb) id
theorem Bx.set0 {w : World} {b : Nat} {x y : ByteArray} (h : Bx w b x y) (z : ByteArray) : Bx (w.setCell ⟨b, 0, none⟩ (.string z)) b z y :=
  ⟨by simpa using h.lt, World.cell?_setCell_same _ _ _ h.c0, (World.cell?_setCell_other _ _ _ _ (by simp)).trans h.c1, by simpa using h.f0, by simpa using h.f1⟩
theorem Bx.set1 {w : World} {b : Nat} {x y : ByteArray} (h : Bx w b x y) (z : ByteArray) : Bx (w.setCell ⟨b, 1, none⟩ (.string z)) b x z :=
  ⟨by simpa using h.lt, (World.cell?_setCell_other _ _ _ _ (by simp)).trans h.c0, World.cell?_setCell_same _ _ _ h.c1, by simpa using h.f0, by simpa using h.f1⟩
/-- A box of three integers, that may be written. -/
structure Tri (w : World) (vb : Nat) (ys : Nat → Int) : Prop where
  lt : vb < w.heap.size
  c : ∀ i, i < 3 → w.cell? ⟨vb, i, none⟩ = some (.int .i64 (ys i))
  f : ∀ i, i < 3 → w.frozen? ⟨vb, i, none⟩ = false
theorem Tri.new (w : World) : Tri (w.alloc (.cells #[.int .i64 0, .int .i64 0, .int .i64 0] 34)) w.heap.size (fun _ => 0) := by
  refine ⟨by simp, fun i hi => ?_, fun i hi => ?_⟩
  · rcases (show i = 0 ∨ i = 1 ∨ i = 2 by omega) with rfl | rfl | rfl <;> simp
  · rcases (show i = 0 ∨ i = 1 ∨ i = 2 by omega) with rfl | rfl | rfl <;> simp
theorem Tri.off {K : Nat → Prop} {w w' : World} {vb : Nat} {ys : Nat → Int} (h : Tri w vb ys) (ho : Off K w w') (hK : ¬ K vb) : Tri w' vb ys :=
  ⟨Nat.lt_of_lt_of_le h.lt ho.size, fun i hi => ho.cell (h.c i hi) hK, fun i hi => (ho.frozen (p := ⟨vb, i, none⟩) h.lt hK).trans (h.f i hi)⟩
theorem Tri.below {w w' : World} {vb : Nat} {ys : Nat → Int} (h : Tri w vb ys) (hb : Below w.heap.size w w') : Tri w' vb ys := h.off (Off.of_below (K := fun _ => False) hb) id
def upd (ys : Nat → Int) (j : Nat) (z : Int) : Nat → Int := fun i => if i = j then z else ys i
theorem Tri.set {w : World} {vb : Nat} {ys : Nat → Int} (h : Tri w vb ys) {j : Nat} (hj : j < 3) (z : Int) : Tri (w.setCell ⟨vb, j, none⟩ (.int .i64 z)) vb (upd ys j z) := by
  refine ⟨by simpa using h.lt, fun i hi => ?_, fun i hi => by simpa using h.f i hi⟩
  by_cases e : i = j
  · subst e
    rw [World.cell?_setCell_same _ _ _ (h.c i hi)]
    simp [upd]
  · rw [World.cell?_setCell_other _ _ _ _ (by intro e'; injection e' with _ e' _; exact e (by first | exact e' | exact e'.symm))]
    rw [h.c i hi]
    simp [upd, e]
/-- A Talk, and what was written and read, beside it. -/
structure Py (w wr : World) (tb wb gb : Nat) (s : Tt) (x0 x1 y0 y1 : ByteArray) : Prop where
  t : Tq w wr tb (fun k => k = wb ∨ k = gb) s
  bw : Bx wr wb x0 x1
  bg : Bx wr gb y0 y1
  ne : wb ≠ gb
/-- And a step's three integers. -/
structure Pz (w wr : World) (tb wb gb vb : Nat) (s : Tt) (x0 x1 y0 y1 : ByteArray) (ys : Nat → Int) : Prop where
  t : Tq w wr tb (fun k => k = wb ∨ k = gb ∨ k = vb) s
  bw : Bx wr wb x0 x1
  bg : Bx wr gb y0 y1
  bv : Tri wr vb ys
  ne : wb ≠ gb
  nv : vb ≠ wb ∧ vb ≠ gb
section
variable {w wr wx : World} {tb wb gb vb : Nat} {s s' : Tt} {x0 x1 y0 y1 : ByteArray} {ys : Nat → Int}
theorem Py.turn (h : Py w wr tb wb gb s x0 x1 y0 y1) (ht : Tq w wx tb (fun k => k = wb ∨ k = gb) s' ∧ Off (fun k => ¬ (fun k => k = wb ∨ k = gb) k) wr wx) : Py w wx tb wb gb s' x0 x1 y0 y1 :=
  ⟨ht.1, h.bw.off ht.2 (fun e => e (.inl rfl)), h.bg.off ht.2 (fun e => e (.inr rfl)), h.ne⟩
theorem Pz.turn (h : Pz w wr tb wb gb vb s x0 x1 y0 y1 ys) (ht : Tq w wx tb (fun k => k = wb ∨ k = gb ∨ k = vb) s' ∧ Off (fun k => ¬ (fun k => k = wb ∨ k = gb ∨ k = vb) k) wr wx) : Pz w wx tb wb gb vb s' x0 x1 y0 y1 ys :=
  ⟨ht.1, h.bw.off ht.2 (fun e => e (.inl rfl)), h.bg.off ht.2 (fun e => e (.inr (.inl rfl))), h.bv.off ht.2 (fun e => e (.inr (.inr rfl))), h.ne, h.nv⟩
theorem Py.below (h : Py w wr tb wb gb s x0 x1 y0 y1) (hb : Below wr.heap.size wr wx) : Py w wx tb wb gb s x0 x1 y0 y1 := ⟨h.t.below hb, h.bw.below hb, h.bg.below hb, h.ne⟩
theorem Pz.below (h : Pz w wr tb wb gb vb s x0 x1 y0 y1 ys) (hb : Below wr.heap.size wr wx) : Pz w wx tb wb gb vb s x0 x1 y0 y1 ys := ⟨h.t.below hb, h.bw.below hb, h.bg.below hb, h.bv.below hb, h.ne, h.nv⟩
theorem Py.drew (h : Py w wr tb wb gb s x0 x1 y0 y1) : Py w wr.drew tb wb gb s x0 x1 y0 y1 := h.below (Below.refl _ _).drew
theorem Pz.drew (h : Pz w wr tb wb gb vb s x0 x1 y0 y1 ys) : Pz w wr.drew tb wb gb vb s x0 x1 y0 y1 ys := h.below (Below.refl _ _).drew
theorem Py.bel (h : Py w wr tb wb gb s x0 x1 y0 y1) : Below w.heap.size w wr := h.t.bel
theorem Pz.bel (h : Pz w wr tb wb gb vb s x0 x1 y0 y1 ys) : Below w.heap.size w wr := h.t.bel
theorem Pz.py (h : Pz w wr tb wb gb vb s x0 x1 y0 y1 ys) : Py w wr tb wb gb s x0 x1 y0 y1 := ⟨h.t.less fun k hk => hk.imp id .inl, h.bw, h.bg, h.ne⟩
theorem Py.new (h : Py w wr tb wb gb s x0 x1 y0 y1) : Pz w (wr.alloc (.cells #[.int .i64 0, .int .i64 0, .int .i64 0] 34)) tb wb gb wr.heap.size s x0 x1 y0 y1 (fun _ => 0) := by
  have hb : Below wr.heap.size wr (wr.alloc (.cells #[.int .i64 0, .int .i64 0, .int .i64 0] 34)) := (Below.refl _ _).alloc (Nat.le_refl _) _
  exact ⟨h.t.more _ (fun k hk => by rcases hk with e | e | e; exact .inl (.inl e); exact .inl (.inr e); exact .inr e), h.bw.below hb, h.bg.below hb, Tri.new wr, h.ne, by have := h.bw.lt; omega, by have := h.bg.lt; omega⟩
theorem Pz.set (h : Pz w wr tb wb gb vb s x0 x1 y0 y1 ys) {j : Nat} (hj : j < 3) (z : Int) : Pz w (wr.setCell ⟨vb, j, none⟩ (.int .i64 z)) tb wb gb vb s x0 x1 y0 y1 (upd ys j z) := by
  have ho : Off (fun k => k = vb) wr (wr.setCell ⟨vb, j, none⟩ (.int .i64 z)) := (Off.refl _ _).setCell (K := fun k => k = vb) (a := ⟨vb, j, none⟩) rfl _
  exact ⟨h.t.set (.inr (.inr rfl)) ho, h.bw.off ho (fun e => h.nv.1 e.symm), h.bg.off ho (fun e => h.nv.2 e.symm), h.bv.set hj z, h.ne, h.nv⟩
theorem Py.start {n : Int} {w1 : World} (h : TO wr w1.heap.size tb nilV (newT n)) (hB : Below w.heap.size w w1) (hb : Below w1.heap.size w1 wr) : Py w ((wr.alloc (.cells #[.string { data := #[] }, .string { data := #[] }] 33)).alloc (.cells #[.string { data := #[] }, .string { data := #[] }] 33)) tb wr.heap.size (wr.heap.size + 1) (newT n) { data := #[] } { data := #[] } { data := #[] } { data := #[] } := by
  have h0 : Tq w wr tb (fun _ => False) (newT n) := ⟨nilV, h.base hB.size, hB.trans (hb.mono hB.size), fun _ _ e => e, fun k e => e.elim⟩
  have h1 : Tq w (wr.alloc (.cells #[.string { data := #[] }, .string { data := #[] }] 33)) tb (fun k => k = wr.heap.size) (newT n) := h0.more _ (fun k e => .inr e)
  have h2 : Tq w ((wr.alloc (.cells #[.string { data := #[] }, .string { data := #[] }] 33)).alloc (.cells #[.string { data := #[] }, .string { data := #[] }] 33)) tb (fun k => k = wr.heap.size ∨ k = wr.heap.size + 1) (newT n) := h1.more _ (fun k e => e.imp id (fun e => by rw [e]; simp))
  have hb2 : Below (wr.alloc (.cells #[.string { data := #[] }, .string { data := #[] }] 33)).heap.size (wr.alloc (.cells #[.string { data := #[] }, .string { data := #[] }] 33)) ((wr.alloc (.cells #[.string { data := #[] }, .string { data := #[] }] 33)).alloc (.cells #[.string { data := #[] }, .string { data := #[] }] 33)) := (Below.refl _ _).alloc (Nat.le_refl _) _
  have hg := Bx.new (wr.alloc (.cells #[.string { data := #[] }, .string { data := #[] }] 33))
  rw [World.size_alloc] at hg
  exact ⟨h2, (Bx.new wr).below hb2, hg, by omega⟩
theorem py_read (h : Py w wr tb wb gb s x0 x1 y0 y1) (who n : Int) : Calls Tryz.prog 10 #[.pointer (some ⟨tb, 0, none⟩), .int .i64 who, .int .i64 n] wr fun e w' => e = .returned (.tuple #[.string (tReadB s who n), errV (tReadF s who n)]) ∧ Py w w' tb wb gb (tReadS s who n) x0 x1 y0 y1 := by
  have h0 := h
  obtain ⟨⟨u, hO, hB, hN, hn⟩, _⟩ := h
  exact (tread_calls hO who n).mono fun e w' ⟨a, b⟩ => ⟨a, Py.turn h0 (Tq.turn hO hB hN hn b)⟩
theorem py_send (h : Py w wr tb wb gb s x0 x1 y0 y1) (who : Int) (hm : Lk.endB who = true → makeF (s.who who) = 0) (hV : V.Forms w ∧ Cnts w) : Calls Tryz.prog 8 #[.pointer (some ⟨tb, 0, none⟩), .int .i64 who] wr fun e w' => e = .returned (errV (tSendF s who)) ∧ Py w w' tb wb gb (tSendS s who) x0 x1 y0 y1 := by
  have h0 := h
  obtain ⟨⟨u, hO, hB, hN, hn⟩, _⟩ := h
  exact (tsend_calls hO who hm (hV.1.below hB) (hV.2.below hB)).mono fun e w' ⟨a, b⟩ => ⟨a, Py.turn h0 (Tq.turn hO hB hN hn b)⟩
theorem py_come (h : Py w wr tb wb gb s x0 x1 y0 y1) (i : Int) (hV : V.Forms w ∧ Cnts w) : Calls Tryz.prog 9 #[.pointer (some ⟨tb, 0, none⟩), .int .i64 i] wr fun e w' => e = .returned (errV (tComeF s i)) ∧ Py w w' tb wb gb (tComeS s i) x0 x1 y0 y1 := by
  have h0 := h
  obtain ⟨⟨u, hO, hB, hN, hn⟩, _⟩ := h
  exact (tcome_calls hO hV hB i).mono fun e w' ⟨a, b⟩ => ⟨a, Py.turn h0 (Tq.turn hO hB hN hn b)⟩
theorem py_lose (h : Py w wr tb wb gb s x0 x1 y0 y1) (i : Int) : Calls Tryz.prog 11 #[.pointer (some ⟨tb, 0, none⟩), .int .i64 i] wr fun e w' => e = .returned (errV (Lk.giveF s.ls i)) ∧ Py w w' tb wb gb (tLoseS s i) x0 x1 y0 y1 := by
  have h0 := h
  obtain ⟨⟨u, hO, hB, hN, hn⟩, _⟩ := h
  exact (tlose_calls hO i).mono fun e w' ⟨a, b⟩ => ⟨a, Py.turn h0 (Tq.turn hO hB hN hn b)⟩
theorem pz_write (h : Pz w wr tb wb gb vb s x0 x1 y0 y1 ys) (who : Int) (d : ByteArray) (hl : d.size ≤ 140737488351232) : Calls Tryz.prog 7 #[.pointer (some ⟨tb, 0, none⟩), .int .i64 who, .string d] wr fun e w' => e = .returned (errV (tWriteF s who d)) ∧ Pz w w' tb wb gb vb (tWriteS s who d) x0 x1 y0 y1 ys := by
  have h0 := h
  obtain ⟨⟨u, hO, hB, hN, hn⟩, _⟩ := h
  exact (twrite_calls hO who d hl).mono fun e w' ⟨a, b⟩ => ⟨a, Pz.turn h0 (Tq.turn hO hB hN hn b)⟩
theorem pz_read (h : Pz w wr tb wb gb vb s x0 x1 y0 y1 ys) (who n : Int) : Calls Tryz.prog 10 #[.pointer (some ⟨tb, 0, none⟩), .int .i64 who, .int .i64 n] wr fun e w' => e = .returned (.tuple #[.string (tReadB s who n), errV (tReadF s who n)]) ∧ Pz w w' tb wb gb vb (tReadS s who n) x0 x1 y0 y1 ys := by
  have h0 := h
  obtain ⟨⟨u, hO, hB, hN, hn⟩, _⟩ := h
  exact (tread_calls hO who n).mono fun e w' ⟨a, b⟩ => ⟨a, Pz.turn h0 (Tq.turn hO hB hN hn b)⟩
theorem pz_send (h : Pz w wr tb wb gb vb s x0 x1 y0 y1 ys) (who : Int) (hm : Lk.endB who = true → makeF (s.who who) = 0) (hV : V.Forms w ∧ Cnts w) : Calls Tryz.prog 8 #[.pointer (some ⟨tb, 0, none⟩), .int .i64 who] wr fun e w' => e = .returned (errV (tSendF s who)) ∧ Pz w w' tb wb gb vb (tSendS s who) x0 x1 y0 y1 ys := by
  have h0 := h
  obtain ⟨⟨u, hO, hB, hN, hn⟩, _⟩ := h
  exact (tsend_calls hO who hm (hV.1.below hB) (hV.2.below hB)).mono fun e w' ⟨a, b⟩ => ⟨a, Pz.turn h0 (Tq.turn hO hB hN hn b)⟩
theorem pz_come (h : Pz w wr tb wb gb vb s x0 x1 y0 y1 ys) (i : Int) (hV : V.Forms w ∧ Cnts w) : Calls Tryz.prog 9 #[.pointer (some ⟨tb, 0, none⟩), .int .i64 i] wr fun e w' => e = .returned (errV (tComeF s i)) ∧ Pz w w' tb wb gb vb (tComeS s i) x0 x1 y0 y1 ys := by
  have h0 := h
  obtain ⟨⟨u, hO, hB, hN, hn⟩, _⟩ := h
  exact (tcome_calls hO hV hB i).mono fun e w' ⟨a, b⟩ => ⟨a, Pz.turn h0 (Tq.turn hO hB hN hn b)⟩
theorem pz_lose (h : Pz w wr tb wb gb vb s x0 x1 y0 y1 ys) (i : Int) : Calls Tryz.prog 11 #[.pointer (some ⟨tb, 0, none⟩), .int .i64 i] wr fun e w' => e = .returned (errV (Lk.giveF s.ls i)) ∧ Pz w w' tb wb gb vb (tLoseS s i) x0 x1 y0 y1 ys := by
  have h0 := h
  obtain ⟨⟨u, hO, hB, hN, hn⟩, _⟩ := h
  exact (tlose_calls hO i).mono fun e w' ⟨a, b⟩ => ⟨a, Pz.turn h0 (Tq.turn hO hB hN hn b)⟩
theorem pz_twice (h : Pz w wr tb wb gb vb s x0 x1 y0 y1 ys) (i : Int) : Calls Tryz.prog 12 #[.pointer (some ⟨tb, 0, none⟩), .int .i64 i] wr fun e w' => e = .returned (errV (Lk.twF s.ls i)) ∧ Pz w w' tb wb gb vb (tTwiceS s i) x0 x1 y0 y1 ys := by
  have h0 := h
  obtain ⟨⟨u, hO, hB, hN, hn⟩, _⟩ := h
  exact (ttwice_calls hO i).mono fun e w' ⟨a, b⟩ => ⟨a, Pz.turn h0 (Tq.turn hO hB hN hn b)⟩
theorem py_count (h : Py w wr tb wb gb s x0 x1 y0 y1) : Calls Tryz.prog 13 #[.pointer (some ⟨tb, 0, none⟩)] wr fun e w' => e = .returned (.int .i64 (s.ls.length : Int)) ∧ w' = wr := by
  obtain ⟨⟨u, hO, hB, hN, hn⟩, _⟩ := h
  exact tcount_calls hO
theorem Pz.wb0 (h : Pz w wr tb wb gb vb s x0 x1 y0 y1 ys) (z : ByteArray) : Pz w (wr.setCell ⟨wb, 0, none⟩ (.string z)) tb wb gb vb s z x1 y0 y1 ys := by
  have ho : Off (fun k => k = wb) wr (wr.setCell ⟨wb, 0, none⟩ (.string z)) := (Off.refl _ _).setCell (K := fun k => k = wb) (a := ⟨wb, 0, none⟩) rfl _
  exact ⟨h.t.set (.inl rfl) ho, h.bw.set0 z, h.bg.off ho (fun e => h.ne e.symm), h.bv.off ho (fun e => h.nv.1 e), h.ne, h.nv⟩
theorem Pz.wb1 (h : Pz w wr tb wb gb vb s x0 x1 y0 y1 ys) (z : ByteArray) : Pz w (wr.setCell ⟨wb, 1, none⟩ (.string z)) tb wb gb vb s x0 z y0 y1 ys := by
  have ho : Off (fun k => k = wb) wr (wr.setCell ⟨wb, 1, none⟩ (.string z)) := (Off.refl _ _).setCell (K := fun k => k = wb) (a := ⟨wb, 1, none⟩) rfl _
  exact ⟨h.t.set (.inl rfl) ho, h.bw.set1 z, h.bg.off ho (fun e => h.ne e.symm), h.bv.off ho (fun e => h.nv.1 e), h.ne, h.nv⟩
theorem Pz.gb0 (h : Pz w wr tb wb gb vb s x0 x1 y0 y1 ys) (z : ByteArray) : Pz w (wr.setCell ⟨gb, 0, none⟩ (.string z)) tb wb gb vb s x0 x1 z y1 ys := by
  have ho : Off (fun k => k = gb) wr (wr.setCell ⟨gb, 0, none⟩ (.string z)) := (Off.refl _ _).setCell (K := fun k => k = gb) (a := ⟨gb, 0, none⟩) rfl _
  exact ⟨h.t.set (.inr (.inl rfl)) ho, h.bw.off ho (fun e => h.ne e), h.bg.set0 z, h.bv.off ho (fun e => h.nv.2 e), h.ne, h.nv⟩
theorem Pz.gb1 (h : Pz w wr tb wb gb vb s x0 x1 y0 y1 ys) (z : ByteArray) : Pz w (wr.setCell ⟨gb, 1, none⟩ (.string z)) tb wb gb vb s x0 x1 y0 z ys := by
  have ho : Off (fun k => k = gb) wr (wr.setCell ⟨gb, 1, none⟩ (.string z)) := (Off.refl _ _).setCell (K := fun k => k = gb) (a := ⟨gb, 1, none⟩) rfl _
  exact ⟨h.t.set (.inr (.inl rfl)) ho, h.bw.off ho (fun e => h.ne e), h.bg.set1 z, h.bv.off ho (fun e => h.nv.2 e), h.ne, h.nv⟩
theorem Py.gb0 (h : Py w wr tb wb gb s x0 x1 y0 y1) (z : ByteArray) : Py w (wr.setCell ⟨gb, 0, none⟩ (.string z)) tb wb gb s x0 x1 z y1 := by
  have ho : Off (fun k => k = gb) wr (wr.setCell ⟨gb, 0, none⟩ (.string z)) := (Off.refl _ _).setCell (K := fun k => k = gb) (a := ⟨gb, 0, none⟩) rfl _
  exact ⟨h.t.set (.inr rfl) ho, h.bw.off ho (fun e => h.ne e), h.bg.set0 z, h.ne⟩
theorem Py.gb1 (h : Py w wr tb wb gb s x0 x1 y0 y1) (z : ByteArray) : Py w (wr.setCell ⟨gb, 1, none⟩ (.string z)) tb wb gb s x0 x1 y0 z := by
  have ho : Off (fun k => k = gb) wr (wr.setCell ⟨gb, 1, none⟩ (.string z)) := (Off.refl _ _).setCell (K := fun k => k = gb) (a := ⟨gb, 1, none⟩) rfl _
  exact ⟨h.t.set (.inr rfl) ho, h.bw.off ho (fun e => h.ne e), h.bg.set1 z, h.ne⟩
end
/-- What was written stays, whatever is taken. -/
theorem stp_d (e : En) (f : F) : (stpE e f).2.d = e.d := by
  unfold stpE
  split
  · split <;> rfl
  · split
    · rfl
    · split
      · split <;> rfl
      · rfl
theorem runF_d : ∀ (fs : List F) (e : En), (runF fs e).2.d = e.d
  | [], e => rfl
  | f :: fs, e => by
    unfold runF
    split
    · exact stp_d e f
    · rw [runF_d fs, stp_d]
theorem takeP_d (e : En) (b : ByteArray) : (takeP e b).2.d = e.d := by
  unfold takeP
  split
  · rfl
  · split
    · rfl
    · unfold come
      split
      · rfl
      · split
        · rfl
        · split
          · rfl
          · exact runF_d _ e
theorem makeS_d (e : En) : (makeS e).d = e.d := by unfold makeS; split <;> rfl
theorem text_app {a d : ByteArray} {q : Nat} (h : q ≤ a.size) : (a ++ d).extract 0 q = a.extract 0 q := by
  apply ints_inj
  rw [ints_extract, ints_extract, V.ints_app, List.drop_zero, List.drop_zero, List.take_append_of_le_length (by rw [ints_length]; omega)]
theorem text_join {a : ByteArray} {q q2 : Nat} (h : q ≤ q2) (h2 : q2 ≤ a.size) : a.extract 0 q ++ a.extract q q2 = a.extract 0 q2 := by
  apply ints_inj
  rw [V.ints_app, ints_extract, ints_extract, ints_extract, List.drop_zero]
  simp only [Nat.sub_zero]
  rw [show q2 = q + (q2 - q) by omega, List.take_add]
  simp
theorem text_all (a : ByteArray) : a.extract 0 a.size = a := by
  apply ints_inj
  rw [ints_extract, List.drop_zero, List.take_of_length_le (by rw [ints_length]; omega)]
/-- What two wrote, and what they read: the beginning of it. -/
def Rel (n : Int) (K : Nat) (s : Tt) (x0 x1 y0 y1 : ByteArray) : Prop := ∃ r q r' q', TGood n K s r q r' q' ∧ x0 = s.a.d ∧ x1 = s.b.d ∧ y0 = s.b.d.extract 0 q' ∧ y1 = s.a.d.extract 0 q
section
variable {n : Int} {K : Nat} {s : Tt} {x0 x1 y0 y1 : ByteArray}
theorem Rel.new (hn : Cx.winB n = true) : Rel n 0 (newT n) { data := #[] } { data := #[] } { data := #[] } { data := #[] } := ⟨0, 0, 0, 0, TGood.new hn, rfl, rfl, rfl, rfl⟩
theorem Rel.more (h : Rel n K s x0 x1 y0 y1) : Rel n (K + 1) s x0 x1 y0 y1 := by
  obtain ⟨r, q, r', q', h, e⟩ := h
  exact ⟨r, q, r', q', h.more (Nat.le_succ _), e⟩
theorem Rel.sizes (h : Rel n K s x0 x1 y0 y1) : x0.size ≤ 60 ∧ x1.size ≤ 60 ∧ y0.size ≤ x1.size ∧ y1.size ≤ x0.size ∧ x1.extract 0 y0.size = y0 ∧ x0.extract 0 y1.size = y1 := by
  obtain ⟨r, q, r', q', h, rfl, rfl, rfl, rfl⟩ := h
  have h1 := h.tk.f.qr
  have h2 := h.tk.f.rd
  have h3 := h.tk.g.qr
  have h4 := h.tk.g.rd
  have e1 : (s.b.d.extract 0 q').size = q' := by rw [ByteArray.size_extract]; omega
  have e2 : (s.a.d.extract 0 q).size = q := by rw [ByteArray.size_extract]; omega
  rw [e1, e2]
  exact ⟨h.tk.xi.d60, h.tk.yi.d60, by omega, by omega, rfl, rfl⟩
theorem Rel.write0 (h : Rel n K s x0 x1 y0 y1) {d : ByteArray} (hf : writeF s.a d = 0) : Rel n K (tWriteS s 0 d) (x0 ++ d) x1 y0 y1 ∧ x0.size + d.size ≤ 60 := by
  obtain ⟨r, q, r', q', h, rfl, rfl, rfl, rfl⟩ := h
  have h1 := h.tk.f.qr
  have h2 := h.tk.f.rd
  have hn : ¬ 60 < s.a.d.size + d.size := fun e => by rw [writeF, if_pos e] at hf; cases hf
  have e1 : (writeS s.a d).d = s.a.d ++ d := by unfold writeS; rw [if_neg hn]
  refine ⟨⟨r, q, r', q', h.write 0 d, ?_, rfl, rfl, ?_⟩, by omega⟩
  · show _ = (writeS s.a d).d
    rw [e1]
  · show _ = (writeS s.a d).d.extract 0 q
    rw [e1, text_app (by omega)]
theorem Rel.write1 (h : Rel n K s x0 x1 y0 y1) {d : ByteArray} (hf : writeF s.b d = 0) : Rel n K (tWriteS s 1 d) x0 (x1 ++ d) y0 y1 ∧ x1.size + d.size ≤ 60 := by
  obtain ⟨r, q, r', q', h, rfl, rfl, rfl, rfl⟩ := h
  have h1 := h.tk.g.qr
  have h2 := h.tk.g.rd
  have hn : ¬ 60 < s.b.d.size + d.size := fun e => by rw [writeF, if_pos e] at hf; cases hf
  have e1 : (writeS s.b d).d = s.b.d ++ d := by unfold writeS; rw [if_neg hn]
  refine ⟨⟨r, q, r', q', h.write 1 d, rfl, ?_, ?_, rfl⟩, by omega⟩
  · show _ = (writeS s.b d).d
    rw [e1]
  · show _ = (writeS s.b d).d.extract 0 q'
    rw [e1, text_app (by omega)]
theorem tWrite_no {w : Int} {d : ByteArray} (h : tWriteF s w d ≠ 0) : tWriteS s w d = s := by
  unfold tWriteF at h
  unfold tWriteS
  split
  · rename_i hw
    rw [if_pos hw] at h
    have e : ∀ e : En, writeF e d ≠ 0 → writeS e d = e := fun e he => by
      unfold writeF at he
      unfold writeS
      split
      · rfl
      · rename_i hc; rw [if_neg hc] at he; exact absurd rfl he
    rw [e _ h]
    unfold Tt.set Tt.who
    split <;> rfl
  · rfl
theorem Rel.read0 (h : Rel n K s x0 x1 y0 y1) {m : Int} (hm : 0 ≤ m) : readF s.a m = 0 ∧ Rel n K (tReadS s 0 m) x0 x1 (y0 ++ readB s.a m) y1 ∧ (readB s.a m).size ≤ 60 := by
  obtain ⟨r, q, r', q', h, rfl, rfl, rfl, rfl⟩ := h
  obtain ⟨h1, q2, q2', h2, h3⟩ := h.read (w := 0) rfl hm
  rcases h3 with ⟨_, rfl, h4, h5, h6, _⟩ | ⟨e, _⟩
  · have hb := h2.tk.g.rd
    have ea : (tReadS s 0 m).a.d = s.a.d := (read_same s.a m).2
    have eb : (tReadS s 0 m).b = s.b := rfl
    have h7 := h.tk.g.rd
    have h8 := h.tk.yi.d60
    refine ⟨h1, ⟨r, q2, r', q2', h2, by rw [ea], rfl, ?_, by rw [ea]⟩, by rw [h6, ByteArray.size_extract]; omega⟩
    rw [h6, text_join h4 (by omega)]
    rfl
  · cases e
theorem Rel.read1 (h : Rel n K s x0 x1 y0 y1) {m : Int} (hm : 0 ≤ m) : readF s.b m = 0 ∧ Rel n K (tReadS s 1 m) x0 x1 y0 (y1 ++ readB s.b m) ∧ (readB s.b m).size ≤ 60 := by
  obtain ⟨r, q, r', q', h, rfl, rfl, rfl, rfl⟩ := h
  obtain ⟨h1, q2, q2', h2, h3⟩ := h.read (w := 1) rfl hm
  rcases h3 with ⟨e, _⟩ | ⟨_, rfl, h4, h5, h6, _⟩
  · cases e
  · have eb : (tReadS s 1 m).b.d = s.b.d := (read_same s.b m).2
    have ea : (tReadS s 1 m).a = s.a := rfl
    have h7 := h.tk.f.rd
    have h8 := h.tk.xi.d60
    refine ⟨h1, ⟨r, q2, r', q2', h2, rfl, by rw [eb], by rw [eb], ?_⟩, by rw [h6, ByteArray.size_extract]; omega⟩
    rw [h6, text_join h4 (by omega)]
    rfl
theorem tRead_no {w m : Int} (h : Lk.endB w = false ∨ m < 0) : tReadF s w m = 1 ∧ tReadS s w m = s := by
  cases hw : Lk.endB w with
  | false =>
    unfold tReadF tReadS
    rw [hw, if_neg (by decide), if_neg (by decide)]
    exact ⟨rfl, rfl⟩
  | true =>
    have hm : m < 0 := by
      rcases h with h | h
      · rw [hw] at h; cases h
      · exact h
    have e : ∀ e : En, readF e m = 1 ∧ readS e m = e := fun e => by
      have e1 : readF e m = 1 := if_pos hm
      exact ⟨e1, if_neg (by rw [e1]; decide)⟩
    unfold tReadF tReadS
    rw [hw, if_pos rfl, if_pos rfl, (e _).1, (e _).2]
    refine ⟨rfl, ?_⟩
    unfold Tt.set Tt.who
    split <;> rfl
theorem Rel.made (h : Rel n K s x0 x1 y0 y1) (hK : K ≤ 1000) {w : Int} (hw : Lk.endB w = true) : makeF (s.who w) = 0 := by
  obtain ⟨r, q, r', q', h, _⟩ := h
  exact h.made (by omega) hw
theorem Rel.send (h : Rel n K s x0 x1 y0 y1) (hK : K ≤ 1000) (w : Int) : Rel n (K + 1) (tSendS s w) x0 x1 y0 y1 := by
  obtain ⟨r, q, r', q', h, rfl, rfl, rfl, rfl⟩ := h
  have e : (tSendS s w).a.d = s.a.d ∧ (tSendS s w).b.d = s.b.d := by
    unfold tSendS
    split
    · unfold Tt.set Tt.who
      split
      · exact ⟨makeS_d _, rfl⟩
      · exact ⟨rfl, makeS_d _⟩
    · exact ⟨rfl, rfl⟩
  exact ⟨r, q, r', q', h.send (by omega) w, e.1.symm, e.2.symm, by rw [e.2], by rw [e.1]⟩
theorem Rel.come (h : Rel n K s x0 x1 y0 y1) (hK : K ≤ 120) (i : Int) : Rel n K (tComeS s i) x0 x1 y0 y1 := by
  obtain ⟨r, q, r', q', h, rfl, rfl, rfl, rfl⟩ := h
  obtain ⟨r2, r2', _, _, h2⟩ := h.come hK i
  have e : (tComeS s i).a.d = s.a.d ∧ (tComeS s i).b.d = s.b.d := by
    unfold tComeS
    split
    · unfold Tt.set Tt.who
      split
      · exact ⟨takeP_d _ _, rfl⟩
      · exact ⟨rfl, takeP_d _ _⟩
    · exact ⟨rfl, rfl⟩
  exact ⟨r2, q, r2', q', h2, e.1.symm, e.2.symm, by rw [e.2], by rw [e.1]⟩
theorem Rel.lose (h : Rel n K s x0 x1 y0 y1) (i : Int) : Rel n K (tLoseS s i) x0 x1 y0 y1 := by
  obtain ⟨r, q, r', q', h, e⟩ := h
  exact ⟨r, q, r', q', h.lose i, e⟩
theorem Rel.twice (h : Rel n K s x0 x1 y0 y1) (i : Int) : Rel n K (tTwiceS s i) x0 x1 y0 y1 := by
  obtain ⟨r, q, r', q', h, e⟩ := h
  exact ⟨r, q, r', q', h.twice i, e⟩
end
/-- The link is good again: rounds of two packets. -/
def Rnd (n : Int) (i : Nat) (s : Tt) (x0 x1 y0 y1 : ByteArray) : Prop := ∃ r q r' q', Fin2 n i s r q r' q' ∧ x0 = s.a.d ∧ x1 = s.b.d ∧ y0 = s.b.d.extract 0 q' ∧ y1 = s.a.d.extract 0 q
/-- One packet went, and came. -/
def Mid (n : Int) (i : Nat) (s : Tt) (x0 x1 y0 y1 : ByteArray) : Prop := s.ls = [] ∧ makeF s.b = 0 ∧ ((takeP s.a (makeB s.b)).1 = 4 ∨ ((takeP s.a (makeB s.b)).1 = 0 ∧ readF (takeP s.a (makeB s.b)).2 60 = 0 ∧ Rnd n (i + 1) ⟨readS (takeP s.a (makeB s.b)).2 60, makeS s.b, []⟩ x0 x1 (y0 ++ readB (takeP s.a (makeB s.b)).2 60) y1 ∧ y0.size + (readB (takeP s.a (makeB s.b)).2 60).size ≤ 120))
theorem Rnd.start {n : Int} {K : Nat} {s : Tt} {x0 x1 y0 y1 : ByteArray} (h : Rel n K s x0 x1 y0 y1) (hK : K ≤ 40) (hl : s.ls = []) : Rnd n 0 s x0 x1 y0 y1 := by
  obtain ⟨r, q, r', q', h, e⟩ := h
  exact ⟨r, q, r', q', Fin2.start h hK hl, e⟩
theorem Rnd.one {n : Int} {i : Nat} {s : Tt} {x0 x1 y0 y1 : ByteArray} (h : Rnd n i s x0 x1 y0 y1) (hi : i < 130) : s.ls = [] ∧ makeF s.a = 0 ∧ ((takeP s.b (makeB s.a)).1 = 4 ∨ ((takeP s.b (makeB s.a)).1 = 0 ∧ readF (takeP s.b (makeB s.a)).2 60 = 0 ∧ Mid n i ⟨makeS s.a, readS (takeP s.b (makeB s.a)).2 60, []⟩ x0 x1 y0 (y1 ++ readB (takeP s.b (makeB s.a)).2 60) ∧ y1.size + (readB (takeP s.b (makeB s.a)).2 60).size ≤ 120)) := by
  obtain ⟨r, q, r', q', h, rfl, rfl, rfl, rfl⟩ := h
  have d1 := h.tk.xi.d60
  have d2 := h.tk.yi.d60
  obtain ⟨hm, hr⟩ := h.round hi
  refine ⟨h.ls, hm, ?_⟩
  rcases hr with e | ⟨b1, r1, e1, e2, e3, e4, e5, e6, e7, e8, e9⟩
  · left; rw [e]
  · right
    rw [e1]
    refine ⟨rfl, e2, ⟨rfl, e6, ?_⟩, by show _ + (readB b1 60).size ≤ 120; rw [e3, ByteArray.size_extract, ByteArray.size_extract]; omega⟩
    rcases e9 with e | ⟨a1, r1', f1, f2, f3, f4, f5, f6, f7, f8⟩
    · left; show (takeP (makeS s.a) (makeB (readS b1 60))).1 = 4; rw [e]
    · right
      show (takeP (makeS s.a) (makeB (readS b1 60))).1 = 0 ∧ _
      rw [f1]
      refine ⟨rfl, f2, ⟨r1, r1, r1', r1', f8, f6.symm, f7.symm, ?_, ?_⟩, by show _ + (readB a1 60).size ≤ 120; rw [f3, ByteArray.size_extract, ByteArray.size_extract]; omega⟩
      · show _ ++ readB a1 60 = (makeS (readS b1 60)).d.extract 0 r1'
        rw [f3, text_join f5 f4, f7]
      · show _ ++ readB b1 60 = (readS a1 60).d.extract 0 r1
        rw [e3, text_join e5 e4, f6]
theorem Rnd.all {n : Int} {s : Tt} {x0 x1 y0 y1 : ByteArray} (h : Rnd n 130 s x0 x1 y0 y1) : y0 = x1 ∧ y1 = x0 := by
  obtain ⟨r, q, r', q', h, rfl, rfl, rfl, rfl⟩ := h
  obtain ⟨h1, h2⟩ := h.all
  rw [h1, h2]
  exact ⟨text_all _, text_all _⟩
/-- The fact: what is written is read. -/
def abB : ByteArray := { data := #[97, 98] }
def facX : En := writeS (newE 10) abB
def facB : ByteArray := makeB facX
theorem fac_win : Cx.winB 10 = true := by decide
theorem fac_write : writeF (newE 10) abB = 0 := by kernel_rfl
theorem fac_frs : frs facX = [(4, [10], nilB), (3, [0], abB)] := by kernel_rfl
theorem fac_make : makeF facX = 0 := by kernel_rfl
theorem fac_rd : rdP facB 0 = some (0, [(4, [10], nilB), (3, [0], abB)]) := by
  have h := rdP_back (n := 0) (k := -1) (more := -1) (l := frs facX) fac_make (by omega) (by omega)
  have e : facB = pkS 0 (-1) (frs facX) := by unfold facB makeB; rw [if_pos fac_make]; rfl
  rw [show (-1 : Int) + 1 = 0 from rfl, ← e, fac_frs] at h
  exact h
theorem fac_take : takeP (newE 10) facB = come (newE 10) 0 [(4, [10], nilB), (3, [0], abB)] := by
  have h1 : opF facB (nextN (newE 10)) = 0 := opF_zero (by decide) (make_size fac_make) fac_rd
  exact takeP_yes h1 fac_rd
theorem fac_took : (takeP (newE 10) facB).1 = 0 := by rw [fac_take]; kernel_rfl
theorem fac_readF : readF (takeP (newE 10) facB).2 9 = 0 := by rw [fac_take]; kernel_rfl
theorem fac_readB : readB (takeP (newE 10) facB).2 9 = abB := by rw [fac_take]; kernel_rfl
theorem fac_s1f : tWriteF (newT 10) 0 abB = 0 := by
  unfold tWriteF
  rw [if_pos (show Lk.endB 0 = true from rfl)]
  exact fac_write
theorem fac_s1 : tWriteS (newT 10) 0 abB = ⟨facX, newE 10, []⟩ := by
  unfold tWriteS
  rw [if_pos (show Lk.endB 0 = true from rfl)]
  rfl
theorem fac_s2f : tSendF ⟨facX, newE 10, []⟩ 0 = 0 := by
  unfold tSendF
  rw [if_pos (show Lk.endB 0 = true from rfl)]
  rfl
theorem send_new (a b : En) : tSendF ⟨a, b, []⟩ 0 = 0 → tSendS ⟨a, b, []⟩ 0 = ⟨makeS a, b, [(1, makeB a)]⟩ := fun h => by
  unfold tSendS
  rw [if_pos h]
  rfl
theorem come_one (a b : En) (bs : ByteArray) : tComeF ⟨a, b, [(1, bs)]⟩ 0 = (takeP b bs).1 ∧ tComeS ⟨a, b, [(1, bs)]⟩ 0 = ⟨a, (takeP b bs).2, []⟩ := by
  have h : Lk.onB [((1 : Int), bs)] 0 = true := rfl
  unfold tComeF tComeS
  rw [if_pos h, if_pos h]
  exact ⟨rfl, rfl⟩
theorem read_one (a b : En) (m : Int) : tReadF ⟨a, b, []⟩ 1 m = readF b m ∧ tReadB ⟨a, b, []⟩ 1 m = readB b m := ⟨rfl, rfl⟩
theorem fac_s2 : tSendS ⟨facX, newE 10, []⟩ 0 = ⟨makeS facX, newE 10, [(1, facB)]⟩ := send_new _ _ fac_s2f
end Go.Proofs.YtdnehibcpkjafaaGreatDoor
