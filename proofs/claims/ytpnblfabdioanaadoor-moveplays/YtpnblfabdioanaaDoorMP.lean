/- The Mover, the document's IDs, Proofs and paths, and the box of a step, side by side. -/
import Derived.Test.YtpnblfabdioanaaDoorMG
import Derived.Test.YtpnblfabdioanaaDoorK
import Derived.Test.YtpnblfabdioanaaDoorIZ
import Derived.Test.YtpnblfabdioanaaDoorPZ
import Derived.Test.YtpnblfabdioanaaDoorOZ
namespace Go.Proofs.YtpnblfabdioanaaDoor
open Go.RowKit Go.Lib Go.Sort
set_option linter.unusedVariables false
set_option linter.unusedSimpArgs false

/-- The document's IDs; F is all that is their own. -/
def Dd (w : World) (B db : Nat) (F : Nat → Prop) (t : Mv) : Prop := ∃ va vg gs, Ix.Ref w B db va vg t.L t.ns gs ∧ F = Ix.rown db va vg ∧ gs.length = t.ns.length ∧ t.ls = Ix.lv 0 t.ns gs
def Dp (w : World) (B qb : Nat) (F : Nat → Prop) (t : Mv) : Prop := ∃ v, Ox.Ref w B qb v t.os ∧ F = Ox.rown qb v
/-- The document's paths. -/
structure PA (w : World) (ab : Nat) (t : Mv) : Prop where
  lt : ab < w.heap.size
  ci : ∀ j, j < 4 → w.cell? ⟨ab, j * 3, none⟩ = some (.int .i64 (t.pi j))
  co : ∀ j, j < 4 → w.cell? ⟨ab, j * 3 + 1, none⟩ = some (.int .i64 (t.po j))
  ck : ∀ j, j < 4 → w.cell? ⟨ab, j * 3 + 2, none⟩ = some (.bool (t.pk j))
  fr : ∀ j, j < 12 → w.frozen? ⟨ab, j, none⟩ = false
section
variable {w w' wr wx : World} {B db qb ab mb V : Nat} {F FM FD FP : Nat → Prop} {s s' t t' : Mv} {ys : Nat → Int}
theorem Dd.lt (h : Dd w B db F t) {k : Nat} (hk : F k) : k < w.heap.size := by
  obtain ⟨va, vg, gs, h, rfl, _⟩ := h
  exact h.lt hk
theorem Dd.ge (h : Dd w B db F t) {k : Nat} (hk : F k) : B ≤ k := by
  obtain ⟨va, vg, gs, h, rfl, _⟩ := h
  exact h.ge hk
theorem Dd.le (h : Dd w B db F t) : B ≤ w.heap.size := by
  obtain ⟨va, vg, gs, h, rfl, _⟩ := h
  exact h.le
theorem Dd.off {K : Nat → Prop} (h : Dd w B db F t) (ho : Off K w w') (hK : ∀ k, F k → ¬ K k) : Dd w' B db F t := by
  obtain ⟨va, vg, gs, h, rfl, h2⟩ := h
  exact ⟨va, vg, gs, h.off ho hK, rfl, h2⟩
theorem Dp.lt (h : Dp w B qb F t) {k : Nat} (hk : F k) : k < w.heap.size := by
  obtain ⟨v, h, rfl⟩ := h
  exact h.lt hk
theorem Dp.ge (h : Dp w B qb F t) {k : Nat} (hk : F k) : B ≤ k := by
  obtain ⟨v, h, rfl⟩ := h
  exact h.ge hk
theorem Dp.le (h : Dp w B qb F t) : B ≤ w.heap.size := by
  obtain ⟨v, h, rfl⟩ := h
  exact h.le
theorem Dp.off {K : Nat → Prop} (h : Dp w B qb F t) (ho : Off K w w') (hK : ∀ k, F k → ¬ K k) : Dp w' B qb F t := by
  obtain ⟨v, h, rfl⟩ := h
  exact ⟨v, h.off ho hK, rfl⟩
theorem PA.off {K : Nat → Prop} (h : PA w ab t) (ho : Off K w w') (km : ¬ K ab) : PA w' ab t :=
  ⟨Nat.lt_of_lt_of_le h.lt ho.size, fun j hj => ho.cell (h.ci j hj) km, fun j hj => ho.cell (h.co j hj) km, fun j hj => ho.cell (h.ck j hj) km, fun j hj => (ho.frozen (p := ⟨ab, j, none⟩) h.lt km).trans (h.fr j hj)⟩
theorem PA.as (h : PA w ab t) (h1 : t'.pi = t.pi) (h2 : t'.po = t.po) (h3 : t'.pk = t.pk) : PA w ab t' := ⟨h.lt, by rw [h1]; exact h.ci, by rw [h2]; exact h.co, by rw [h3]; exact h.ck, h.fr⟩
theorem PA.set (h : PA w ab t) (j : Nat) (hj : j < 4) (a b : Int) (c : Bool) :
    PA (((w.setCell ⟨ab, j * 3, none⟩ (.int .i64 a)).setCell ⟨ab, j * 3 + 1, none⟩ (.int .i64 b)).setCell ⟨ab, j * 3 + 2, none⟩ (.bool c)) ab (t.setP j a b c) := by
  have far : ∀ q, q ≠ j * 3 → q ≠ j * 3 + 1 → q ≠ j * 3 + 2 → (((w.setCell ⟨ab, j * 3, none⟩ (.int .i64 a)).setCell ⟨ab, j * 3 + 1, none⟩ (.int .i64 b)).setCell ⟨ab, j * 3 + 2, none⟩ (.bool c)).cell? ⟨ab, q, none⟩ = w.cell? ⟨ab, q, none⟩ := fun q h0 h1 h2 => by
    rw [World.cell?_setCell_other _ _ _ _ (by simp <;> omega), World.cell?_setCell_other _ _ _ _ (by simp <;> omega), World.cell?_setCell_other _ _ _ _ (by simp <;> omega)]
  have b0 : (w.setCell ⟨ab, j * 3, none⟩ (.int .i64 a)).cell? ⟨ab, j * 3 + 1, none⟩ = some (.int .i64 (t.po j)) := by rw [World.cell?_setCell_other _ _ _ _ (by simp)]; exact h.co j hj
  have b1 : ((w.setCell ⟨ab, j * 3, none⟩ (.int .i64 a)).setCell ⟨ab, j * 3 + 1, none⟩ (.int .i64 b)).cell? ⟨ab, j * 3 + 2, none⟩ = some (.bool (t.pk j)) := by
    rw [World.cell?_setCell_other _ _ _ _ (by simp), World.cell?_setCell_other _ _ _ _ (by simp)]; exact h.ck j hj
  refine ⟨by simpa using h.lt, fun k hk => ?_, fun k hk => ?_, fun k hk => ?_, fun k hk => by simpa using h.fr k hk⟩
  · by_cases e : k = j
    · subst e
      simp only [Mv.setP, if_true]
      rw [World.cell?_setCell_other _ _ _ _ (by simp), World.cell?_setCell_other _ _ _ _ (by simp)]
      exact World.cell?_setCell_same _ _ _ (h.ci k hk)
    · simp only [Mv.setP, if_neg e]
      rw [far _ (by omega) (by omega) (by omega)]; exact h.ci k hk
  · by_cases e : k = j
    · subst e
      simp only [Mv.setP, if_true]
      rw [World.cell?_setCell_other _ _ _ _ (by simp)]
      exact World.cell?_setCell_same _ _ _ b0
    · simp only [Mv.setP, if_neg e]
      rw [far _ (by omega) (by omega) (by omega)]; exact h.co k hk
  · by_cases e : k = j
    · subst e
      simp only [Mv.setP, if_true]
      exact World.cell?_setCell_same _ _ _ b1
    · simp only [Mv.setP, if_neg e]
      rw [far _ (by omega) (by omega) (by omega)]; exact h.ck k hk
theorem PA.setK (h : PA w ab t) (j : Nat) (hj : j < 4) : PA (w.setCell ⟨ab, j * 3 + 2, none⟩ (.bool true)) ab (t.setP j (t.pi j) (t.po j) true) := by
  have far : ∀ q, q ≠ j * 3 + 2 → (w.setCell ⟨ab, j * 3 + 2, none⟩ (.bool true)).cell? ⟨ab, q, none⟩ = w.cell? ⟨ab, q, none⟩ := fun q h2 => by
    rw [World.cell?_setCell_other _ _ _ _ (by simp <;> omega)]
  refine ⟨by simpa using h.lt, fun k hk => ?_, fun k hk => ?_, fun k hk => ?_, fun k hk => by simpa using h.fr k hk⟩
  · rw [far _ (by omega), h.ci k hk]
    by_cases e : k = j
    · subst e; simp [Mv.setP]
    · simp [Mv.setP, e]
  · rw [far _ (by omega), h.co k hk]
    by_cases e : k = j
    · subst e; simp [Mv.setP]
    · simp [Mv.setP, e]
  · by_cases e : k = j
    · subst e
      simp only [Mv.setP, if_true]
      exact World.cell?_setCell_same _ _ _ (h.ck k hk)
    · rw [far _ (by omega), h.ck k hk]
      simp [Mv.setP, e]
/-- All of them, made since w, apart from one another. -/
structure Po (w wr : World) (mb db qb ab : Nat) (FM FD FP : Nat → Prop) (s t : Mv) : Prop where
  mv : M wr w.heap.size mb FM s
  dd : Dd wr w.heap.size db FD t
  dp : Dp wr w.heap.size qb FP t
  pa : PA wr ab t
  a1 : ∀ k, FM k → ¬ FD k ∧ ¬ FP k ∧ k ≠ ab
  a2 : ∀ k, FD k → ¬ FP k ∧ k ≠ ab
  a3 : ∀ k, FP k → k ≠ ab
  ga : w.heap.size ≤ ab
  bel : Below w.heap.size w wr
/-- And the box of a step. -/
structure Pv (w wr : World) (mb db qb ab V : Nat) (FM FD FP : Nat → Prop) (s t : Mv) (ys : Nat → Int) : Prop where
  po : Po w wr mb db qb ab FM FD FP s t
  box : Nts 5 wr V ys
  nV : ¬ FM V ∧ ¬ FD V ∧ ¬ FP V ∧ V ≠ ab
  gV : w.heap.size ≤ V
def Oo (w wr : World) (mb db qb ab : Nat) (s t : Mv) : Prop := ∃ FM FD FP, Po w wr mb db qb ab FM FD FP s t
def Vv (w wr : World) (mb db qb ab V : Nat) (s t : Mv) (ys : Nat → Int) : Prop := ∃ FM FD FP, Pv w wr mb db qb ab V FM FD FP s t ys
theorem Po.off {K : Nat → Prop} (h : Po w wr mb db qb ab FM FD FP s t) (ho : Off K wr wx) (h1 : ∀ k, FM k → ¬ K k) (h2 : ∀ k, FD k → ¬ K k) (h3 : ∀ k, FP k → ¬ K k) (h4 : ¬ K ab) (h5 : ∀ k, K k → w.heap.size ≤ k) : Po w wx mb db qb ab FM FD FP s t :=
  ⟨h.mv.off ho h1, h.dd.off ho h2, h.dp.off ho h3, h.pa.off ho h4, h.a1, h.a2, h.a3, h.ga, h.bel.trans (ho.below h5 h.mv.le)⟩
theorem Po.below (h : Po w wr mb db qb ab FM FD FP s t) (hb : Below wr.heap.size wr wx) : Po w wx mb db qb ab FM FD FP s t :=
  h.off (Off.of_below (K := fun _ => False) hb) (fun _ _ => id) (fun _ _ => id) (fun _ _ => id) id (fun _ e => e.elim)
theorem Pv.below (h : Pv w wr mb db qb ab V FM FD FP s t ys) (hb : Below wr.heap.size wr wx) : Pv w wx mb db qb ab V FM FD FP s t ys := ⟨h.po.below hb, h.box.below hb, h.nV, h.gV⟩
theorem Oo.below (h : Oo w wr mb db qb ab s t) (hb : Below wr.heap.size wr wx) : Oo w wx mb db qb ab s t := by
  obtain ⟨FM, FD, FP, h⟩ := h
  exact ⟨FM, FD, FP, h.below hb⟩
theorem Vv.below (h : Vv w wr mb db qb ab V s t ys) (hb : Below wr.heap.size wr wx) : Vv w wx mb db qb ab V s t ys := by
  obtain ⟨FM, FD, FP, h⟩ := h
  exact ⟨FM, FD, FP, h.below hb⟩
theorem Vv.drew (h : Vv w wr mb db qb ab V s t ys) : Vv w wr.drew mb db qb ab V s t ys := h.below ⟨rfl, rfl, rfl, Nat.le_refl _, fun _ _ => rfl⟩
theorem Oo.bel (h : Oo w wr mb db qb ab s t) : Below w.heap.size w wr := by
  obtain ⟨FM, FD, FP, h⟩ := h
  exact h.bel
theorem Oo.inv (h : Oo w wr mb db qb ab s t) : Ix.Inv s.L s.ns s.ls := by
  obtain ⟨FM, FD, FP, h⟩ := h
  exact h.mv.inv
theorem Oo.pa (h : Oo w wr mb db qb ab s t) : PA wr ab t := by
  obtain ⟨FM, FD, FP, h⟩ := h
  exact h.pa
theorem Oo.new (h : Oo w wr mb db qb ab s t) : Vv w (wr.alloc (.cells #[.int .i64 0, .int .i64 0, .int .i64 0, .int .i64 0, .int .i64 0] 49)) mb db qb ab wr.heap.size s t (fun _ => 0) := by
  obtain ⟨FM, FD, FP, h⟩ := h
  exact ⟨FM, FD, FP, h.below ((Below.refl _ _).alloc (Nat.le_refl _) _), Nts.new5 wr, ⟨fun e => by have := h.mv.lt e; omega, fun e => by have := h.dd.lt e; omega, fun e => by have := h.dp.lt e; omega, fun e => by have := h.pa.lt; omega⟩, h.bel.size⟩
theorem Vv.oo (h : Vv w wr mb db qb ab V s t ys) : Oo w wr mb db qb ab s t := by
  obtain ⟨FM, FD, FP, h⟩ := h
  exact ⟨FM, FD, FP, h.po⟩
theorem Vv.bel (h : Vv w wr mb db qb ab V s t ys) : Below w.heap.size w wr := h.oo.bel
theorem Vv.inv (h : Vv w wr mb db qb ab V s t ys) : Ix.Inv s.L s.ns s.ls := h.oo.inv
theorem Vv.pa (h : Vv w wr mb db qb ab V s t ys) : PA wr ab t := h.oo.pa
theorem Vv.pok (h : Vv w wr mb db qb ab V s t ys) : Pok s := by
  obtain ⟨FM, FD, FP, h⟩ := h
  exact h.po.mv.pok
theorem Vv.pinv (h : Vv w wr mb db qb ab V s t ys) : Ox.Inv s.os := by
  obtain ⟨FM, FD, FP, h⟩ := h
  exact h.po.mv.pinv
theorem Vv.box (h : Vv w wr mb db qb ab V s t ys) : Nts 5 wr V ys := by
  obtain ⟨FM, FD, FP, h⟩ := h
  exact h.box
theorem Vv.ne (h : Vv w wr mb db qb ab V s t ys) : V ≠ ab := by
  obtain ⟨FM, FD, FP, h⟩ := h
  exact h.nV.2.2.2
theorem Vv.set (h : Vv w wr mb db qb ab V s t ys) {j : Nat} (hj : j < 5) (z : Int) : Vv w (wr.setCell ⟨V, j, none⟩ (.int .i64 z)) mb db qb ab V s t (up1 ys j z) := by
  obtain ⟨FM, FD, FP, h⟩ := h
  have o : Off (fun k => k = V) wr (wr.setCell ⟨V, j, none⟩ (.int .i64 z)) := (Off.refl _ _).setCell (K := fun k => k = V) (a := ⟨V, j, none⟩) rfl _
  exact ⟨FM, FD, FP, h.po.off o (fun k hk e => h.nV.1 (e ▸ hk)) (fun k hk e => h.nV.2.1 (e ▸ hk)) (fun k hk e => h.nV.2.2.1 (e ▸ hk)) (fun e => h.nV.2.2.2 e.symm) (fun k e => e ▸ h.gV), h.box.set hj z, h.nV, h.gV⟩
/-- The paths alone have turned. -/
theorem Vv.paths (h : Vv w wr mb db qb ab V s t ys) (ho : Off (fun k => k = ab) wr wx) (hp : PA wx ab t') (e1 : t'.L = t.L) (e2 : t'.ns = t.ns) (e3 : t'.ls = t.ls) (e4 : t'.os = t.os) : Vv w wx mb db qb ab V s t' ys := by
  obtain ⟨FM, FD, FP, h⟩ := h
  have n3 := h.nV.2.2.2
  have dd2 : Dd wx w.heap.size db FD t' := by
    obtain ⟨va, vg, gs, g1, g2, g3, g4⟩ := h.po.dd.off ho (fun k hk => (h.po.a2 k hk).2)
    exact ⟨va, vg, gs, by rw [e1, e2]; exact g1, g2, by rw [e2]; exact g3, by rw [e2, e3]; exact g4⟩
  have dp2 : Dp wx w.heap.size qb FP t' := by
    obtain ⟨v, g1, g2⟩ := h.po.dp.off ho (fun k hk => h.po.a3 k hk)
    exact ⟨v, by rw [e4]; exact g1, g2⟩
  exact ⟨FM, FD, FP, ⟨h.po.mv.off ho (fun k hk => (h.po.a1 k hk).2.2), dd2, dp2, hp, h.po.a1, h.po.a2, h.po.a3, h.po.ga, h.po.bel.trans (ho.below (fun k e => e ▸ h.po.ga) h.po.mv.le)⟩, h.box.off ho n3, h.nV, h.gV⟩
theorem Vv.setPath (h : Vv w wr mb db qb ab V s t ys) (j : Nat) (hj : j < 4) (a b : Int) (c : Bool) : Vv w (((wr.setCell ⟨ab, j * 3, none⟩ (.int .i64 a)).setCell ⟨ab, j * 3 + 1, none⟩ (.int .i64 b)).setCell ⟨ab, j * 3 + 2, none⟩ (.bool c)) mb db qb ab V s (t.setP j a b c) ys :=
  h.paths ((((Off.refl _ _).setCell (K := fun k => k = ab) rfl _).setCell (K := fun k => k = ab) rfl _).setCell (K := fun k => k = ab) rfl _) (h.pa.set j hj a b c) rfl rfl rfl rfl
theorem Vv.setKnown (h : Vv w wr mb db qb ab V s t ys) (j : Nat) (hj : j < 4) : Vv w (wr.setCell ⟨ab, j * 3 + 2, none⟩ (.bool true)) mb db qb ab V s (t.setP j (t.pi j) (t.po j) true) ys :=
  h.paths ((Off.refl _ _).setCell (K := fun k => k = ab) rfl _) (h.pa.setK j hj) rfl rfl rfl rfl
/-- The Mover alone has turned. -/
theorem Pv.turnM (h : Pv w wr mb db qb ab V FM FD FP s t ys) (ht : Mt wr wx w.heap.size mb FM s') : Vv w wx mb db qb ab V s' t ys := by
  obtain ⟨F', g1, g2, g3⟩ := ht
  refine ⟨F', FD, FP, ⟨g1, h.po.dd.off g2 (fun k hk e => (h.po.a1 k e).1 hk), h.po.dp.off g2 (fun k hk e => (h.po.a1 k e).2.1 hk), h.po.pa.off g2 (fun e => (h.po.a1 _ e).2.2 rfl), fun k hk => ?_, h.po.a2, h.po.a3, h.po.ga, h.po.bel.trans (g2.below (fun k hk => h.po.mv.ge hk) h.po.mv.le)⟩, h.box.off g2 h.nV.1, ⟨fun e => ?_, h.nV.2⟩, h.gV⟩
  · rcases g3 k hk with e | e
    · exact h.po.a1 k e
    · exact ⟨fun e' => by have := h.po.dd.lt e'; omega, fun e' => by have := h.po.dp.lt e'; omega, fun e' => by have := h.po.pa.lt; omega⟩
  · rcases g3 V e with e | e
    · exact h.nV.1 e
    · have := h.box.lt; omega
/-- The document's IDs alone have turned. -/
theorem Pv.turnD (h : Pv w wr mb db qb ab V FM FD FP s t ys) {F' : Nat → Prop} (g1 : Dd wx w.heap.size db F' t') (g2 : Off FD wr wx) (g3 : ∀ k, F' k → FD k ∨ wr.heap.size ≤ k) (e1 : t'.pi = t.pi) (e2 : t'.po = t.po) (e3 : t'.pk = t.pk) (e4 : t'.os = t.os) : Vv w wx mb db qb ab V s t' ys := by
  have dp2 : Dp wx w.heap.size qb FP t' := by
    obtain ⟨v, k1, k2⟩ := h.po.dp.off g2 (fun k hk e => (h.po.a2 k e).1 hk)
    exact ⟨v, by rw [e4]; exact k1, k2⟩
  refine ⟨FM, F', FP, ⟨h.po.mv.off g2 (fun k hk => (h.po.a1 k hk).1), g1, dp2, (h.po.pa.off g2 (fun e => (h.po.a2 _ e).2 rfl)).as e1 e2 e3, fun k hk => ⟨fun e' => ?_, (h.po.a1 k hk).2⟩, fun k hk => ?_, h.po.a3, h.po.ga, h.po.bel.trans (g2.below (fun k hk => h.po.dd.ge hk) h.po.mv.le)⟩, h.box.off g2 h.nV.2.1, ⟨h.nV.1, fun e => ?_, h.nV.2.2⟩, h.gV⟩
  · rcases g3 k e' with e | e
    · exact (h.po.a1 k hk).1 e
    · have := h.po.mv.lt hk; omega
  · rcases g3 k hk with e | e
    · exact h.po.a2 k e
    · exact ⟨fun e' => by have := h.po.dp.lt e'; omega, fun e' => by have := h.po.pa.lt; omega⟩
  · rcases g3 V e with e | e
    · exact h.nV.2.1 e
    · have := h.box.lt; omega
/-- The document's Proofs alone have turned. -/
theorem Pv.turnP (h : Pv w wr mb db qb ab V FM FD FP s t ys) {F' : Nat → Prop} (g1 : Dp wx w.heap.size qb F' t') (g2 : Off FP wr wx) (g3 : ∀ k, F' k → FP k ∨ wr.heap.size ≤ k) (e1 : t'.pi = t.pi) (e2 : t'.po = t.po) (e3 : t'.pk = t.pk) (e4 : t'.L = t.L) (e5 : t'.ns = t.ns) (e6 : t'.ls = t.ls) : Vv w wx mb db qb ab V s t' ys := by
  have dd2 : Dd wx w.heap.size db FD t' := by
    obtain ⟨va, vg, gs, k1, k2, k3, k4⟩ := h.po.dd.off g2 (fun k hk => (h.po.a2 k hk).1)
    exact ⟨va, vg, gs, by rw [e4, e5]; exact k1, k2, by rw [e5]; exact k3, by rw [e5, e6]; exact k4⟩
  refine ⟨FM, FD, F', ⟨h.po.mv.off g2 (fun k hk => (h.po.a1 k hk).2.1), dd2, g1, (h.po.pa.off g2 (fun e => h.po.a3 _ e rfl)).as e1 e2 e3, fun k hk => ⟨(h.po.a1 k hk).1, fun e' => ?_, (h.po.a1 k hk).2.2⟩, fun k hk => ⟨fun e' => ?_, (h.po.a2 k hk).2⟩, fun k hk => ?_, h.po.ga, h.po.bel.trans (g2.below (fun k hk => h.po.dp.ge hk) h.po.mv.le)⟩, h.box.off g2 h.nV.2.2.1, ⟨h.nV.1, h.nV.2.1, fun e => ?_, h.nV.2.2.2⟩, h.gV⟩
  · rcases g3 k e' with e | e
    · exact (h.po.a1 k hk).2.1 e
    · have := h.po.mv.lt hk; omega
  · rcases g3 k e' with e | e
    · exact (h.po.a2 k hk).1 e
    · have := h.po.dd.lt hk; omega
  · rcases g3 k hk with e | e
    · exact h.po.a3 k e
    · have := h.po.pa.lt; omega
  · rcases g3 V e with e | e
    · exact h.nV.2.2.1 e
    · have := h.box.lt; omega
theorem v_offer (h : Vv w wr mb db qb ab V s t ys) (n : Int) : Calls Tryd.prog 7 #[.pointer (some ⟨mb, 0, none⟩), .int .i64 n] wr fun e w' => e = .returned (errV (issF s n)) ∧ Vv w w' mb db qb ab V (offS s n) t ys := by
  obtain ⟨FM, FD, FP, h⟩ := h
  exact (m_offer h.po.mv n).mono fun e w' ⟨he, ht⟩ => ⟨he, h.turnM ht⟩
theorem v_came (h : Vv w wr mb db qb ab V s t ys) (i n : Int) : Calls Tryd.prog 9 #[.pointer (some ⟨mb, 0, none⟩), .int .i64 i, .int .i64 n] wr fun e w' => e = .returned (errV (cmF s i n)) ∧ Vv w w' mb db qb ab V (cmS s i n) t ys := by
  obtain ⟨FM, FD, FP, h⟩ := h
  exact (m_came h.po.mv i n).mono fun e w' ⟨he, ht⟩ => ⟨he, h.turnM ht⟩
theorem v_send (h : Vv w wr mb db qb ab V s t ys) (i n : Int) : Calls Tryd.prog 16 #[.pointer (some ⟨mb, 0, none⟩), .int .i64 i, .int .i64 n] wr fun e w' => e = .returned (errV (sdF s i n)) ∧ Vv w w' mb db qb ab V (sdS s i n) t ys := by
  obtain ⟨FM, FD, FP, h⟩ := h
  exact (m_send h.po.mv i n).mono fun e w' ⟨he, ht⟩ => ⟨he, h.turnM ht⟩
theorem v_ask (h : Vv w wr mb db qb ab V s t ys) (i n u : Int) : Calls Tryd.prog 10 #[.pointer (some ⟨mb, 0, none⟩), .int .i64 i, .int .i64 n, .int .i64 u] wr fun e w' => e = .returned (errV (akF s i n u)) ∧ Vv w w' mb db qb ab V (akS s i n u) t ys := by
  obtain ⟨FM, FD, FP, h⟩ := h
  exact (m_ask h.po.mv i n u).mono fun e w' ⟨he, ht⟩ => ⟨he, h.turnM ht⟩
theorem v_answer (h : Vv w wr mb db qb ab V s t ys) (i n u l : Int) : Calls Tryd.prog 12 #[.pointer (some ⟨mb, 0, none⟩), .int .i64 i, .int .i64 n, .int .i64 u, .int .i64 l] wr fun e w' => e = .returned (.tuple #[.bool (Ox.ansB s.os i n u l), errV (Ox.ansF i n u l)]) ∧ Vv w w' mb db qb ab V (anS s i n u l) t ys := by
  obtain ⟨FM, FD, FP, h⟩ := h
  exact (m_answer h.po.mv i n u l).mono fun e w' ⟨he, ht⟩ => ⟨he, h.turnM ht⟩
theorem v_move (h : Vv w wr mb db qb ab V s t ys) (i : Int) : Calls Tryd.prog 11 #[.pointer (some ⟨mb, 0, none⟩), .int .i64 i] wr fun e w' => e = .returned (errV (mvF s i)) ∧ Vv w w' mb db qb ab V (mvS s i) t ys := by
  obtain ⟨FM, FD, FP, h⟩ := h
  exact (m_move h.po.mv i).mono fun e w' ⟨he, ht⟩ => ⟨he, h.turnM ht⟩
theorem o_where (h : Oo w wr mb db qb ab s t) : Calls Tryd.prog 6 #[.pointer (some ⟨mb, 0, none⟩)] wr fun e w' => e = .returned (.tuple #[.int .i64 (whI s), .int .i64 (whQ s), errV (whF s)]) ∧ Oo w w' mb db qb ab s t := by
  have hq := h
  obtain ⟨FM, FD, FP, h⟩ := h
  exact (m_where h.mv).mono fun e w' ⟨he, hb⟩ => ⟨he, hq.below hb⟩
theorem o_path (h : Oo w wr mb db qb ab s t) (j : Nat) (hj : j < 4) : Calls Tryd.prog 21 #[.pointer (some ⟨mb, 0, none⟩), .int .i64 (j : Int)] wr fun e w' => e = .returned (.tuple #[Px.path (s.pi j) (s.po j) (s.pk j), .nilIface]) ∧ Oo w w' mb db qb ab s t := by
  have hq := h
  obtain ⟨FM, FD, FP, h⟩ := h
  exact (m_path h.mv j hj).mono fun e w' ⟨he, hb⟩ => ⟨he, hq.below hb⟩
theorem o_live (h : Oo w wr mb db qb ab s t) (hm : t.ns.length ≤ 100) : Calls Tryd.prog 19 #[.pointer (some ⟨db, 0, none⟩)] wr fun e w' => ∃ u, e = .returned u ∧ w'.ownsRow wr.heap.size 52 2 u t.ls.length (Ix.flat t.ls) ∧ Below wr.heap.size wr w' := by
  obtain ⟨FM, FD, FP, h⟩ := h
  obtain ⟨va, vg, gs, g1, _, g3, g4⟩ := h.dd
  rw [g4]
  exact Ix.rlive_calls g1 g3 hm
theorem d_issue (h : Vv w wr mb db qb ab V s t ys) (hm : t.ns.length ≤ 100) (n : Int) : Calls Tryd.prog 13 #[.pointer (some ⟨db, 0, none⟩), .int .i64 n] wr fun e w' => ∃ r, e = .returned (.tuple #[r, .int .i64 (issF t n)]) ∧ Vv w w' mb db qb ab V s (offS t n) ys := by
  have hq := h
  obtain ⟨FM, FD, FP, h⟩ := h
  obtain ⟨va, vg, gs, g1, g2, g3, g4⟩ := h.po.dd
  have no : ∀ f : Int, f ≠ 0 → issF t n = f → (Calls Tryd.prog 13 #[.pointer (some ⟨db, 0, none⟩), .int .i64 n] wr fun e w' => e = .returned (.tuple #[.agg #[.int .i64 0, .int .i64 0], .int .i64 f]) ∧ Below wr.heap.size wr w') → (Calls Tryd.prog 13 #[.pointer (some ⟨db, 0, none⟩), .int .i64 n] wr fun e w' => ∃ r, e = .returned (.tuple #[r, .int .i64 (issF t n)]) ∧ Vv w w' mb db qb ab V s (offS t n) ys) := fun f h0 hf hc => by
    have e2 : offS t n = t := by simp [offS, hf, h0]
    rw [e2, hf]
    exact hc.mono fun e w' ⟨k1, k2⟩ => ⟨_, k1, hq.below k2⟩
  cases hb : Ix.nameB n with
  | false => exact no 1 (by omega) (by simp [issF, hb]) (Ix.rissue_range g1 g3 hm n hb)
  | true =>
    by_cases hn : n ∈ t.ns
    · exact no 7 (by omega) (by simp [issF, hb, hn]) (Ix.rissue_clash g1 g3 hm n hb hn)
    · cases hf : Ix.fullB t.L t.ns t.ls with
      | true => exact no 4 (by omega) (by simp [issF, hb, hn, hf]) (Ix.rissue_full g1 g3 hm n hb hn (g4 ▸ hf))
      | false =>
        have e1 : issF t n = 0 := by simp [issF, hb, hn, hf]
        have e2 : offS t n = { t with ns := t.ns ++ [n], ls := t.ls ++ [((t.ns.length : Int), n)] } := by simp [offS, e1]
        rw [e1, e2]
        subst g2
        refine (Ix.rissue_yes g1 g3 hm n hb hn (g4 ▸ hf)).mono fun e w' ⟨k1, va', vg', k2, k3, k4⟩ => ⟨_, k1, h.turnD (t' := { t with ns := t.ns ++ [n], ls := t.ls ++ [((t.ns.length : Int), n)] }) ⟨va', vg', gs ++ [false], k2, rfl, by simp [g3], ?_⟩ k3 k4 rfl rfl rfl rfl⟩
        have := Ix.lv_snoc n t.ns gs 0 g3.symm
        simp only
        rw [this, g4]
        simp
theorem d_retire (h : Vv w wr mb db qb ab V s t ys) (hi : Ix.Inv t.L t.ns t.ls) (h0 : 0 < t.ls.length) : Calls Tryd.prog 20 #[.pointer (some ⟨db, 0, none⟩), .int .i64 (Ix.at' t.ls 0).1] wr fun e w' => e = .returned (.int .i64 0) ∧ Vv w w' mb db qb ab V s { t with ls := t.ls.tail } ys := by
  obtain ⟨FM, FD, FP, h⟩ := h
  obtain ⟨va, vg, gs, g1, g2, g3, g4⟩ := h.po.dd
  have hin := isIn_head h0
  have hgo := gone_head hi h0
  generalize hq : (Ix.at' t.ls 0).1 = q at hin hgo ⊢
  clear hq
  rw [g4] at hin
  obtain ⟨j, rfl, hj, hb⟩ := (Ix.lv_isIn g3 q).1 hin
  subst g2
  refine (Ix.rretire_yes g1 g3 hi.many j hj hb).mono fun e w' ⟨k1, k2, k3⟩ => ⟨k1, h.turnD (t' := { t with ls := t.ls.tail }) ⟨va, vg, gs.set j true, k2, rfl, by simp [g3], ?_⟩ k3 (fun k hk => .inl hk) rfl rfl rfl rfl⟩
  have := Ix.lv_set t.ns gs 0 j
  simp only
  rw [this, ← hgo, g4]
  simp [Ix.gone]
theorem d_ask (h : Vv w wr mb db qb ab V s t ys) (hI : t.os.length ≤ 8) (i n u : Int) : Calls Tryd.prog 17 #[.pointer (some ⟨qb, 0, none⟩), .int .i64 i, .int .i64 n, .int .i64 u] wr fun e w' => e = .returned (.int .i64 (Ox.askF t.os i n u)) ∧ Vv w w' mb db qb ab V s { t with os := Ox.askL t.os i n u } ys := by
  obtain ⟨FM, FD, FP, h⟩ := h
  obtain ⟨v, g1, g2⟩ := h.po.dp
  subst g2
  refine (Ox.rask_calls g1 hI i n u).mono fun e w' ⟨k1, v', k2, k3, k4⟩ => ⟨k1, h.turnP (t' := { t with os := Ox.askL t.os i n u }) ⟨v', k2, rfl⟩ k3 (fun k hk => ?_) rfl rfl rfl rfl rfl rfl⟩
  rcases hk with hk | hk
  · exact .inl (.inl hk)
  · exact (k4 k hk).imp .inr id
theorem d_ans (h : Vv w wr mb db qb ab V s t ys) (hI : Ox.Inv t.os) (i n u l : Int) : Calls Tryd.prog 18 #[.pointer (some ⟨qb, 0, none⟩), .int .i64 i, .int .i64 n, .int .i64 u, .int .i64 l] wr fun e w' => e = .returned (.tuple #[.bool (Ox.ansB t.os i n u l), .int .i64 (Ox.ansF i n u l)]) ∧ Vv w w' mb db qb ab V s { t with os := Ox.ansL t.os i n u l } ys := by
  obtain ⟨FM, FD, FP, h⟩ := h
  obtain ⟨v, g1, g2⟩ := h.po.dp
  subst g2
  refine (Ox.rans_calls g1 hI i n u l).mono fun e w' ⟨k1, v', k2, k3, k4⟩ => ⟨k1, h.turnP (t' := { t with os := Ox.ansL t.os i n u l }) ⟨v', k2, rfl⟩ k3 (fun k hk => ?_) rfl rfl rfl rfl rfl rfl⟩
  rcases hk with hk | hk
  · exact .inl (.inl hk)
  · exact (k4 k hk).imp .inr id
theorem same_errV (f : Int) (w : World) (hH : Handle w) : Calls Tryd.prog 8 #[errV f, .int .i64 f] w fun e w' => e = .returned (.bool true) ∧ Below w.heap.size w w' := by
  by_cases h : f = 0
  · subst h
    exact same_nil 0 w
  · rw [errV_f h]
    have := same_err f f w hH
    rw [show (f == f) = true by simp] at this
    exact this
end
end Go.Proofs.YtpnblfabdioanaaDoor
