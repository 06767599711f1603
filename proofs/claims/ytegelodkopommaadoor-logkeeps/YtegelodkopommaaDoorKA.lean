/- The Log of a law, the lists of ranges and of marks that it keeps, and one list of ranges more, side by side. -/
import Derived.Test.YtegelodkopommaaDoorLG
import Derived.Test.YtegelodkopommaaDoorK
import Derived.Test.YtegelodkopommaaDoorDV
import Derived.Test.YtegelodkopommaaDoorG
namespace Go.Proofs.YtegelodkopommaaDoor
open Go.RowKit Go.Lib Go.Sort
set_option linter.unusedVariables false
set_option linter.unusedSimpArgs false

open Lo
def uat (us : List Value) (i : Nat) : Value := us[i]?.getD (.slice none 0 0)
def mks (n : Nat) : List Value := (List.range n).map (fun (i : Nat) => Value.int .i64 ((4 * i : Nat) : Int))
theorem mks_length (n : Nat) : (mks n).length = n := by simp [mks]
theorem mks_snoc (n : Nat) : mks (n + 1) = mks n ++ [Value.int .i64 ((4 * n : Nat) : Int)] := by simp [mks, List.range_succ]
theorem mks_get {n i : Nat} (h : i < n) : (mks n)[i]? = some (Value.int .i64 ((4 * i : Nat) : Int)) := by simp [mks, h]
theorem mks_take {n m : Nat} (h : m ≤ n) : (mks n).take m = mks m := by simp only [mks, ← List.map_take, List.take_range, Nat.min_eq_left h]
theorem uat_old {us : List Value} {v : Value} {i : Nat} (h : i < us.length) : uat (us ++ [v]) i = uat us i := by unfold uat; rw [List.getElem?_append_left h]
theorem uat_new {us : List Value} {v : Value} : uat (us ++ [v]) us.length = v := by simp [uat]
theorem uat_take {us : List Value} {m i : Nat} (h : i < m) : uat (us.take m) i = uat us i := by simp [uat, List.getElem?_take, h]
theorem uat_get {us : List Value} {i : Nat} (h : i < us.length) : us[i]? = some (uat us i) := by simp [uat, h]
theorem apartT {w : World} {B1 B2 e1 e2 s1 s2 n1 n2 : Nat} {v1 v2 : Value} {xs ys : List Value} (he : e1 ≠ e2) (h1 : w.ownsRow B1 e1 s1 v1 n1 xs) (h2 : w.ownsRow B2 e2 s2 v2 n2 ys) {k : Nat} (q1 : v1.ownBlock = some k) (q2 : v2.ownBlock = some k) : False := by
  rcases h1.2 with ⟨rfl, _⟩ | ⟨g, cap, cur, rfl, _, hg, _⟩
  · cases q1
  · rcases h2.2 with ⟨rfl, _⟩ | ⟨g', cap', cur', rfl, _, hg', _⟩
    · cases q2
    · have q1 : g = k := Option.some.inj q1
      have q2 : g' = k := Option.some.inj q2
      rw [q1] at hg
      rw [q2, hg] at hg'
      injection hg' with hg'
      injection hg' with _ h _
      exact he h
/-- A Log, lists of ranges, of marks, and one list of ranges more, all made since w and apart from the Log. -/
structure Kp (w wr : World) (lb : Nat) (F : Nat → Prop) (vd vm xv : Value) (us : List Value) (ds : List Int) (mm : Nat) (xz : List R) (s : Lg) : Prop where
  g : G wr w.heap.size lb F s
  d : wr.ownsRow w.heap.size 34 1 vd us.length us
  dl : us.length = ds.length + 1
  dr : ∀ i, i ≤ ds.length → wr.ownsRow w.heap.size 37 2 (uat us i) (rgN (ds.take i)).length (flat (rgN (ds.take i)))
  m : wr.ownsRow w.heap.size 3 1 vm mm (mks mm)
  xr : wr.ownsRow w.heap.size 37 2 xv xz.length (flat xz)
  a1 : ∀ k, vd.ownBlock = some k → ¬ F k
  a2 : ∀ k, vm.ownBlock = some k → ¬ F k
  a3 : ∀ i k, i ≤ ds.length → (uat us i).ownBlock = some k → ¬ F k
  a4 : ∀ k, xv.ownBlock = some k → ¬ F k
  bel : Below w.heap.size w wr
def Kq (w wr : World) (lb : Nat) (vd vm xv : Value) (us : List Value) (ds : List Int) (mm : Nat) (xz : List R) (s : Lg) : Prop := ∃ F, Kp w wr lb F vd vm xv us ds mm xz s
section
variable {w wr wx : World} {lb : Nat} {F : Nat → Prop} {vd vm xv : Value} {us : List Value} {ds : List Int} {mm : Nat} {xz : List R} {s s' : Lg}
theorem Kq.bel (h : Kq w wr lb vd vm xv us ds mm xz s) : Below w.heap.size w wr := h.choose_spec.bel
theorem Kq.inv (h : Kq w wr lb vd vm xv us ds mm xz s) : LInv s := h.choose_spec.g.inv
theorem Kp.below (h : Kp w wr lb F vd vm xv us ds mm xz s) (hb : Below wr.heap.size wr wx) : Kp w wx lb F vd vm xv us ds mm xz s :=
  ⟨h.g.below hb, own_below h.d hb, h.dl, fun i hi => own_below (h.dr i hi) hb, own_below h.m hb, own_below h.xr hb, h.a1, h.a2, h.a3, h.a4, h.bel.trans (hb.mono h.bel.size)⟩
theorem Kq.below (h : Kq w wr lb vd vm xv us ds mm xz s) (hb : Below wr.heap.size wr wx) : Kq w wx lb vd vm xv us ds mm xz s := by
  obtain ⟨F, h⟩ := h
  exact ⟨F, h.below hb⟩
/-- The Log alone has turned. -/
theorem Kp.turn (h : Kp w wr lb F vd vm xv us ds mm xz s) (ht : Gt wr wx w.heap.size lb F s') : Kq w wx lb vd vm xv us ds mm xz s' := by
  obtain ⟨F', hg, ho, hn⟩ := ht
  have far : ∀ {k : Nat}, k < wr.heap.size → ¬ F k → ¬ F' k := fun hk hf e => by
    rcases hn _ e with e | e
    · exact hf e
    · omega
  exact ⟨F', hg, ho.own h.d h.a1, h.dl, fun i hi => ho.own (h.dr i hi) (fun k e => h.a3 i k hi e), ho.own h.m h.a2, ho.own h.xr h.a4,
    fun k e => far (h.d.lt k e).2 (h.a1 k e), fun k e => far (h.m.lt k e).2 (h.a2 k e), fun i k hi e => far ((h.dr i hi).lt k e).2 (h.a3 i k hi e), fun k e => far (h.xr.lt k e).2 (h.a4 k e), h.bel.trans (ho.below (fun k hk => h.g.ge hk) h.g.le)⟩
theorem k_came (h : Kq w wr lb vd vm xv us ds mm xz s) (n : Int) (h5 : s.ns.length < 100000) : Calls Tryd.prog 7 #[.pointer (some ⟨lb, 0, none⟩), .int .i64 n] wr fun e w' => e = .returned (.tuple #[.bool (caB s n), errV (caF s n)]) ∧ Kq w w' lb vd vm xv us ds mm xz (caS s n) := by
  obtain ⟨F, h⟩ := h
  exact (g_came h.g n h5).mono fun e w' ⟨he, ht⟩ => ⟨he, h.turn ht⟩
theorem k_sync (h : Kq w wr lb vd vm xv us ds mm xz s) : Calls Tryd.prog 9 #[.pointer (some ⟨lb, 0, none⟩)] wr fun e w' => e = .returned (errV (syF s)) ∧ Kq w w' lb vd vm xv us ds mm xz (syS s) := by
  obtain ⟨F, h⟩ := h
  exact (g_sync h.g).mono fun e w' ⟨he, ht⟩ => ⟨he, h.turn ht⟩
theorem k_fail (h : Kq w wr lb vd vm xv us ds mm xz s) (n : Int) (h0 : -9223372036854775808 ≤ n) (h1 : n ≤ 9223372036854775807) : Calls Tryd.prog 6 #[.pointer (some ⟨lb, 0, none⟩), .int .i64 n] wr fun e w' => (∃ v, e = .returned v) ∧ Kq w w' lb vd vm xv us ds mm xz { s with ah := n } := by
  obtain ⟨F, h⟩ := h
  exact (g_fail h.g n h0 h1).mono fun e w' ⟨he, ht⟩ => ⟨he, h.turn ht⟩
theorem k_crash (h : Kq w wr lb vd vm xv us ds mm xz s) (n : Int) (h0 : -9223372036854775808 ≤ n) (h1 : n ≤ 9223372036854775807) : Calls Tryd.prog 10 #[.pointer (some ⟨lb, 0, none⟩), .int .i64 n] wr fun e w' => (∃ v, e = .returned v) ∧ Kq w w' lb vd vm xv us ds mm xz (crS s n) := by
  obtain ⟨F, h⟩ := h
  exact (g_crash h.g n h0 h1).mono fun e w' ⟨he, ht⟩ => ⟨he, h.turn ht⟩
theorem k_bytes (h : Kq w wr lb vd vm xv us ds mm xz s) : Calls Tryd.prog 13 #[.pointer (some ⟨lb, 0, none⟩)] wr fun e w' => e = .returned (.int .i64 ((s.bs.length : Nat) : Int)) ∧ w' = wr := by
  obtain ⟨F, h⟩ := h
  exact g_bytes h.g
theorem k_safe (h : Kq w wr lb vd vm xv us ds mm xz s) : Calls Tryd.prog 12 #[.pointer (some ⟨lb, 0, none⟩)] wr fun e w' => e = .returned (.int .i64 ((s.sf : Nat) : Int)) ∧ w' = wr := by
  obtain ⟨F, h⟩ := h
  exact g_safe h.g
theorem k_all (h : Kq w wr lb vd vm xv us ds mm xz s) : Calls Tryd.prog 14 #[.pointer (some ⟨lb, 0, none⟩)] wr fun e w' => ∃ v, e = .returned v ∧ w'.ownsRow wr.heap.size 37 2 v (rgN s.ns).length (flat (rgN s.ns)) ∧ Kq w w' lb vd vm xv us ds mm xz s ∧ Below wr.heap.size wr w' := by
  have hq := h
  obtain ⟨F, h⟩ := h
  exact (g_all h.g).mono fun e w' ⟨v, he, ho, hb⟩ => ⟨v, he, ho, hq.below hb, hb⟩
/-- One list of ranges more, made by a call. -/
theorem Kq.more (h : Kq w wr lb vd vm xv us ds mm xz s) (hb : Below wr.heap.size wr wx) {v : Value} {zs : List R} (ho : wx.ownsRow wr.heap.size 37 2 v zs.length (flat zs)) : Kq w wx lb vd vm v us ds mm zs s := by
  obtain ⟨F, h⟩ := h
  have h' := h.below hb
  exact ⟨F, h'.g, h'.d, h'.dl, h'.dr, h'.m, own_mono ho h.bel.size, h'.a1, h'.a2, h'.a3, fun k e hf => by have := (ho.lt k e).1; have := h.g.lt hf; omega, h'.bel⟩
theorem Kq.less (h : Kq w wr lb vd vm xv us ds mm xz s) : Kq w wr lb vd vm (.slice none 0 0) us ds mm [] s := by
  obtain ⟨F, h⟩ := h
  exact ⟨F, h.g, h.d, h.dl, h.dr, h.m, World.ownsRow_nil _ _ _ _, h.a1, h.a2, h.a3, (fun k e => by cases e), h.bel⟩
/-- The list of ranges has one more. -/
theorem Kq.appD (h : Kq w wr lb vd vm xv us ds mm xz s) {vd' : Value} {n : Int} (ho : wx.ownsRow w.heap.size 34 1 vd' (us.length + 1) (us ++ [xv])) (hg : wr.grownBy wx vd.ownBlock) (hl : vd'.ownBlock = vd.ownBlock ∨ vd'.ownBlock = some wr.heap.size) (hz : xz = rgN (ds ++ [n])) : Kq w wx lb vd' vm (.slice none 0 0) (us ++ [xv]) (ds ++ [n]) mm [] s := by
  obtain ⟨F, h⟩ := h
  have o : Off (fun k => vd.ownBlock = some k) wr wx := Off.of_grown hg (fun k e => e)
  have hlen : us.length = ds.length + 1 := h.dl
  have k1 : ∀ k, F k → ¬ vd.ownBlock = some k := fun k hf e => h.a1 k e hf
  refine ⟨F, h.g.off o k1, by rw [List.length_append]; exact ho, by simp; omega, fun i hi => ?_, o.own h.m (fun k e e' => apartT (by decide) h.d h.m e' e), World.ownsRow_nil _ _ _ _, fun k e => ?_, h.a2, fun i k hi e => ?_, (fun k e => by cases e), h.bel.trans (o.below (fun k e => (h.d.lt k e).1) h.g.le)⟩
  · rw [List.length_append] at hi
    by_cases e : i ≤ ds.length
    · rw [uat_old (by omega), List.take_append_of_le_length e]
      exact o.own (h.dr i e) (fun k e e' => apartT (by decide) h.d (h.dr i (by assumption)) e' e)
    · have ei : i = us.length := by simp at hi; omega
      rw [ei, uat_new, List.take_of_length_le (by simp; omega), ← hz]
      exact o.own h.xr (fun k e e' => apartT (by decide) h.d h.xr e' e)
  · rcases hl with q | q
    · exact h.a1 k (q.symm.trans e)
    · have : k = wr.heap.size := Option.some.inj (e.symm.trans q)
      intro hf
      have := h.g.lt hf
      omega
  · rw [List.length_append] at hi
    by_cases q : i ≤ ds.length
    · rw [uat_old (by omega)] at e
      exact h.a3 i k q e
    · have ei : i = us.length := by simp at hi; omega
      rw [ei, uat_new] at e
      exact h.a4 k e
/-- The marks have one more. -/
theorem Kq.appM (h : Kq w wr lb vd vm xv us ds mm xz s) {vm' : Value} (ho : wx.ownsRow w.heap.size 3 1 vm' (mm + 1) (mks (mm + 1))) (hg : wr.grownBy wx vm.ownBlock) (hl : vm'.ownBlock = vm.ownBlock ∨ vm'.ownBlock = some wr.heap.size) : Kq w wx lb vd vm' xv us ds (mm + 1) xz s := by
  obtain ⟨F, h⟩ := h
  have o : Off (fun k => vm.ownBlock = some k) wr wx := Off.of_grown hg (fun k e => e)
  have k1 : ∀ k, F k → ¬ vm.ownBlock = some k := fun k hf e => h.a2 k e hf
  refine ⟨F, h.g.off o k1, o.own h.d (fun k e e' => apartT (by decide) h.d h.m e e'), h.dl, fun i hi => o.own (h.dr i hi) (fun k e e' => apartT (by decide) h.m (h.dr i hi) e' e), ho, o.own h.xr (fun k e e' => apartT (by decide) h.m h.xr e' e), h.a1, fun k e => ?_, h.a3, h.a4, h.bel.trans (o.below (fun k e => (h.m.lt k e).1) h.g.le)⟩
  rcases hl with q | q
  · exact h.a2 k (q.symm.trans e)
  · have : k = wr.heap.size := Option.some.inj (e.symm.trans q)
    intro hf
    have := h.g.lt hf
    omega
/-- Both are cut. -/
theorem Kq.cut {ad am : Option Addr} {cd cm : Nat} (h : Kq w wr lb (.slice ad us.length cd) (.slice am mm cm) xv us ds mm xz s) {l : Nat} (hl : l ≤ ds.length) (hm : mm = ds.length + 1) : Kq w wr lb (.slice ad (l + 1) cd) (.slice am (l + 1) cm) xv (us.take (l + 1)) (ds.take l) (l + 1) xz s := by
  obtain ⟨F, h⟩ := h
  have hlen : us.length = ds.length + 1 := h.dl
  have e1 : (us.take (l + 1)).length = l + 1 := by rw [List.length_take]; omega
  have e2 : (ds.take l).length = l := by rw [List.length_take]; omega
  refine ⟨F, h.g, by rw [e1]; exact own_pre h.d (by omega), by rw [e1, e2], fun i hi => ?_, by rw [← mks_take (n := mm) (by omega)]; exact own_pre h.m (by omega), h.xr, fun k e => h.a1 k (ob_len.trans e), fun k e => h.a2 k (ob_len.trans e), fun i k hi e => ?_, h.a4, h.bel⟩
  · rw [e2] at hi
    rw [uat_take (by omega), List.take_take, Nat.min_eq_left hi]
    exact h.dr i (by omega)
  · rw [e2] at hi
    rw [uat_take (by omega)] at e
    exact h.a3 i k (by omega) e
theorem Kq.shD (h : Kq w wr lb vd vm xv us ds mm xz s) : ∃ g c, vd = .slice (some ⟨g, 0, none⟩) us.length c ∧ us.length ≤ c ∧ c ≤ maxLen ∧ (∀ j, j < us.length → wr.cell? ⟨g, j, none⟩ = some (uat us j)) ∧ g < wr.heap.size ∧ us.length = ds.length + 1 := by
  obtain ⟨F, h⟩ := h
  have hlen : us.length = ds.length + 1 := h.dl
  have hd := h.d
  rcases hd.2 with ⟨e, e0⟩ | ⟨g, cap, cur, e, _, hg, hc, hm, _⟩
  · omega
  · refine ⟨g, cap, e, hc, hm, fun j hj => ?_, (Array.getElem?_eq_some_iff.1 hg).1, hlen⟩
    rw [e] at hd
    rw [hd.cellAt j (by omega), uat_get hj]
theorem Kq.shM (h : Kq w wr lb vd vm xv us ds mm xz s) (h0 : 0 < mm) : ∃ g c, vm = .slice (some ⟨g, 0, none⟩) mm c ∧ mm ≤ c ∧ c ≤ maxLen ∧ (∀ j, j < mm → wr.cell? ⟨g, j, none⟩ = some (.int .i64 ((4 * j : Nat) : Int))) ∧ g < wr.heap.size := by
  obtain ⟨F, h⟩ := h
  have hd := h.m
  rcases hd.2 with ⟨e, e0⟩ | ⟨g, cap, cur, e, _, hg, hc, hm, _⟩
  · omega
  · refine ⟨g, cap, e, hc, hm, fun j hj => ?_, (Array.getElem?_eq_some_iff.1 hg).1⟩
    rw [e] at hd
    rw [hd.cellAt j (by omega), mks_get hj]
theorem Kq.rowAt (h : Kq w wr lb vd vm xv us ds mm xz s) {i : Nat} (hi : i ≤ ds.length) (hf : Fit ds) : Row wr (uat us i) (rgN (ds.take i)) := by
  obtain ⟨F, h⟩ := h
  exact row_of_own (h.dr i hi) (by have := (hf.take i).len; omega)
theorem Kq.shU (h : Kq w wr lb vd vm xv us ds mm xz s) {i : Nat} (hi : i ≤ ds.length) : ∃ a c, uat us i = .slice a (rgN (ds.take i)).length c := by
  obtain ⟨F, h⟩ := h
  exact ownSh (h.dr i hi)
theorem Kq.rows (h : Kq w wr lb vd vm xv us ds mm xz s) : wr.ownsRow w.heap.size 34 1 vd us.length us ∧ wr.ownsRow w.heap.size 3 1 vm mm (mks mm) ∧ w.heap.size ≤ wr.heap.size := by
  obtain ⟨F, h⟩ := h
  exact ⟨h.d, h.m, h.g.le⟩
theorem Kq.shX (h : Kq w wr lb vd vm xv us ds mm xz s) : ∃ a c, xv = .slice a xz.length c := by
  obtain ⟨F, h⟩ := h
  exact ownSh h.xr
end
/-- The beginning. -/
theorem k_start {w w1 : World} {lb : Nat} (h : Gq w w1 lb Lg.new) : Kq w ((w1.alloc (.cells #[.slice none 0 0] 34)).alloc (.cells #[.int .i64 0] 3)) lb (.slice (some ⟨w1.heap.size, 0, none⟩) 1 1) (.slice (some ⟨w1.heap.size + 1, 0, none⟩) 1 1) (.slice none 0 0) [.slice none 0 0] [] 1 [] Lg.new := by
  obtain ⟨F, hg, hb⟩ := h
  have b1 : Below w1.heap.size w1 ((w1.alloc (.cells #[.slice none 0 0] 34)).alloc (.cells #[.int .i64 0] 3)) := ((Below.refl _ _).alloc (Nat.le_refl _) _).alloc (by simp) _
  have hd : (w1.alloc (.cells #[.slice none 0 0] 34)).ownsRow w.heap.size 34 1 (.slice (some ⟨w1.heap.size, 0, none⟩) 1 1) 1 [.slice none 0 0] := World.ownsRow_lit (base := w.heap.size) (e := 34) (size := 1) w1 #[.slice none 0 0] 1 hb.size (by unfold maxLen; omega) rfl
  have hm : ((w1.alloc (.cells #[.slice none 0 0] 34)).alloc (.cells #[.int .i64 0] 3)).ownsRow w.heap.size 3 1 (.slice (some ⟨w1.heap.size + 1, 0, none⟩) 1 1) 1 [.int .i64 0] := by
    have := World.ownsRow_lit (base := w.heap.size) (e := 3) (size := 1) (w1.alloc (.cells #[.slice none 0 0] 34)) #[.int .i64 0] 1 (by simp; have := hb.size; omega) (by unfold maxLen; omega) rfl
    rwa [World.size_alloc] at this
  refine ⟨F, hg.below b1, hd.alloc _, rfl, fun i hi => ?_, hm, World.ownsRow_nil _ _ _ _, fun k e hf => ?_, fun k e hf => ?_, fun i k hi e => ?_, (fun k e => by cases e), hb.trans (b1.mono hb.size)⟩
  · have : i = 0 := by simpa using hi
    subst this
    exact World.ownsRow_nil _ _ _ _
  · have e1 : w1.heap.size = k := Option.some.inj e
    have := hg.lt hf
    omega
  · have e1 : w1.heap.size + 1 = k := Option.some.inj e
    have := hg.lt hf
    omega
  · have : i = 0 := by simpa using hi
    subst this
    cases e
end Go.Proofs.YtegelodkopommaaDoor
