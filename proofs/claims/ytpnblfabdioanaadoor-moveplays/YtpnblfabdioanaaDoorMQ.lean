/- Which ID it goes by, and the next one; a path in a box of its own beside. -/
import Derived.Test.YtpnblfabdioanaaDoorMP
namespace Go.Proofs.YtpnblfabdioanaaDoor
open Go.RowKit Go.Lib Go.Sort
set_option linter.unusedVariables false
set_option linter.unusedSimpArgs false

/-- By which ID it goes: none was told yet, or the least that is live. -/
def Bv (s : Mv) (bw : Int) : Prop := bw = -1 ∨ (0 < s.ls.length ∧ bw = (Ix.at' s.ls 0).1)
theorem Bv.stay {s s' : Mv} {bw : Int} (h : Bv s bw) (e : s'.ls = s.ls ∨ ∃ y, s'.ls = s.ls ++ [y]) : Bv s' bw := by
  rcases h with h | ⟨h1, h2⟩
  · exact .inl h
  · refine .inr ?_
    rcases e with e | ⟨y, e⟩
    · rw [e]; exact ⟨h1, h2⟩
    · rw [e]
      cases hc : s.ls with
      | nil => rw [hc] at h1; simp at h1
      | cons z zs =>
        rw [hc] at h2
        exact ⟨by simp, by simpa [Ix.at'] using h2⟩
theorem stay_offer (s : Mv) (n : Int) : (offS s n).wh = s.wh ∧ ((offS s n).ls = s.ls ∨ ∃ y, (offS s n).ls = s.ls ++ [y]) := by
  unfold offS
  split
  · exact ⟨rfl, .inr ⟨_, rfl⟩⟩
  · exact ⟨rfl, .inl rfl⟩
theorem stay_came (s : Mv) (i n : Int) : (cmS s i n).wh = s.wh ∧ (cmS s i n).ls = s.ls := by
  unfold cmS
  split <;> exact ⟨rfl, rfl⟩
theorem stay_send (s : Mv) (i n : Int) : (sdS s i n).wh = s.wh ∧ (sdS s i n).ls = s.ls := by
  unfold sdS
  split <;> exact ⟨rfl, rfl⟩
theorem stay_ask (s : Mv) (i n u : Int) : (akS s i n u).wh = s.wh ∧ (akS s i n u).ls = s.ls := by
  unfold akS
  split <;> exact ⟨rfl, rfl⟩
theorem stay_answer (s : Mv) (i n u l : Int) : (anS s i n u l).wh = s.wh ∧ (anS s i n u l).ls = s.ls := by
  unfold anS
  split <;> exact ⟨rfl, rfl⟩
def wsQ (s : Mv) : Int := if s.ls.length = 0 then -1 else (Ix.at' s.ls 0).1
theorem seq_pos {L : Int} {ns : List Int} {ls : List Ix.R} (h : Ix.Inv L ns ls) {r : Nat} (hr : r < ls.length) : 0 ≤ (Ix.at' ls r).1 := by
  obtain ⟨j, h1, _⟩ := h.was _ (Ix.at_mem hr)
  omega
theorem seq_rise {L : Int} {ns : List Int} {ls : List Ix.R} (h : Ix.Inv L ns ls) {r : Nat} (hr : r < ls.length) (h0 : 0 < r) : (Ix.at' ls 0).1 < (Ix.at' ls r).1 := by
  have := List.pairwise_iff_getElem.1 h.rise 0 r (by omega) hr h0
  simpa [Ix.at', hr, (show 0 < ls.length by omega)] using this
/-- The next one: the least but for the first, of those from the place r on. -/
def nx (ls : List Ix.R) (r : Nat) : Int := if max r 1 < ls.length then (Ix.at' ls (max r 1)).1 else -1
theorem nx_end (ls : List Ix.R) : nx ls ls.length = -1 := by
  unfold nx
  rw [if_neg (by omega)]
theorem nx_zero (ls : List Ix.R) : nx ls 0 = nx ls 1 := by simp [nx]
theorem nx_more (ls : List Ix.R) {r : Nat} (hr : r < ls.length) (h0 : 0 < r) : nx ls r = (Ix.at' ls r).1 := by
  have e : max r 1 = r := by omega
  unfold nx
  rw [e, if_pos hr]
theorem nx_none (ls : List Ix.R) (h : ls.length < 2) : nx ls 0 = -1 := by
  rw [nx_zero]
  unfold nx
  rw [if_neg (by omega)]
theorem nx_some (ls : List Ix.R) (h : 2 ≤ ls.length) : nx ls 0 = (Ix.at' ls 1).1 := by
  rw [nx_zero, nx_more ls (by omega) (by omega)]
theorem at_tail (ls : List Ix.R) : Ix.at' ls.tail 0 = Ix.at' ls 1 := by
  cases ls with
  | nil => rfl
  | cons a l => simp [Ix.at']
section
variable {w w' wr wx : World} {db qb ab mb V X : Nat} {s t : Mv} {ys : Nat → Int} {a b : Int} {c : Bool}
/-- And a path in a box of its own. -/
def Vq (w wr : World) (mb db qb ab V X : Nat) (s t : Mv) (ys : Nat → Int) (a b : Int) (c : Bool) : Prop := ∃ FM FD FP, Pv w wr mb db qb ab V FM FD FP s t ys ∧ Px.Box wr X a b c ∧ ¬ FM X ∧ ¬ FD X ∧ ¬ FP X ∧ X ≠ ab ∧ X ≠ V ∧ w.heap.size ≤ X
theorem Vq.vv (h : Vq w wr mb db qb ab V X s t ys a b c) : Vv w wr mb db qb ab V s t ys := by
  obtain ⟨FM, FD, FP, h, _⟩ := h
  exact ⟨FM, FD, FP, h⟩
theorem Vq.box (h : Vq w wr mb db qb ab V X s t ys a b c) : Px.Box wr X a b c := by
  obtain ⟨FM, FD, FP, _, h, _⟩ := h
  exact h
theorem Vq.ne (h : Vq w wr mb db qb ab V X s t ys a b c) : X ≠ ab ∧ X ≠ V := by
  obtain ⟨FM, FD, FP, _, _, _, _, _, h1, h2, _⟩ := h
  exact ⟨h1, h2⟩
theorem Vv.more (h : Vv w wr mb db qb ab V s t ys) (a b : Int) (c : Bool) : Vq w (Px.put wr a b c) mb db qb ab V wr.heap.size s t ys a b c := by
  obtain ⟨FM, FD, FP, h⟩ := h
  exact ⟨FM, FD, FP, h.below (Px.below_put wr a b c), Px.Box.new wr a b c, fun e => by have := h.po.mv.lt e; omega, fun e => by have := h.po.dd.lt e; omega, fun e => by have := h.po.dp.lt e; omega, fun e => by have := h.po.pa.lt; omega, fun e => by have := h.box.lt; omega, h.po.bel.size⟩
theorem Vq.below (h : Vq w wr mb db qb ab V X s t ys a b c) (hb : Below wr.heap.size wr wx) : Vq w wx mb db qb ab V X s t ys a b c := by
  obtain ⟨FM, FD, FP, h1, h2, h3⟩ := h
  exact ⟨FM, FD, FP, h1.below hb, h2.below hb, h3⟩
theorem Vq.drew (h : Vq w wr mb db qb ab V X s t ys a b c) : Vq w wr.drew mb db qb ab V X s t ys a b c := h.below ⟨rfl, rfl, rfl, Nat.le_refl _, fun _ _ => rfl⟩
theorem Vq.setQ (h : Vq w wr mb db qb ab V X s t ys a b c) (a' b' : Int) (c' : Bool) : Vq w (Px.set3 wr X a' b' c') mb db qb ab V X s t ys a' b' c' := by
  obtain ⟨FM, FD, FP, h1, h2, n1, n2, n3, n4, n5, n6⟩ := h
  have o : Off (fun k => k = X) wr (Px.set3 wr X a' b' c') := (((Off.refl _ _).setCell (K := fun k => k = X) rfl _).setCell (K := fun k => k = X) rfl _).setCell (K := fun k => k = X) rfl _
  exact ⟨FM, FD, FP, ⟨h1.po.off o (fun k hk e => n1 (e ▸ hk)) (fun k hk e => n2 (e ▸ hk)) (fun k hk e => n3 (e ▸ hk)) (fun e => n4 e.symm) (fun k e => e ▸ n6), h1.box.off o (fun e => n5 e.symm), h1.nV, h1.gV⟩, h2.set a' b' c', n1, n2, n3, n4, n5, n6⟩
end
theorem below_of_drew {N : Nat} {w w' : World} (h : Below N w.drew w') : Below N w w' := ⟨h.os, h.tape, h.output, h.size, h.block⟩
theorem cm_yes {s : Mv} {j : Nat} {n : Int} (hj : j < 4) (hf : Px.cameF (s.pi j) (s.po j) (s.pk j) n = 0) : cmF s (j : Int) n = 0 ∧ cmS s (j : Int) n = s.setP j (s.pi j + n) (s.po j) (s.pk j) := by
  have e1 : cmF s (j : Int) n = 0 := by unfold cmF; rw [if_pos (ptB_of hj), Int.toNat_natCast]; exact hf
  exact ⟨e1, by simp [cmS, e1]⟩
theorem cm_no {s : Mv} {j : Nat} {n : Int} (hj : j < 4) (hf : Px.cameF (s.pi j) (s.po j) (s.pk j) n ≠ 0) : cmF s (j : Int) n = Px.cameF (s.pi j) (s.po j) (s.pk j) n ∧ cmS s (j : Int) n = s := by
  have e1 : cmF s (j : Int) n = Px.cameF (s.pi j) (s.po j) (s.pk j) n := by unfold cmF; rw [if_pos (ptB_of hj), Int.toNat_natCast]
  exact ⟨e1, by unfold cmS; rw [if_neg (by rw [e1]; exact hf)]⟩
theorem sd_yes {s : Mv} {j : Nat} {n : Int} (hj : j < 4) (hf : Px.sendF (s.pi j) (s.po j) (s.pk j) n = 0) : sdF s (j : Int) n = 0 ∧ sdS s (j : Int) n = s.setP j (s.pi j) (s.po j + n) (s.pk j) := by
  have e1 : sdF s (j : Int) n = 0 := by unfold sdF; rw [if_pos (ptB_of hj), Int.toNat_natCast]; exact hf
  exact ⟨e1, by simp [sdS, e1]⟩
theorem sd_no {s : Mv} {j : Nat} {n : Int} (hj : j < 4) (hf : Px.sendF (s.pi j) (s.po j) (s.pk j) n ≠ 0) : sdF s (j : Int) n = Px.sendF (s.pi j) (s.po j) (s.pk j) n ∧ sdS s (j : Int) n = s := by
  have e1 : sdF s (j : Int) n = Px.sendF (s.pi j) (s.po j) (s.pk j) n := by unfold sdF; rw [if_pos (ptB_of hj), Int.toNat_natCast]
  exact ⟨e1, by unfold sdS; rw [if_neg (by rw [e1]; exact hf)]⟩
theorem ak_no {s : Mv} {j : Nat} {n u : Int} (hj : j < 4) (hh : heardB (s.pi j) (s.pk j) = false) : akF s (j : Int) n u = 5 ∧ akS s (j : Int) n u = s := by
  have e1 : akF s (j : Int) n u = 5 := by simp [akF, ptB_of hj, hh]
  exact ⟨e1, by simp [akS, e1]⟩
theorem ak_yes {s : Mv} {j : Nat} {n u : Int} (hj : j < 4) (hh : heardB (s.pi j) (s.pk j) = true) : akF s (j : Int) n u = Ox.askF s.os (j : Int) n u ∧ akS s (j : Int) n u = { s with os := Ox.askL s.os (j : Int) n u } := by
  have e1 : akF s (j : Int) n u = Ox.askF s.os (j : Int) n u := by simp [akF, ptB_of hj, hh]
  refine ⟨e1, ?_⟩
  by_cases e : Ox.askF s.os (j : Int) n u = 0
  · simp [akS, e1, e]
  · simp [akS, e1, e, Ox.askL]
theorem off_path {s : Mv} {i : Int} (n u : Int) (h : ptB i = false) : cmF s i n = 1 ∧ cmS s i n = s ∧ sdF s i n = 1 ∧ sdS s i n = s ∧ akF s i n u = 1 ∧ akS s i n u = s ∧ mvF s i = 1 ∧ mvS s i = s := by
  simp [cmF, cmS, sdF, sdS, akF, akS, mvF, mvS, h]
theorem an_path {os : List Ox.T} {i n u l : Int} (h : Ox.ansB os i n u l = true) : ptB i = true := by
  have hf : Ox.ansF i n u l = 0 := by
    by_cases e : Ox.ansF i n u l = 0
    · exact e
    · simp [Ox.ansB, e] at h
  unfold Ox.ansF at hf
  split at hf
  · rename_i hh
    have := Ox.right_of hh.1
    exact decide_eq_true (by omega)
  · omega
theorem an_no {s : Mv} {i n u l : Int} (h : Ox.ansB s.os i n u l = false) : anS s i n u l = s ∧ { s with os := Ox.ansL s.os i n u l } = s := by
  have e : Ox.ansL s.os i n u l = s.os := by simp [Ox.ansL, h]
  exact ⟨by simp [anS, h], by rw [e]⟩
theorem an_yes {s : Mv} {j : Nat} {n u l : Int} (h : Ox.ansB s.os (j : Int) n u l = true) : anS s (j : Int) n u l = prI { s with os := Ox.ansL s.os (j : Int) n u l } j := by
  obtain ⟨a, b, c, d, e, f, g, o⟩ := s
  by_cases hz : a j = 0
  · have h3 : (fun k => if k = j ∧ a k ≠ 0 then true else c k) = c := by funext k; by_cases e : k = j <;> simp [e, hz]
    simp only at h
    simp only [anS, h, if_true, prI, hz, Int.toNat_natCast, h3]
  · simp only at h
    have h1 : (fun k => if k = j then a j else a k) = a := by funext k; by_cases e : k = j <;> simp [e]
    have h2 : (fun k => if k = j then b j else b k) = b := by funext k; by_cases e : k = j <;> simp [e]
    have h3 : (fun k => if k = j ∧ a k ≠ 0 then true else c k) = (fun k => if k = j then true else c k) := by funext k; by_cases e : k = j <;> simp [e, hz]
    simp only [anS, h, if_true, prI, hz, if_false, Int.toNat_natCast, h3, Mv.setP, h1, h2]
end Go.Proofs.YtpnblfabdioanaaDoor
