/- What next and Take answer, and what they leave. -/
import Derived.Test.YtegelodkopommaaGreatDoorEN
import Derived.Test.YtegelodkopommaaGreatDoorRE
import Derived.Test.YtegelodkopommaaGreatDoorGQ
import Derived.Test.YtegelodkopommaaGreatDoorED
import Derived.Great.Walk
import Derived.Deep.LoopGhost
namespace Go.Proofs.YtegelodkopommaaGreatDoor
open Go.RowKit Go.Lib Go.Sort
set_option linter.unusedVariables false
set_option linter.unusedSimpArgs false


theorem rdP_may {s : ByteArray} {next n : Int} {l : List F} (h : rdP s next = some (n, l)) : isN n = true := by
  obtain ⟨c, h1, _⟩ := rdP_yes h
  unfold rdN at h1
  cases hs : V.ints s with
  | nil => rw [hs] at h1; cases h1
  | cons k r =>
    rw [hs] at h1
    simp only at h1
    split at h1
    · cases h1
    · split at h1
      · cases h1
      · rename_i h3
        simp only [Option.some.injEq, Prod.mk.injEq] at h1
        have h4 := U.near_spec _ _ _ (by simpa using h3)
        rw [← h1.1]
        exact (isN_iff _).2 h4.1
theorem rdP_good {s : ByteArray} {next n : Int} {l : List F} (h : rdP s next = some (n, l)) : l.length ≤ 12 := by
  obtain ⟨c, _, h2⟩ := rdP_yes h
  unfold fin at h2
  cases h3 : rdL (s.extract c s.size) with
  | none => rw [h3] at h2; cases h2
  | some l' =>
    rw [h3] at h2
    simp only [Option.bind_some] at h2
    split at h2
    · cases h2
    · cases h2; omega
set_option maxRecDepth 100000 in
set_option maxHeartbeats 4000000 in
theorem next_none {w : World} {B eb : Nat} {vl vc : Value} {e : En} (h : EO w B eb vl vc e) (h0 : e.cm = []) : Calls Tryz.prog 31 #[.pointer (some ⟨eb, 0, none⟩)] w fun ex w' => ex = .returned (.int .i64 (nextN e)) ∧ w' = w := by
  have c250 := h.cl 250 (by omega)
  rw [ecell_came] at c250
  obtain ⟨ao, c, hvc⟩ := own_sh h.cm
  rw [hvc, h0] at c250
  simp only [List.length_nil] at c250
  have hn : nextN e = 0 := by unfold nextN; rw [h0]
  rw [hn]
  go_enter Tryz.func31, Tryz.ntmps31
  go_wp2_with fail
  go_ret
  exact ⟨rfl, rfl⟩
set_option maxRecDepth 100000 in
set_option maxHeartbeats 4000000 in
theorem next_some {w : World} {B eb : Nat} {vl vc : Value} {e : En} (h : EO w B eb vl vc e) (r : R) (rs : List R) (h0 : e.cm = r :: rs) : Calls Tryz.prog 31 #[.pointer (some ⟨eb, 0, none⟩)] w fun ex w' => ex = .returned (.int .i64 (nextN e)) ∧ w' = w := by
  have c250 := h.cl 250 (by omega)
  rw [ecell_came] at c250
  have hcm := h.cm
  have hg := (chk_ok e.cm).1 h.inv.cm
  rw [h0] at hcm hg
  obtain ⟨g, cap, rfl, _, _⟩ := hcm.form (by simp)
  have y1 := hcm.cellAt 1 (by simp; omega)
  have y2 : (flat (r :: rs))[1]? = some (.int .i64 r.2) := by simp [flat, encR]
  rw [y2] at y1
  have hn : nextN e = r.2 + 1 := by unfold nextN; rw [h0]
  have hb := (hg.2.1 r List.mem_cons_self).2
  have hle := norm_le hg.2.2 r List.mem_cons_self
  have hlo := (hg.2.1 r List.mem_cons_self).1
  rw [hn]
  have hl : 0 < (r :: rs).length := by simp
  clear hcm hg h y2 hn h0
  generalize (r :: rs).length = n at *
  obtain ⟨lo, hi⟩ := r
  simp only at *
  have g1 : ¬ (n : Int) = 0 := by omega
  have g2 : (0 : Int) < (n : Int) := by omega
  go_enter Tryz.func31, Tryz.ntmps31
  go_wp2_with fail
  go_ret
  exact ⟨rfl, rfl⟩
theorem next_calls {w : World} {B eb : Nat} {vl vc : Value} {e : En} (h : EO w B eb vl vc e) : Calls Tryz.prog 31 #[.pointer (some ⟨eb, 0, none⟩)] w fun ex w' => ex = .returned (.int .i64 (nextN e)) ∧ w' = w := by
  cases h0 : e.cm with
  | nil => exact next_none h h0
  | cons r rs => exact next_some h r rs h0
theorem uat_own {w : World} {B : Nat} {v : Value} {us : List Value} {fs : List F} (h : FOwn w B v us fs) {j : Nat} (hj : j < fs.length) {k : Nat} (hk : (uat us j).ownBlock = some k) : k < w.heap.size := ((h.rows j hj).lt k hk).2
theorem FOwn.off {K : Nat → Prop} {w w' : World} {B : Nat} {v : Value} {us : List Value} {fs : List F} (h : FOwn w B v us fs) (ho : Off K w w') (hv : ∀ k, v.ownBlock = some k → ¬ K k) (hu : ∀ j, j < fs.length → ∀ k, (uat us j).ownBlock = some k → ¬ K k) : FOwn w' B v us fs :=
  ⟨h.len, ho.row h.own hv, fun j hj => ho.row (h.rows j hj) (hu j hj), h.good⟩
theorem runF_cons {e : En} {f : F} {fs : List F} (h : (stpE e f).1 = 0) : runF (f :: fs) e = runF fs (stpE e f).2 := by
  simp [runF, h]
theorem runF_stop {e : En} {f : F} {fs : List F} (h : (stpE e f).1 ≠ 0) : runF (f :: fs) e = stpE e f := by
  simp [runF, h]
theorem fdrop {fs : List F} {k : Nat} (h : k < fs.length) : fs.drop k = fat fs k :: fs.drop (k + 1) := by
  rw [List.drop_eq_getElem_cons h, fat_get h]
/-- A copy of an End, in a new block. -/
theorem EO.copy {w W : World} {B eb ab : Nat} {vl vc : Value} {e : En} (h : EO w B eb vl vc e) (hW : Off (fun k => k = ab) w W) (hr : W.rangeAt ab 0 (row 251 (ecell e vl vc))) (hf : ∀ i, W.frozen? ⟨ab, i, none⟩ = false) (ha : w.heap.size ≤ ab) : EO W B ab vl vc e := by
  have hn : ∀ k, OwnE eb vl vc k → k ≠ ab := fun k hk e' => by have := (h.own_lt hk).2; omega
  exact ⟨h.inv, fun i hi => by have := cell_row hr hi; rwa [Nat.zero_add] at this, hf, Nat.le_trans h.le ha, hW.row h.ld (fun k hk => hn k (.inr (.inl hk))), hW.row h.cm (fun k hk => hn k (.inr (.inr hk))), fun e' => hn ab (.inr (.inl e')) rfl, fun e' => hn ab (.inr (.inr e')) rfl⟩
theorem zero_end (W : World) : (zeroValue 82).run Tryz.prog W = .ok (.agg (row 251 (ecell ⟨nilB, 0, 0, 0, 0, [], Sx.newS, ⟨0, 0, 0, 0⟩, []⟩ (.slice none 0 0) (.slice none 0 0))).toArray) W := by kernel_rfl
end Go.Proofs.YtegelodkopommaaGreatDoor
