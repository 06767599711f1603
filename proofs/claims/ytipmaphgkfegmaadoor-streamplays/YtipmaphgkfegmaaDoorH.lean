/- The document's stream as it lies in memory: what its calls answer, and leave. -/
import Derived.Test.YtipmaphgkfegmaaDoorD
namespace Go.Proofs.YtipmaphgkfegmaaDoor
open Go.RowKit Go.Lib Go.Sort
set_option linter.unusedVariables false
set_option linter.unusedSimpArgs false

def val (s : St) (i : Nat) : Int := if s.cm i = true then s.byt i else -1
theorem val_yes {s : St} {i : Nat} (h : s.cm i = true) : val s i = s.byt i := if_pos h
theorem val_no {s : St} {i : Nat} (h : s.cm i = false) : val s i = -1 := if_neg (by rw [h]; decide)
/-- The document's stream, in the block sb, not below the block B. -/
structure Ref (w : World) (B sb : Nat) (s : St) : Prop where
  inv : Inv s
  cb : ∀ i, i < 60 → w.cell? ⟨sb, i, none⟩ = some (.int .i64 (val s i))
  ct : w.cell? ⟨sb, 60, none⟩ = some (.int .i64 s.tk)
  fz : ∀ i, i < 61 → w.frozen? ⟨sb, i, none⟩ = false
  hs : B ≤ sb
section
variable {w w' : World} {B sb : Nat} {s : St}
theorem Ref.lt (h : Ref w B sb s) : sb < w.heap.size := World.block_lt_of_cell? w _ h.ct
theorem Ref.le (h : Ref w B sb s) : B ≤ w.heap.size := by have := h.hs; have := h.lt; omega
theorem Ref.off {K : Nat → Prop} (h : Ref w B sb s) (ho : Off K w w') (hK : ¬ K sb) : Ref w' B sb s :=
  ⟨h.inv, fun i hi => ho.cell (h.cb i hi) hK, ho.cell h.ct hK, fun i hi => (ho.frozen (p := ⟨sb, i, none⟩) h.lt hK).trans (h.fz i hi), h.hs⟩
theorem Ref.below (h : Ref w B sb s) (hb : Below w.heap.size w w') : Ref w' B sb s := h.off (Off.of_below (K := fun _ => False) hb) id
theorem Ref.base (h : Ref w B sb s) {B' : Nat} (hb : B' ≤ B) : Ref w B' sb s := ⟨h.inv, h.cb, h.ct, h.fz, Nat.le_trans hb h.hs⟩
theorem val_up (s : St) (a n : Nat) (d : ByteArray) (i : Nat) : val (upS s a d (n + 1)) i = if i = a + n then bat d n else val (upS s a d n) i := by
  unfold val
  rw [upS_cm, upS_byt]
  by_cases e : i = a + n
  · simp [e]
  · simp [e]
theorem Ref.up {a n : Nat} {d : ByteArray} (h : Ref w B sb (upS s a d n)) (hn : a + n < 60) : Ref (w.setCell ⟨sb, a + n, none⟩ (.int .i64 (bat d n))).drew B sb (upS s a d (n + 1)) := by
  have o : Ref (w.setCell ⟨sb, a + n, none⟩ (.int .i64 (bat d n))) B sb (upS s a d (n + 1)) := by
    refine ⟨⟨h.inv.t, fun i => ?_⟩, fun i hi => ?_, cell_next h.ct (by show 60 ≠ a + n; omega), fun i hi => by simpa using h.fz i hi, h.hs⟩
    · rw [upS_byt]
      by_cases e : i = a + n
      · simp only [e, if_true]; exact bat_range _ _
      · simp only [e, if_false]; exact h.inv.b i
    · rw [val_up]
      by_cases e : i = a + n
      · subst e
        simp only [if_true]
        exact World.cell?_setCell_same _ _ _ (h.cb _ hi)
      · simp only [e, if_false]
        exact cell_next (h.cb i hi) e
  exact o.below (below_drewN (Below.refl _ _) 1)
theorem Ref.take (h : Ref w B sb s) {n z : Int} (hz : z = ((s.tk + takeN s n : Nat) : Int)) : Ref (w.setCell ⟨sb, 60, none⟩ (.int .i64 z)) B sb (takeS s n) := by
  subst hz
  exact ⟨h.inv.take n, fun i hi => cell_next (h.cb i hi) (by show i ≠ 60; omega), World.cell?_setCell_same _ _ _ h.ct, fun i hi => by simpa using h.fz i hi, h.hs⟩
end
def RTurned (w w' : World) (B sb : Nat) (s : St) : Prop := Ref w' B sb s ∧ Off (fun k => k = sb) w w'
theorem RTurned.same {w : World} {B sb : Nat} {s : St} (h : Ref w B sb s) : RTurned w w B sb s := ⟨h, Off.refl _ _⟩
theorem RTurned.below {w w' : World} {B sb : Nat} {s : St} (h : Ref w B sb s) (hb : Below w.heap.size w w') : RTurned w w' B sb s := ⟨h.below hb, Off.of_below hb⟩
def zr : Array Value := Array.replicate 61 (.int .i64 0)
theorem zero_ref (w : World) : (zeroValue 59).run Tryd.prog w = .ok (.agg zr) w := by kernel_rfl
/-- A new one, of which the first k places are marked as none. -/
structure Pre (w : World) (sb k : Nat) : Prop where
  cb : ∀ i, i < 60 → w.cell? ⟨sb, i, none⟩ = some (.int .i64 (if i < k then -1 else 0))
  ct : w.cell? ⟨sb, 60, none⟩ = some (.int .i64 0)
  fz : ∀ i, i < 61 → w.frozen? ⟨sb, i, none⟩ = false
theorem Pre.new (w : World) : Pre (w.alloc (.cells zr 59)) w.heap.size 0 := by
  refine ⟨fun i hi => ?_, ?_, fun i hi => ?_⟩
  · have : zr[i]? = some (.int .i64 0) := by rw [zr, Array.getElem?_replicate, if_pos (by omega)]
    simp [this]
  · have : zr[60]? = some (.int .i64 0) := by rw [zr, Array.getElem?_replicate, if_pos (by omega)]
    simp [this]
  · simp
theorem Pre.set {w : World} {sb k : Nat} (h : Pre w sb k) (hk : k < 60) : Pre (w.setCell ⟨sb, k, none⟩ (.int .i64 (-1))) sb (k + 1) := by
  refine ⟨fun i hi => ?_, cell_next h.ct (by show 60 ≠ k; omega), fun i hi => by simpa using h.fz i hi⟩
  by_cases e : i = k
  · subst e
    rw [World.cell?_setCell_same _ _ _ (h.cb i hi), if_pos (by omega)]
  · rw [cell_next (h.cb i hi) e]
    by_cases e2 : i < k
    · rw [if_pos e2, if_pos (by omega)]
    · rw [if_neg e2, if_neg (by omega)]
theorem Pre.ref {w : World} {sb : Nat} (h : Pre w sb 60) : Ref w sb sb newS :=
  ⟨Inv.new, fun i hi => by rw [h.cb i hi, if_pos hi]; rfl, h.ct, h.fz, Nat.le_refl _⟩
set_option maxRecDepth 100000 in
set_option maxHeartbeats 2000000 in
theorem rnew_calls (w : World) : Calls Tryd.prog 11 #[] w fun e w' => e = .returned (.pointer (some ⟨w.heap.size, 0, none⟩)) ∧ Ref w' w.heap.size w.heap.size newS ∧ Below w.heap.size w w' := by
  have hP := Pre.new w
  have hb : Below w.heap.size w (w.alloc (.cells zr 59)) := (Below.refl _ _).alloc (Nat.le_refl _) _
  have hz := zero_ref
  generalize zr = z at hP hb hz
  go_enter Tryd.func11, Tryd.ntmps11
  go_wp2_with fail
  clear hz
  generalize w.alloc (.cells z 59) = W at hP hb ⊢
  go_loopg [2] 60 (fun gk s2 wr => ∃ k : Nat, gk + k = 60 ∧ s2 = .int .i64 k ∧ Pre wr w.heap.size k ∧ Below w.heap.size w wr)
  case atStart => exact ⟨0, rfl, rfl, hP, hb⟩
  case round =>
    clear hP hb
    obtain ⟨k, hk, rfl, hP, hb⟩ := hrel
    have HK : Hid (gk + k = 60) := hk
    clear hk
    by_cases g : (k : Int) < 60
    · have c := hP.cb k (by omega)
      have f := hP.fz k (by omega)
      have hP2 := hP.set (show k < 60 by omega)
      have hb2 : Below w.heap.size w (wr.setCell ⟨w.heap.size, k, none⟩ (.int .i64 (-1))) := hb.trans (((Off.refl (fun j => j = w.heap.size) wr).setCell (a := ⟨w.heap.size, k, none⟩) rfl (.int .i64 (-1))).below (fun j e => by rw [e]; exact Nat.le_refl _) hb.size)
      go_wp2_with fail
      go_roundg (60 - (k + 1))
      case measure => have := HK.out; omega
      case rel => exact ⟨k + 1, by have := HK.out; omega, by go_num, hP2, hb2⟩
    · have e : k = 60 := by have := HK.out; omega
      subst e
      go_wp2_with fail
      go_ret
      exact ⟨rfl, hP.ref, hb⟩

set_option maxRecDepth 100000 in
set_option maxHeartbeats 2000000 in
theorem rready_quiet {w : World} {B sb : Nat} {s : St} (h : Ref w B sb s) : Calls Tryd.prog 14 #[.pointer (some ⟨sb, 0, none⟩)] w fun e w' => e = .returned (.int .i64 (rdy s : Int)) ∧ ∃ m, w' = w.drewN m := by
  have ht := h.inv.t
  have c0 := h.ct
  have HS : Hid (∀ n, n < 60 - s.tk → (∀ i, i < n → s.cm (s.tk + i) = true) → s.cm (s.tk + n) = false → (rdy s : Int) = n) := by
    show ∀ n, _ → _ → _ → _
    intro n h1 h2 h3
    rw [rdy, run_stop _ _ _ n h2 h1 h3]
  have HA : Hid ((∀ i, i < 60 - s.tk → s.cm (s.tk + i) = true) → (rdy s : Int) = ((60 - s.tk : Nat) : Int)) := by
    show _ → _
    intro h1
    rw [rdy, run_all _ _ _ h1]
  obtain ⟨r, hr⟩ : ∃ r : Int, (rdy s : Int) = r := ⟨_, rfl⟩
  rw [hr]
  rw [hr] at HS HA
  clear hr
  have HC : Hid (∀ i, i < 60 → w.cell? ⟨sb, i, none⟩ = some (.int .i64 (val s i))) := h.cb
  have HB := h.inv.b
  have HV : Hid (∀ i, (s.cm i = true → 0 ≤ val s i) ∧ (s.cm i = false → val s i = -1)) := by
    show ∀ i, _
    intro i
    exact ⟨fun e => by rw [val_yes e]; exact (HB i).1, fun e => val_no e⟩
  clear h HB
  generalize hT : s.tk = T at *
  generalize val s = vl at HC HV
  generalize s.cm = cm at HS HA HV
  clear hT
  go_enter Tryd.func14, Tryd.ntmps14
  go_wp2_with fail
  go_loopg [3] (60 - T) (fun gk s3 wr => ∃ k m : Nat, gk + k = 60 - T ∧ s3 = .int .i64 k ∧ Hid (∀ i, i < k → cm (T + i) = true) ∧ Hid (wr = w.drewN m))
  case atStart => exact ⟨0, 0, rfl, rfl, (show ∀ i, i < 0 → cm (T + i) = true from fun i hi => by omega), rfl⟩
  case round =>
    obtain ⟨k, m, hk, rfl, hE, HW⟩ := hrel
    have HK : Hid (gk + k = 60 - T) := hk
    clear hk
    have d0 : wr.cell? ⟨sb, 60, none⟩ = some (.int .i64 (T : Int)) := by rw [HW.out]; exact c0
    have HW2 : Hid (∀ q, ∃ m, wr.drewN q = w.drewN m) := by show ∀ q, _; intro q; rw [HW.out, World.drewN_drewN]; exact ⟨_, rfl⟩
    have u1 := wrap_small ((T : Int) + (k : Int)) (by have := HK.out; omega) (by have := HK.out; omega)
    by_cases g : (T : Int) + (k : Int) < 60
    · have x1 : wr.cell? ⟨sb, T + k, none⟩ = some (.int .i64 (vl (T + k))) := by rw [HW.out]; exact HC.out (T + k) (by omega)
      cases hc : cm (T + k) with
      | true =>
        have hv := (HV.out (T + k)).1 hc
        generalize vl (T + k) = y at x1 hv
        have HE : Hid (∀ i, i < k + 1 → cm (T + i) = true) := by
          show ∀ i, _ → _
          intro i hi
          by_cases e : i = k
          · rw [e]; exact hc
          · exact hE.out i (by omega)
        clear hc hE
        go_wp2_with fail
        go_quiet (fail)
        go_wp2_with fail
        go_roundg (60 - T - (k + 1))
        case measure => have := HK.out; omega
        case rel =>
          obtain ⟨m2, e2⟩ := HW2.out _
          exact ⟨k + 1, m2, by have := HK.out; omega, by go_num, HE, e2⟩
      | false =>
        have hv := (HV.out (T + k)).2 hc
        rw [hv] at x1
        have HR : Hid (r = (k : Int)) := HS.out k (by omega) hE.out hc
        clear hc hE hv
        go_wp2_with fail
        go_quiet (fail)
        go_wp2_with fail
        go_ret
        exact ⟨by rw [HR.out]; rfl, HW2.out _⟩
    · have HR : Hid (r = (k : Int)) := by
        have e : (60 - T : Nat) = k := by have := HK.out; omega
        have := HA.out fun i hi => hE.out i (by omega)
        rw [e] at this
        exact this
      have g' : decide ((T : Int) + (k : Int) < 60) = false := decide_eq_false g
      go_wp2_with fail
      go_quiet (fail)
      go_wp2_with fail
      go_ret
      exact ⟨by rw [HR.out]; rfl, HW2.out _⟩
theorem rready_calls {w : World} {B sb : Nat} {s : St} (h : Ref w B sb s) : Calls Tryd.prog 14 #[.pointer (some ⟨sb, 0, none⟩)] w fun e w' => e = .returned (.int .i64 (rdy s : Int)) ∧ Below w.heap.size w w' :=
  (rready_quiet h).mono fun e w' ⟨h1, m, h2⟩ => ⟨h1, by rw [h2]; exact below_drewN (Below.refl _ _) m⟩

set_option maxRecDepth 100000 in
set_option maxHeartbeats 2000000 in
theorem rgaps_own {w : World} {B sb : Nat} {s : St} (h : Ref w B sb s) : Calls Tryd.prog 16 #[.pointer (some ⟨sb, 0, none⟩)] w fun e w' => ∃ v, e = .returned v ∧ w'.ownsRow w.heap.size 56 2 v (gaps s).length (flat (gaps s)) ∧ Below w.heap.size w w' := by
  obtain ⟨i0, hi0, hz0, hz1, hz2⟩ := info_parts infoR
  have hsb := h.lt
  have HC : Hid (∀ i, i < 60 → w.cell? ⟨sb, i, none⟩ = some (.int .i64 (val s i))) := h.cb
  have HB := h.inv.b
  have HV : Hid (∀ i, (s.cm i = true → 0 ≤ val s i) ∧ (s.cm i = false → val s i = -1)) := by
    show ∀ i, _
    intro i
    exact ⟨fun e => by rw [val_yes e]; exact (HB i).1, fun e => val_no e⟩
  generalize val s = vl at HC HV
  have HG : Hid (gaps s = (gp s.cm 60).1) := rfl
  clear h
  clear HB
  generalize s.cm = cm at HV HG
  go_enter Tryd.func16, Tryd.ntmps16
  go_wp2_with fail
  go_loopg [3, 4, 5] 60 (fun gk s3 s4 s5 wr => ∃ (k n : Nat) (ao : Option Addr) (c : Nat) (l : List R), gk + k = 60 ∧ Hid (gp cm k = (l, n)) ∧ s3 = .slice ao l.length c ∧ s4 = .int .i64 n ∧ s5 = .int .i64 k ∧ wr.ownsRow w.heap.size 56 2 (.slice ao l.length c) l.length (flat l) ∧ Below w.heap.size w wr)
  case atStart => exact ⟨0, 0, none, 0, [], rfl, rfl, rfl, rfl, rfl, World.ownsRow_nil _ _ _ _, Below.refl _ _⟩
  case round =>
    obtain ⟨k, n, ao, c, l, hk, hG, rfl, rfl, rfl, hown, hB⟩ := hrel
    have HK : Hid (gk + k = 60) := hk
    clear hk
    by_cases g : (k : Int) < 60
    · have hle := gp_le cm k
      rw [hG.out] at hle
      simp only at hle
      obtain ⟨hle1, hle2⟩ := hle
      have x1 := (hB.cell (p := ⟨sb, k, none⟩) hsb).trans (HC.out k (by omega))
      cases hc : cm k with
      | false =>
        rw [(HV.out k).2 hc] at x1
        have HE : Hid (gp cm (k + 1) = (l, n)) := by show _ = _; rw [gp_no hc]; exact hG.out
        clear hc hG
        go_wp2_with fail
        go_roundg (60 - (k + 1))
        case measure => have := HK.out; omega
        case rel => exact ⟨k + 1, n, ao, c, l, by have := HK.out; omega, HE, rfl, rfl, by go_num, hown, hB⟩
      | true =>
        have hv := (HV.out k).1 hc
        generalize vl k = y at x1 hv
        by_cases g2 : (n : Int) < (k : Int)
        · have HE : Hid (gp cm (k + 1) = (l ++ [((n : Int), (k : Int) - 1)], k + 1)) := by
            show _ = _
            rw [gp_far hc (by rw [hG.out]; show n < k; omega), hG.out]
          clear hc hG
          have u1 := wrap_small ((k : Int) - 1) (by omega) (by omega)
          have ba : Below wr.heap.size wr (wr.alloc (.cells #[.int .i64 (n : Int), .int .i64 ((k : Int) - 1)] 56)) := (Below.refl _ _).alloc (Nat.le_refl _) _
          have hrow := own_below hown ba
          have hB2 := hB.trans (ba.mono hB.size)
          have hle2 : w.heap.size ≤ (wr.alloc (.cells #[.int .i64 (n : Int), .int .i64 ((k : Int) - 1)] 56)).heap.size := hB2.size
          go_wp2_with (at_builtin; refine wpList_append_own_at _ rfl (.tmp 20) (.tmp 25) 35 rfl w.heap.size 56 i0 _ 2 16 Tryd.underlying35 hi0 hz0 hz1 hz2 rfl (by decide) _ _ (flat l) rfl hrow ⟨wr.heap.size, 0, none⟩ 1 1 (flat [((n : Int), (k : Int) - 1)]) rfl rfl (cells_two_new wr _ _) (fun u hu => flat_one u hu) (by unfold maxLen; omega) (by omega) hle2 ?_; intro v3 w12 ho12 hg12 _ hl12; obtain ⟨g3, cap3, rfl⟩ := own_shape ho12 (by omega))
          have hB3 := hB2.grown hg12 hle2 (fun k e => (hrow.lt k e).1)
          have hl2 : (l ++ [((n : Int), (k : Int) - 1)]).length = l.length + 1 := by simp
          go_roundg (60 - (k + 1))
          case measure => have := HK.out; omega
          case rel => exact ⟨k + 1, k + 1, some ⟨g3, 0, none⟩, cap3, _, by have := HK.out; omega, HE, by rw [hl2], by go_num, by go_num, by rw [hl2, flat_append]; exact ho12, hB3⟩
        · have HE : Hid (gp cm (k + 1) = (l, k + 1)) := by
            show _ = _
            rw [gp_near hc (by rw [hG.out]; show k ≤ n; omega), hG.out]
          clear hc hG
          go_wp2_with fail
          go_roundg (60 - (k + 1))
          case measure => have := HK.out; omega
          case rel => exact ⟨k + 1, k + 1, ao, c, l, by have := HK.out; omega, HE, rfl, by go_num, by go_num, hown, hB⟩
    · have HE : Hid (gaps s = l) := by
        have h1 : k = 60 := by have := HK.out; omega
        show _ = _
        rw [HG.out, ← h1, hG.out]
      clear HG hG
      go_wp2_with fail
      go_ret
      exact ⟨_, rfl, by rw [HE.out]; exact hown, hB⟩
theorem rgaps_calls {w : World} {B sb : Nat} {s : St} (h : Ref w B sb s) : Calls Tryd.prog 16 #[.pointer (some ⟨sb, 0, none⟩)] w fun e w' => ∃ v, e = .returned v ∧ Row w' v (gaps s) ∧ Below w.heap.size w w' :=
  (rgaps_own h).mono fun e w' ⟨v, h1, h2, h3⟩ => ⟨v, h1, row_of_own h2 (Nat.le_trans (gp_le s.cm 60).2 (by omega)), h3⟩
end Go.Proofs.YtipmaphgkfegmaaDoor
