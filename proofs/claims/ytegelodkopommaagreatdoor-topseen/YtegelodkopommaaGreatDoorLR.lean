/- recordOf. -/
import Derived.Test.YtegelodkopommaaGreatDoorLB
import Derived.RangeFuncNested
import Derived.RangeFuncBox
import Derived.RangeFuncLeaves
namespace Go.Proofs.YtegelodkopommaaGreatDoor.Lo
open Go.RowKit Go.Shelf Go.Lib
attribute [local go_sem] Oper.semAt_some
set_option linter.unusedVariables false
set_option linter.unusedSimpArgs false

theorem rmk (w : World) : (Instr.makeSlice 50 (.int .i64 4) (.int .i64 4)).run Tryz.prog w = .ok (.slice (some ⟨w.heap.size, 0, none⟩) 4 4) (w.alloc (.cells #[.int .u8 0, .int .u8 0, .int .u8 0, .int .u8 0] 5)) := by kernel_rfl
theorem after_rec (n : Int) (h : 0 ≤ n) (h1 : n ≤ 1073741823) : (V.after n [0, 0, 0, 0] (V.downto 4 4)).2 = recF n := by
  simp [V.after, V.step, V.downto, recF, List.range_succ] <;> omega
set_option maxRecDepth 100000 in
set_option maxHeartbeats 2000000 in
theorem recordOf_calls (n : Int) (w : World) (h0 : 0 ≤ n) (h1 : n ≤ 1073741823) : Calls Tryz.prog 24 #[.int .i64 n] w fun e w' => ∃ g, e = .returned (.slice (some ⟨g, 0, none⟩) 4 4) ∧ V.Byt w' g (recF n) ∧ w.heap.size ≤ g ∧ Below w.heap.size w w' := by
  refine (callsIn_wide (n := 4)).1 ?_
  have f3 : Fence.wide.fn 42 := trivial
  have hmk := rmk
  obtain ⟨xs, hxs⟩ : ∃ xs, xs = recF n := ⟨_, rfl⟩
  have HXS : Hid ((V.after n [0, 0, 0, 0] (V.downto 4 4)).2 = xs) := (after_rec n h0 h1).trans hxs.symm
  have h2 : n < 4294967296 := by omega
  have HH : Hid (0 ≤ n ∧ n < 4294967296) := ⟨h0, h2⟩
  rw [← hxs]
  have HX : Hid (xs = recF n) := hxs
  clear hxs
  refine callsIn_of_wp_marks Tryz.func24 rfl trivial ?_ rfl
  simp only [Tryz.ntmps24, List.size_toArray, List.length_cons, List.length_nil, Nat.reduceAdd, Nat.reduceSub, Array.replicate_succ, Array.replicate_zero, List.push_toArray, List.append_toArray, List.nil_append, List.cons_append]
  gi_wp2_with (gi_at_call 42; refine (V.back_in Fence.wide 3 trivial rfl _ _ _ _).mono ?_; rintro e w' ⟨rfl, rfl⟩)
  clear hmk
  obtain ⟨W0, hW0⟩ : ∃ W0, ((((w.alloc (.cells #[.int .i64 n] 3)).alloc (.cells #[.int .u8 0, .int .u8 0, .int .u8 0, .int .u8 0] 5)).alloc (.cells #[(.slice (some ⟨w.heap.size + 1, 0, none⟩) 4 4)] 50)).alloc (.cells #[(.slice (some ⟨w.heap.size + 1, 0, none⟩) 4 4)] 50)) = W0 := ⟨_, rfl⟩
  have sz : W0.heap.size = w.heap.size + 4 := by rw [← hW0]; simp
  have bR : Boxed W0 w.heap.size 3 (.int .i64 n) := by rw [← hW0]; exact (((Boxed.new w 3 _).alloc _).alloc _).alloc _
  have bB : V.Byt W0 (w.heap.size + 1) [0, 0, 0, 0] := by
    rw [← hW0]
    have h : V.Byt ((w.alloc (.cells #[.int .i64 n] 3)).alloc (.cells #[.int .u8 0, .int .u8 0, .int .u8 0, .int .u8 0] 5)) (w.heap.size + 1) [0, 0, 0, 0] := by
      have := World.alloc_heap_new (w.alloc (.cells #[.int .i64 n] 3)) (.cells #[.int .u8 0, .int .u8 0, .int .u8 0, .int .u8 0] 5)
      rwa [World.size_alloc] at this
    exact (h.alloc _).alloc _
  have bS : Boxed W0 (w.heap.size + 1 + 1) 50 (.slice (some ⟨w.heap.size + 1, 0, none⟩) 4 4) := by
    rw [← hW0]
    have h := Boxed.new ((w.alloc (.cells #[.int .i64 n] 3)).alloc (.cells #[.int .u8 0, .int .u8 0, .int .u8 0, .int .u8 0] 5)) 50 (.slice (some ⟨w.heap.size + 1, 0, none⟩) 4 4)
    rw [World.size_alloc, World.size_alloc] at h
    exact h.alloc _
  have bH : Boxed W0 (w.heap.size + 1 + 1 + 1) 50 (.slice (some ⟨w.heap.size + 1, 0, none⟩) 4 4) := by
    rw [← hW0]
    have h := Boxed.new (((w.alloc (.cells #[.int .i64 n] 3)).alloc (.cells #[.int .u8 0, .int .u8 0, .int .u8 0, .int .u8 0] 5)).alloc (.cells #[(.slice (some ⟨w.heap.size + 1, 0, none⟩) 4 4)] 50)) 50 (.slice (some ⟨w.heap.size + 1, 0, none⟩) 4 4)
    rw [World.size_alloc, World.size_alloc, World.size_alloc] at h
    exact h
  have hB0 : Below w.heap.size w W0 := by
    rw [← hW0]
    exact (((((Below.refl _ w).alloc (Nat.le_refl _) _).alloc (by simp <;> omega) _).alloc (by simp <;> omega) _).alloc (by simp <;> omega) _)
  rw [hW0]
  clear hW0
  refine wpIn_rangeFunc_ownG rfl (by decide) (gf := 65) (lb := #[.pointer (some ⟨w.heap.size + 1 + 1 + 1, 0, none⟩)]) rfl trivial (enters_of Tryz.func65 (by kernel_rfl) rfl)
    (V.back_stops Fence.wide (4 - 1) trivial rfl (by decide) (w.heap.size + 1 + 1 + 1) (w.heap.size + 1) 4 4 (by decide) W0 (by omega) (by omega) ⟨bH.cell, fun j hj => ⟨_, bB.cell j hj⟩⟩)
    (fun h k hR => k (h hR)) (V.KpRow.put (w := W0)) (Below.refl _ _) (fun _ => rfl)
    (fun pre W => Boxed W w.heap.size 3 (.int .i64 (V.after n [0, 0, 0, 0] (pre.map fun x => x.1.1)).1) ∧ V.Byt W (w.heap.size + 1) (V.after n [0, 0, 0, 0] (pre.map fun x => x.1.1)).2 ∧ Boxed W (w.heap.size + 1 + 1) 50 (.slice (some ⟨w.heap.size + 1, 0, none⟩) 4 4) ∧ Boxed W (w.heap.size + 1 + 1 + 1) 50 (.slice (some ⟨w.heap.size + 1, 0, none⟩) 4 4) ∧ Below w.heap.size w W)
    (fun _ _ _ => False)
    (OwnFrom.and (Own.from (boxed_own _ _ _) _) (OwnFrom.and (Own.from (V.Byt.own _ _) _) (OwnFrom.and (Own.from (boxed_own _ _ _) _) (OwnFrom.and (Own.from (boxed_own _ _ _) _) (ownFrom_below (Nat.le_refl _) (by omega))))))
    (fun _ _ _ _ _ hs _ _ => hs)
    ⟨bR, bB, bS, bH, hB0⟩
    (fun x => { tmps := #[.int .i64 n, .pointer (some ⟨w.heap.size, 0, none⟩), .slice none 0 0, .pointer (some ⟨w.heap.size + 1 + 1, 0, none⟩), .int .i64 (x.1.1 : Int), (.slice (some ⟨w.heap.size + 1, 0, none⟩) 4 4), (.slice (some ⟨w.heap.size + 1, 0, none⟩) 4 4), .func (.func 65) #[] #[.pointer (some ⟨w.heap.size + 1 + 1 + 1, 0, none⟩)], .int .i64 (x.1.1 : Int), .int .u8 x.1.2, undef, undef, undef, undef, undef, undef, undef, undef], defers := [] }) ?assign ?body ?done ?stop
  case assign =>
    intro l x W K hK
    gi_wp2
    exact hK
  case body =>
    rintro l pre ⟨⟨i, v⟩, hx⟩ W ⟨kR, kB, kS, kH, hB⟩ _
    have hx : i < 4 := hx
    have hlen := V.after_len n [0, 0, 0, 0] (pre.map fun x => x.1.1)
    have hbd := V.after_bd n [0, 0, 0, 0] (pre.map fun x => x.1.1) HH.out.1 HH.out.2
    have sn := V.after_snoc n [0, 0, 0, 0] (pre.map fun x => x.1.1) i
    have kc := kB.cell i (by rw [hlen]; exact hx)
    have kf := kB.frozen i
    have HS : Hid (V.after n [0, 0, 0, 0] (pre.map (fun x => x.1.1) ++ [i]) = V.step (V.after n [0, 0, 0, 0] (pre.map fun x => x.1.1)) i) := sn
    have HL : Hid ((V.after n [0, 0, 0, 0] (pre.map fun x => x.1.1)).2.length = 4) := hlen
    clear sn hlen
    generalize V.after n [0, 0, 0, 0] (pre.map fun x => x.1.1) = st at *
    have kRc := kR.cell
    have kRf := kR.frozen
    have kSc := kS.cell
    obtain ⟨hbd0, hbd1⟩ := hbd
    have g1 : ((i : Nat) : Int) < 4 := by omega
    gi_wp2
    have kB' := (kB.set i (st.1 % 256)).other (B' := w.heap.size) (by omega) (.int .i64 (st.1 / 256))
    have kR' := (V.Boxed.otherRow (B' := w.heap.size + 1) (j := i) kR (by omega) (.int .u8 (st.1 % 256))).set (.int .i64 (st.1 / 256))
    have kS' := (V.Boxed.otherRow (B' := w.heap.size + 1) (j := i) kS (by omega) (.int .u8 (st.1 % 256))).other (B' := w.heap.size) (by omega) (.int .i64 (st.1 / 256))
    have kH' := (V.Boxed.otherRow (B' := w.heap.size + 1) (j := i) kH (by omega) (.int .u8 (st.1 % 256))).other (B' := w.heap.size) (by omega) (.int .i64 (st.1 / 256))
    have hB' := (hB.setCell (p := ⟨w.heap.size + 1, i, none⟩) (by show w.heap.size ≤ w.heap.size + 1; omega) (.int .u8 (st.1 % 256))).setCell (p := ⟨w.heap.size, 0, none⟩) (Nat.le_refl _) (.int .i64 (st.1 / 256))
    have hL : (st.2.set i (st.1 % 256)).length = 4 := by rw [List.length_set]; exact HL.out
    refine ⟨((KeepsOthers.setCell _ _ _).trans (KeepsOthers.setCell _ _ _)).from _, fun _ => ⟨kH'.cell, fun j hj => ⟨_, kB'.cell j (by rw [hL]; exact hj)⟩⟩, ?_, ?_, kS', kH', hB'⟩
    · rw [List.map_append]
      show Boxed _ _ _ (.int .i64 (V.after n [0, 0, 0, 0] (pre.map (fun x => x.1.1) ++ [i])).1)
      rw [HS.out]; exact kR'
    · rw [List.map_append]
      show V.Byt _ _ (V.after n [0, 0, 0, 0] (pre.map (fun x => x.1.1) ++ [i])).2
      rw [HS.out]; exact kB'
  case done =>
    rintro D ys W hD hys ⟨kR, kB, kS, kH, hB⟩ hK
    rw [hys, HXS.out] at kB
    have HB4 : Hid (V.Byt (W.putObj D (.deferred none)) (w.heap.size + 1) xs) := kB.kept (grownBy_putObj' W D (.deferred none)) (fun e => by
      have e1 : w.heap.size + 1 = D := Option.some.inj e
      rw [e1] at kB
      have := hK.symm.trans (show W.heap[D]? = _ from kB)
      cases this)
    have kSc := kS.cell
    clear hys
    gi_wp2
    refine ⟨by simp, .inl ⟨_, _, rfl, run_takeDeferred hK, ?_⟩⟩
    exact ⟨_, results_tmp rfl _ _ _, ⟨_, rfl, HB4.out, Nat.le_succ _, hB.trans (belowK_b (w := w) (Nat.le_refl _) _ D _ _ (by omega) hK rfl rfl)⟩⟩
  case stop =>
    rintro D c pre W _ _ h _
    exact h.elim
end Go.Proofs.YtegelodkopommaaGreatDoor.Lo
