/- What printNumber answers. -/
import Derived.Test.YtoabfilliiopmaaDoorQB
import Derived.RangeFuncNested
import Derived.RangeFuncBox
import Derived.RangeFuncLeaves
namespace Go.Proofs.YtoabfilliiopmaaDoor
open Go.RowKit Go.Shelf Go.Lib
attribute [local go_sem] Oper.semAt_some
set_option linter.unusedVariables false
set_option linter.unusedSimpArgs false

theorem qmk1 (w : World) : (Instr.makeSlice 86 (.int .i64 1) (.int .i64 1)).run Tryd.prog w = .ok (.slice (some ⟨w.heap.size, 0, none⟩) 1 1) (w.alloc (.cells #[.int .u8 0] 5)) := by kernel_rfl
theorem qmk2 (w : World) : (Instr.makeSlice 86 (.int .i64 2) (.int .i64 2)).run Tryd.prog w = .ok (.slice (some ⟨w.heap.size, 0, none⟩) 2 2) (w.alloc (.cells #[.int .u8 0, .int .u8 0] 5)) := by kernel_rfl
theorem qmk3 (w : World) : (Instr.makeSlice 86 (.int .i64 3) (.int .i64 3)).run Tryd.prog w = .ok (.slice (some ⟨w.heap.size, 0, none⟩) 3 3) (w.alloc (.cells #[.int .u8 0, .int .u8 0, .int .u8 0] 5)) := by kernel_rfl
theorem qmk4 (w : World) : (Instr.makeSlice 86 (.int .i64 4) (.int .i64 4)).run Tryd.prog w = .ok (.slice (some ⟨w.heap.size, 0, none⟩) 4 4) (w.alloc (.cells #[.int .u8 0, .int .u8 0, .int .u8 0, .int .u8 0] 5)) := by kernel_rfl
set_option maxRecDepth 100000 in
set_option maxHeartbeats 2000000 in
theorem pnum_1 (n k c : Int) (w : World) (hne : ∀ W, Calls Tryd.prog 34 #[.int .i64 n, .int .i64 k] W fun e w' => e = .returned (.tuple #[.int .i64 1, .nilIface]) ∧ W = w') (hcu : ∀ W, Calls Tryd.prog 35 #[.int .i64 n, .int .i64 1] W fun e w' => e = .returned (.tuple #[.int .i64 c, .nilIface]) ∧ W = w') (h0 : 0 ≤ c) (h1 : c < 4294967296) (xs : List Int) (hxs : (V.after c [0] (V.downto 1 1)).2 = xs) :
    Calls Tryd.prog 24 #[.int .i64 n, .int .i64 k] w fun e w' => e = .returned (.tuple #[.string (strOfNums [1] ++ strOfNums xs), .nilIface]) ∧ Below w.heap.size w w' := by
  refine (callsIn_wide (n := 4)).1 ?_
  have f1 : Fence.wide.fn 34 := trivial
  have f2 : Fence.wide.fn 35 := trivial
  have f3 : Fence.wide.fn 36 := trivial
  have hmk := qmk1
  refine callsIn_of_wp_marks Tryd.func24 rfl trivial ?_ rfl
  simp only [Tryd.ntmps24, List.size_toArray, List.length_cons, List.length_nil, Nat.reduceAdd, Nat.reduceSub, Array.replicate_succ, Array.replicate_zero, List.push_toArray, List.append_toArray, List.nil_append, List.cons_append]
  gi_wp2_with (first | (gi_at_call 34; refine (callsIn_wide.2 (hne _)).mono ?_; rintro e w1 ⟨rfl, rfl⟩) | (gi_at_call 35; refine (callsIn_wide.2 (hcu _)).mono ?_; rintro e w1 ⟨rfl, rfl⟩) | (gi_at_call 36; refine (V.back_in Fence.wide 3 trivial rfl _ _ _ _).mono ?_; rintro e w' ⟨rfl, rfl⟩))
  clear hmk
  obtain ⟨W0, hW0⟩ : ∃ W0, ((((w.alloc (.cells #[.int .i64 c] 3)).alloc (.cells #[.int .u8 0] 5)).alloc (.cells #[(.slice (some ⟨w.heap.size + 1, 0, none⟩) 1 1)] 86)).alloc (.cells #[(.slice (some ⟨w.heap.size + 1, 0, none⟩) 1 1)] 86)) = W0 := ⟨_, rfl⟩
  have sz : W0.heap.size = w.heap.size + 4 := by rw [← hW0]; simp
  have bR : Boxed W0 w.heap.size 3 (.int .i64 c) := by rw [← hW0]; exact (((Boxed.new w 3 _).alloc _).alloc _).alloc _
  have bB : V.Byt W0 (w.heap.size + 1) [0] := by
    rw [← hW0]
    have h : V.Byt ((w.alloc (.cells #[.int .i64 c] 3)).alloc (.cells #[.int .u8 0] 5)) (w.heap.size + 1) [0] := by
      have := World.alloc_heap_new (w.alloc (.cells #[.int .i64 c] 3)) (.cells #[.int .u8 0] 5)
      rwa [World.size_alloc] at this
    exact (h.alloc _).alloc _
  have bS : Boxed W0 (w.heap.size + 1 + 1) 86 (.slice (some ⟨w.heap.size + 1, 0, none⟩) 1 1) := by
    rw [← hW0]
    have h := Boxed.new ((w.alloc (.cells #[.int .i64 c] 3)).alloc (.cells #[.int .u8 0] 5)) 86 (.slice (some ⟨w.heap.size + 1, 0, none⟩) 1 1)
    rw [World.size_alloc, World.size_alloc] at h
    exact h.alloc _
  have bH : Boxed W0 (w.heap.size + 1 + 1 + 1) 86 (.slice (some ⟨w.heap.size + 1, 0, none⟩) 1 1) := by
    rw [← hW0]
    have h := Boxed.new (((w.alloc (.cells #[.int .i64 c] 3)).alloc (.cells #[.int .u8 0] 5)).alloc (.cells #[(.slice (some ⟨w.heap.size + 1, 0, none⟩) 1 1)] 86)) 86 (.slice (some ⟨w.heap.size + 1, 0, none⟩) 1 1)
    rw [World.size_alloc, World.size_alloc, World.size_alloc] at h
    exact h
  have hB0 : Below w.heap.size w W0 := by
    rw [← hW0]
    exact (((((Below.refl _ w).alloc (Nat.le_refl _) _).alloc (by simp <;> omega) _).alloc (by simp <;> omega) _).alloc (by simp <;> omega) _)
  rw [hW0]
  clear hW0
  refine wpIn_rangeFunc_ownG rfl (by decide) (gf := 42) (lb := #[.pointer (some ⟨w.heap.size + 1 + 1 + 1, 0, none⟩)]) rfl trivial (enters_of Tryd.func42 (by kernel_rfl) rfl)
    (V.back_stops Fence.wide (4 - 1) trivial rfl (by decide) (w.heap.size + 1 + 1 + 1) (w.heap.size + 1) 1 1 (by decide) W0 (by omega) (by omega) ⟨bH.cell, fun j hj => ⟨_, bB.cell j hj⟩⟩)
    (fun h k hR => k (h hR)) (V.KpRow.put (w := W0)) (Below.refl _ _) (fun _ => rfl)
    (fun pre W => Boxed W w.heap.size 3 (.int .i64 (V.after c [0] (pre.map fun x => x.1.1)).1) ∧ V.Byt W (w.heap.size + 1) (V.after c [0] (pre.map fun x => x.1.1)).2 ∧ Boxed W (w.heap.size + 1 + 1) 86 (.slice (some ⟨w.heap.size + 1, 0, none⟩) 1 1) ∧ Boxed W (w.heap.size + 1 + 1 + 1) 86 (.slice (some ⟨w.heap.size + 1, 0, none⟩) 1 1) ∧ Below w.heap.size w W)
    (fun _ _ _ => False)
    (OwnFrom.and (Own.from (boxed_own _ _ _) _) (OwnFrom.and (Own.from (V.Byt.own _ _) _) (OwnFrom.and (Own.from (boxed_own _ _ _) _) (OwnFrom.and (Own.from (boxed_own _ _ _) _) (ownFrom_below (Nat.le_refl _) (by omega))))))
    (fun _ _ _ _ _ hs _ _ => hs)
    ⟨bR, bB, bS, bH, hB0⟩
    (fun x => { tmps := #[.int .i64 n, .int .i64 k, undef, undef, .string { data := #[] }, .nilIface, .int .i64 1, .nilIface, .pointer (some ⟨w.heap.size, 0, none⟩), .pointer (some ⟨w.heap.size + 1 + 1, 0, none⟩), .int .i64 (x.1.1 : Int), .tuple #[.int .i64 1, .nilIface], .int .i64 n, .int .i64 k, .tuple #[.int .i64 1, .nilIface], .int .i64 1, .nilIface, .nilIface, .bool false, undef, .tuple #[.int .i64 c, .nilIface], .int .i64 n, .int .i64 1, .tuple #[.int .i64 c, .nilIface], .int .i64 c, .nilIface, .nilIface, .bool false, undef, .int .i64 1, (.slice (some ⟨w.heap.size + 1, 0, none⟩) 1 1), (.slice (some ⟨w.heap.size + 1, 0, none⟩) 1 1), .func (.func 42) #[] #[.pointer (some ⟨w.heap.size + 1 + 1 + 1, 0, none⟩)], .int .i64 (x.1.1 : Int), .int .u8 x.1.2, undef, undef, undef, undef, undef, undef, undef, undef, undef, undef, undef, undef, undef, undef], defers := [] }) ?assign ?body ?done ?stop
  case assign =>
    intro l x W K hK
    gi_wp2
    exact hK
  case body =>
    rintro l pre ⟨⟨i, v⟩, hx⟩ W ⟨kR, kB, kS, kH, hB⟩ _
    have hx : i < 1 := hx
    have hlen := V.after_len c [0] (pre.map fun x => x.1.1)
    have hbd := V.after_bd c [0] (pre.map fun x => x.1.1) h0 h1
    have sn := V.after_snoc c [0] (pre.map fun x => x.1.1) i
    have kc := kB.cell i (by rw [hlen]; exact hx)
    have kf := kB.frozen i
    have HS : Hid (V.after c [0] (pre.map (fun x => x.1.1) ++ [i]) = V.step (V.after c [0] (pre.map fun x => x.1.1)) i) := sn
    have HL : Hid ((V.after c [0] (pre.map fun x => x.1.1)).2.length = 1) := hlen
    clear sn hlen
    generalize V.after c [0] (pre.map fun x => x.1.1) = st at *
    have kRc := kR.cell
    have kRf := kR.frozen
    have kSc := kS.cell
    obtain ⟨hbd0, hbd1⟩ := hbd
    have g1 : ((i : Nat) : Int) < 1 := by omega
    gi_wp2
    have kB' := (kB.set i (st.1 % 256)).other (B' := w.heap.size) (by omega) (.int .i64 (st.1 / 256))
    have kR' := (V.Boxed.otherRow (B' := w.heap.size + 1) (j := i) kR (by omega) (.int .u8 (st.1 % 256))).set (.int .i64 (st.1 / 256))
    have kS' := (V.Boxed.otherRow (B' := w.heap.size + 1) (j := i) kS (by omega) (.int .u8 (st.1 % 256))).other (B' := w.heap.size) (by omega) (.int .i64 (st.1 / 256))
    have kH' := (V.Boxed.otherRow (B' := w.heap.size + 1) (j := i) kH (by omega) (.int .u8 (st.1 % 256))).other (B' := w.heap.size) (by omega) (.int .i64 (st.1 / 256))
    have hB' := (hB.setCell (p := ⟨w.heap.size + 1, i, none⟩) (by show w.heap.size ≤ w.heap.size + 1; omega) (.int .u8 (st.1 % 256))).setCell (p := ⟨w.heap.size, 0, none⟩) (Nat.le_refl _) (.int .i64 (st.1 / 256))
    have hL : (st.2.set i (st.1 % 256)).length = 1 := by rw [List.length_set]; exact HL.out
    refine ⟨((KeepsOthers.setCell _ _ _).trans (KeepsOthers.setCell _ _ _)).from _, fun _ => ⟨kH'.cell, fun j hj => ⟨_, kB'.cell j (by rw [hL]; exact hj)⟩⟩, ?_, ?_, kS', kH', hB'⟩
    · rw [List.map_append]
      show Boxed _ _ _ (.int .i64 (V.after c [0] (pre.map (fun x => x.1.1) ++ [i])).1)
      rw [HS.out]; exact kR'
    · rw [List.map_append]
      show V.Byt _ _ (V.after c [0] (pre.map (fun x => x.1.1) ++ [i])).2
      rw [HS.out]; exact kB'
  case done =>
    rintro D ys W hD hys ⟨kR, kB, kS, kH, hB⟩ hK
    rw [hys, hxs] at kB
    have hl : xs.length = 1 := by rw [← hxs, V.after_len]; rfl
    have kB1 := kB.alloc (.cells #[.int .u8 1] 5)
    have hcv := run_convert_bytes_arg (P := Tryd.prog) (W.alloc (.cells #[.int .u8 1] 5)) 86 5 Tryd.underlying86 Tryd.underlying5 (w.heap.size + 1) 0 1 1 xs hl (fun j hj => by
      rw [Nat.zero_add, kB1.cell j (by omega)]; simp [List.getD]) 9 Tryd.underlying9
    have hc1 := V.conv_new [1] W #[.int .u8 1] rfl
    simp only [List.length_cons, List.length_nil, Nat.reduceAdd] at hc1
    have kSc := (kS.alloc (.cells #[.int .u8 1] 5)).cell
    have sa : (strOfNums [1]).size + (strOfNums xs).size ≤ 9223372036854775807 := by rw [strOfNums_size, strOfNums_size, hl]; simp
    have HL : Hid (xs.length = 1) := hl
    have hK2 : (W.alloc (.cells #[.int .u8 1] 5)).heap[D]? = some (Obj.deferred (some [])) := (heap_alloc_old W _ (Array.getElem?_eq_some_iff.1 hK).1).trans hK
    clear hl hys kB1
    generalize hsx : strOfNums xs = sx at hcv sa
    generalize hs1 : strOfNums [1] = s1 at hc1 sa
    have HX : Hid (strOfNums xs = sx ∧ strOfNums [1] = s1) := ⟨hsx, hs1⟩
    clear hsx hs1
    gi_wp2
    refine ⟨by simp, .inl ⟨_, _, rfl, run_takeDeferred hK2, ?_⟩⟩
    exact ⟨_, results_tmp2 rfl _ _ _, by rw [HX.out.1, HX.out.2]; rfl, (hB.alloc hB.size _).trans (belowK_b (w := w) (Nat.le_refl _) _ D _ _ (by omega) hK2 rfl rfl)⟩
  case stop =>
    rintro D c pre W _ _ h _
    exact h.elim

set_option maxRecDepth 100000 in
set_option maxHeartbeats 2000000 in
theorem pnum_2 (n k c : Int) (w : World) (hne : ∀ W, Calls Tryd.prog 34 #[.int .i64 n, .int .i64 k] W fun e w' => e = .returned (.tuple #[.int .i64 2, .nilIface]) ∧ W = w') (hcu : ∀ W, Calls Tryd.prog 35 #[.int .i64 n, .int .i64 2] W fun e w' => e = .returned (.tuple #[.int .i64 c, .nilIface]) ∧ W = w') (h0 : 0 ≤ c) (h1 : c < 4294967296) (xs : List Int) (hxs : (V.after c [0, 0] (V.downto 2 2)).2 = xs) :
    Calls Tryd.prog 24 #[.int .i64 n, .int .i64 k] w fun e w' => e = .returned (.tuple #[.string (strOfNums [2] ++ strOfNums xs), .nilIface]) ∧ Below w.heap.size w w' := by
  refine (callsIn_wide (n := 4)).1 ?_
  have f1 : Fence.wide.fn 34 := trivial
  have f2 : Fence.wide.fn 35 := trivial
  have f3 : Fence.wide.fn 36 := trivial
  have hmk := qmk2
  refine callsIn_of_wp_marks Tryd.func24 rfl trivial ?_ rfl
  simp only [Tryd.ntmps24, List.size_toArray, List.length_cons, List.length_nil, Nat.reduceAdd, Nat.reduceSub, Array.replicate_succ, Array.replicate_zero, List.push_toArray, List.append_toArray, List.nil_append, List.cons_append]
  gi_wp2_with (first | (gi_at_call 34; refine (callsIn_wide.2 (hne _)).mono ?_; rintro e w1 ⟨rfl, rfl⟩) | (gi_at_call 35; refine (callsIn_wide.2 (hcu _)).mono ?_; rintro e w1 ⟨rfl, rfl⟩) | (gi_at_call 36; refine (V.back_in Fence.wide 3 trivial rfl _ _ _ _).mono ?_; rintro e w' ⟨rfl, rfl⟩))
  clear hmk
  obtain ⟨W0, hW0⟩ : ∃ W0, ((((w.alloc (.cells #[.int .i64 c] 3)).alloc (.cells #[.int .u8 0, .int .u8 0] 5)).alloc (.cells #[(.slice (some ⟨w.heap.size + 1, 0, none⟩) 2 2)] 86)).alloc (.cells #[(.slice (some ⟨w.heap.size + 1, 0, none⟩) 2 2)] 86)) = W0 := ⟨_, rfl⟩
  have sz : W0.heap.size = w.heap.size + 4 := by rw [← hW0]; simp
  have bR : Boxed W0 w.heap.size 3 (.int .i64 c) := by rw [← hW0]; exact (((Boxed.new w 3 _).alloc _).alloc _).alloc _
  have bB : V.Byt W0 (w.heap.size + 1) [0, 0] := by
    rw [← hW0]
    have h : V.Byt ((w.alloc (.cells #[.int .i64 c] 3)).alloc (.cells #[.int .u8 0, .int .u8 0] 5)) (w.heap.size + 1) [0, 0] := by
      have := World.alloc_heap_new (w.alloc (.cells #[.int .i64 c] 3)) (.cells #[.int .u8 0, .int .u8 0] 5)
      rwa [World.size_alloc] at this
    exact (h.alloc _).alloc _
  have bS : Boxed W0 (w.heap.size + 1 + 1) 86 (.slice (some ⟨w.heap.size + 1, 0, none⟩) 2 2) := by
    rw [← hW0]
    have h := Boxed.new ((w.alloc (.cells #[.int .i64 c] 3)).alloc (.cells #[.int .u8 0, .int .u8 0] 5)) 86 (.slice (some ⟨w.heap.size + 1, 0, none⟩) 2 2)
    rw [World.size_alloc, World.size_alloc] at h
    exact h.alloc _
  have bH : Boxed W0 (w.heap.size + 1 + 1 + 1) 86 (.slice (some ⟨w.heap.size + 1, 0, none⟩) 2 2) := by
    rw [← hW0]
    have h := Boxed.new (((w.alloc (.cells #[.int .i64 c] 3)).alloc (.cells #[.int .u8 0, .int .u8 0] 5)).alloc (.cells #[(.slice (some ⟨w.heap.size + 1, 0, none⟩) 2 2)] 86)) 86 (.slice (some ⟨w.heap.size + 1, 0, none⟩) 2 2)
    rw [World.size_alloc, World.size_alloc, World.size_alloc] at h
    exact h
  have hB0 : Below w.heap.size w W0 := by
    rw [← hW0]
    exact (((((Below.refl _ w).alloc (Nat.le_refl _) _).alloc (by simp <;> omega) _).alloc (by simp <;> omega) _).alloc (by simp <;> omega) _)
  rw [hW0]
  clear hW0
  refine wpIn_rangeFunc_ownG rfl (by decide) (gf := 42) (lb := #[.pointer (some ⟨w.heap.size + 1 + 1 + 1, 0, none⟩)]) rfl trivial (enters_of Tryd.func42 (by kernel_rfl) rfl)
    (V.back_stops Fence.wide (4 - 1) trivial rfl (by decide) (w.heap.size + 1 + 1 + 1) (w.heap.size + 1) 2 2 (by decide) W0 (by omega) (by omega) ⟨bH.cell, fun j hj => ⟨_, bB.cell j hj⟩⟩)
    (fun h k hR => k (h hR)) (V.KpRow.put (w := W0)) (Below.refl _ _) (fun _ => rfl)
    (fun pre W => Boxed W w.heap.size 3 (.int .i64 (V.after c [0, 0] (pre.map fun x => x.1.1)).1) ∧ V.Byt W (w.heap.size + 1) (V.after c [0, 0] (pre.map fun x => x.1.1)).2 ∧ Boxed W (w.heap.size + 1 + 1) 86 (.slice (some ⟨w.heap.size + 1, 0, none⟩) 2 2) ∧ Boxed W (w.heap.size + 1 + 1 + 1) 86 (.slice (some ⟨w.heap.size + 1, 0, none⟩) 2 2) ∧ Below w.heap.size w W)
    (fun _ _ _ => False)
    (OwnFrom.and (Own.from (boxed_own _ _ _) _) (OwnFrom.and (Own.from (V.Byt.own _ _) _) (OwnFrom.and (Own.from (boxed_own _ _ _) _) (OwnFrom.and (Own.from (boxed_own _ _ _) _) (ownFrom_below (Nat.le_refl _) (by omega))))))
    (fun _ _ _ _ _ hs _ _ => hs)
    ⟨bR, bB, bS, bH, hB0⟩
    (fun x => { tmps := #[.int .i64 n, .int .i64 k, undef, undef, .string { data := #[] }, .nilIface, .int .i64 2, .nilIface, .pointer (some ⟨w.heap.size, 0, none⟩), .pointer (some ⟨w.heap.size + 1 + 1, 0, none⟩), .int .i64 (x.1.1 : Int), .tuple #[.int .i64 2, .nilIface], .int .i64 n, .int .i64 k, .tuple #[.int .i64 2, .nilIface], .int .i64 2, .nilIface, .nilIface, .bool false, undef, .tuple #[.int .i64 c, .nilIface], .int .i64 n, .int .i64 2, .tuple #[.int .i64 c, .nilIface], .int .i64 c, .nilIface, .nilIface, .bool false, undef, .int .i64 2, (.slice (some ⟨w.heap.size + 1, 0, none⟩) 2 2), (.slice (some ⟨w.heap.size + 1, 0, none⟩) 2 2), .func (.func 42) #[] #[.pointer (some ⟨w.heap.size + 1 + 1 + 1, 0, none⟩)], .int .i64 (x.1.1 : Int), .int .u8 x.1.2, undef, undef, undef, undef, undef, undef, undef, undef, undef, undef, undef, undef, undef, undef], defers := [] }) ?assign ?body ?done ?stop
  case assign =>
    intro l x W K hK
    gi_wp2
    exact hK
  case body =>
    rintro l pre ⟨⟨i, v⟩, hx⟩ W ⟨kR, kB, kS, kH, hB⟩ _
    have hx : i < 2 := hx
    have hlen := V.after_len c [0, 0] (pre.map fun x => x.1.1)
    have hbd := V.after_bd c [0, 0] (pre.map fun x => x.1.1) h0 h1
    have sn := V.after_snoc c [0, 0] (pre.map fun x => x.1.1) i
    have kc := kB.cell i (by rw [hlen]; exact hx)
    have kf := kB.frozen i
    have HS : Hid (V.after c [0, 0] (pre.map (fun x => x.1.1) ++ [i]) = V.step (V.after c [0, 0] (pre.map fun x => x.1.1)) i) := sn
    have HL : Hid ((V.after c [0, 0] (pre.map fun x => x.1.1)).2.length = 2) := hlen
    clear sn hlen
    generalize V.after c [0, 0] (pre.map fun x => x.1.1) = st at *
    have kRc := kR.cell
    have kRf := kR.frozen
    have kSc := kS.cell
    obtain ⟨hbd0, hbd1⟩ := hbd
    have g1 : ((i : Nat) : Int) < 2 := by omega
    gi_wp2
    have kB' := (kB.set i (st.1 % 256)).other (B' := w.heap.size) (by omega) (.int .i64 (st.1 / 256))
    have kR' := (V.Boxed.otherRow (B' := w.heap.size + 1) (j := i) kR (by omega) (.int .u8 (st.1 % 256))).set (.int .i64 (st.1 / 256))
    have kS' := (V.Boxed.otherRow (B' := w.heap.size + 1) (j := i) kS (by omega) (.int .u8 (st.1 % 256))).other (B' := w.heap.size) (by omega) (.int .i64 (st.1 / 256))
    have kH' := (V.Boxed.otherRow (B' := w.heap.size + 1) (j := i) kH (by omega) (.int .u8 (st.1 % 256))).other (B' := w.heap.size) (by omega) (.int .i64 (st.1 / 256))
    have hB' := (hB.setCell (p := ⟨w.heap.size + 1, i, none⟩) (by show w.heap.size ≤ w.heap.size + 1; omega) (.int .u8 (st.1 % 256))).setCell (p := ⟨w.heap.size, 0, none⟩) (Nat.le_refl _) (.int .i64 (st.1 / 256))
    have hL : (st.2.set i (st.1 % 256)).length = 2 := by rw [List.length_set]; exact HL.out
    refine ⟨((KeepsOthers.setCell _ _ _).trans (KeepsOthers.setCell _ _ _)).from _, fun _ => ⟨kH'.cell, fun j hj => ⟨_, kB'.cell j (by rw [hL]; exact hj)⟩⟩, ?_, ?_, kS', kH', hB'⟩
    · rw [List.map_append]
      show Boxed _ _ _ (.int .i64 (V.after c [0, 0] (pre.map (fun x => x.1.1) ++ [i])).1)
      rw [HS.out]; exact kR'
    · rw [List.map_append]
      show V.Byt _ _ (V.after c [0, 0] (pre.map (fun x => x.1.1) ++ [i])).2
      rw [HS.out]; exact kB'
  case done =>
    rintro D ys W hD hys ⟨kR, kB, kS, kH, hB⟩ hK
    rw [hys, hxs] at kB
    have hl : xs.length = 2 := by rw [← hxs, V.after_len]; rfl
    have kB1 := kB.alloc (.cells #[.int .u8 2] 5)
    have hcv := run_convert_bytes_arg (P := Tryd.prog) (W.alloc (.cells #[.int .u8 2] 5)) 86 5 Tryd.underlying86 Tryd.underlying5 (w.heap.size + 1) 0 2 2 xs hl (fun j hj => by
      rw [Nat.zero_add, kB1.cell j (by omega)]; simp [List.getD]) 9 Tryd.underlying9
    have hc1 := V.conv_new [2] W #[.int .u8 2] rfl
    simp only [List.length_cons, List.length_nil, Nat.reduceAdd] at hc1
    have kSc := (kS.alloc (.cells #[.int .u8 2] 5)).cell
    have sa : (strOfNums [2]).size + (strOfNums xs).size ≤ 9223372036854775807 := by rw [strOfNums_size, strOfNums_size, hl]; simp
    have HL : Hid (xs.length = 2) := hl
    have hK2 : (W.alloc (.cells #[.int .u8 2] 5)).heap[D]? = some (Obj.deferred (some [])) := (heap_alloc_old W _ (Array.getElem?_eq_some_iff.1 hK).1).trans hK
    clear hl hys kB1
    generalize hsx : strOfNums xs = sx at hcv sa
    generalize hs1 : strOfNums [2] = s1 at hc1 sa
    have HX : Hid (strOfNums xs = sx ∧ strOfNums [2] = s1) := ⟨hsx, hs1⟩
    clear hsx hs1
    gi_wp2
    refine ⟨by simp, .inl ⟨_, _, rfl, run_takeDeferred hK2, ?_⟩⟩
    exact ⟨_, results_tmp2 rfl _ _ _, by rw [HX.out.1, HX.out.2]; rfl, (hB.alloc hB.size _).trans (belowK_b (w := w) (Nat.le_refl _) _ D _ _ (by omega) hK2 rfl rfl)⟩
  case stop =>
    rintro D c pre W _ _ h _
    exact h.elim

set_option maxRecDepth 100000 in
set_option maxHeartbeats 2000000 in
theorem pnum_3 (n k c : Int) (w : World) (hne : ∀ W, Calls Tryd.prog 34 #[.int .i64 n, .int .i64 k] W fun e w' => e = .returned (.tuple #[.int .i64 3, .nilIface]) ∧ W = w') (hcu : ∀ W, Calls Tryd.prog 35 #[.int .i64 n, .int .i64 3] W fun e w' => e = .returned (.tuple #[.int .i64 c, .nilIface]) ∧ W = w') (h0 : 0 ≤ c) (h1 : c < 4294967296) (xs : List Int) (hxs : (V.after c [0, 0, 0] (V.downto 3 3)).2 = xs) :
    Calls Tryd.prog 24 #[.int .i64 n, .int .i64 k] w fun e w' => e = .returned (.tuple #[.string (strOfNums [3] ++ strOfNums xs), .nilIface]) ∧ Below w.heap.size w w' := by
  refine (callsIn_wide (n := 4)).1 ?_
  have f1 : Fence.wide.fn 34 := trivial
  have f2 : Fence.wide.fn 35 := trivial
  have f3 : Fence.wide.fn 36 := trivial
  have hmk := qmk3
  refine callsIn_of_wp_marks Tryd.func24 rfl trivial ?_ rfl
  simp only [Tryd.ntmps24, List.size_toArray, List.length_cons, List.length_nil, Nat.reduceAdd, Nat.reduceSub, Array.replicate_succ, Array.replicate_zero, List.push_toArray, List.append_toArray, List.nil_append, List.cons_append]
  gi_wp2_with (first | (gi_at_call 34; refine (callsIn_wide.2 (hne _)).mono ?_; rintro e w1 ⟨rfl, rfl⟩) | (gi_at_call 35; refine (callsIn_wide.2 (hcu _)).mono ?_; rintro e w1 ⟨rfl, rfl⟩) | (gi_at_call 36; refine (V.back_in Fence.wide 3 trivial rfl _ _ _ _).mono ?_; rintro e w' ⟨rfl, rfl⟩))
  clear hmk
  obtain ⟨W0, hW0⟩ : ∃ W0, ((((w.alloc (.cells #[.int .i64 c] 3)).alloc (.cells #[.int .u8 0, .int .u8 0, .int .u8 0] 5)).alloc (.cells #[(.slice (some ⟨w.heap.size + 1, 0, none⟩) 3 3)] 86)).alloc (.cells #[(.slice (some ⟨w.heap.size + 1, 0, none⟩) 3 3)] 86)) = W0 := ⟨_, rfl⟩
  have sz : W0.heap.size = w.heap.size + 4 := by rw [← hW0]; simp
  have bR : Boxed W0 w.heap.size 3 (.int .i64 c) := by rw [← hW0]; exact (((Boxed.new w 3 _).alloc _).alloc _).alloc _
  have bB : V.Byt W0 (w.heap.size + 1) [0, 0, 0] := by
    rw [← hW0]
    have h : V.Byt ((w.alloc (.cells #[.int .i64 c] 3)).alloc (.cells #[.int .u8 0, .int .u8 0, .int .u8 0] 5)) (w.heap.size + 1) [0, 0, 0] := by
      have := World.alloc_heap_new (w.alloc (.cells #[.int .i64 c] 3)) (.cells #[.int .u8 0, .int .u8 0, .int .u8 0] 5)
      rwa [World.size_alloc] at this
    exact (h.alloc _).alloc _
  have bS : Boxed W0 (w.heap.size + 1 + 1) 86 (.slice (some ⟨w.heap.size + 1, 0, none⟩) 3 3) := by
    rw [← hW0]
    have h := Boxed.new ((w.alloc (.cells #[.int .i64 c] 3)).alloc (.cells #[.int .u8 0, .int .u8 0, .int .u8 0] 5)) 86 (.slice (some ⟨w.heap.size + 1, 0, none⟩) 3 3)
    rw [World.size_alloc, World.size_alloc] at h
    exact h.alloc _
  have bH : Boxed W0 (w.heap.size + 1 + 1 + 1) 86 (.slice (some ⟨w.heap.size + 1, 0, none⟩) 3 3) := by
    rw [← hW0]
    have h := Boxed.new (((w.alloc (.cells #[.int .i64 c] 3)).alloc (.cells #[.int .u8 0, .int .u8 0, .int .u8 0] 5)).alloc (.cells #[(.slice (some ⟨w.heap.size + 1, 0, none⟩) 3 3)] 86)) 86 (.slice (some ⟨w.heap.size + 1, 0, none⟩) 3 3)
    rw [World.size_alloc, World.size_alloc, World.size_alloc] at h
    exact h
  have hB0 : Below w.heap.size w W0 := by
    rw [← hW0]
    exact (((((Below.refl _ w).alloc (Nat.le_refl _) _).alloc (by simp <;> omega) _).alloc (by simp <;> omega) _).alloc (by simp <;> omega) _)
  rw [hW0]
  clear hW0
  refine wpIn_rangeFunc_ownG rfl (by decide) (gf := 42) (lb := #[.pointer (some ⟨w.heap.size + 1 + 1 + 1, 0, none⟩)]) rfl trivial (enters_of Tryd.func42 (by kernel_rfl) rfl)
    (V.back_stops Fence.wide (4 - 1) trivial rfl (by decide) (w.heap.size + 1 + 1 + 1) (w.heap.size + 1) 3 3 (by decide) W0 (by omega) (by omega) ⟨bH.cell, fun j hj => ⟨_, bB.cell j hj⟩⟩)
    (fun h k hR => k (h hR)) (V.KpRow.put (w := W0)) (Below.refl _ _) (fun _ => rfl)
    (fun pre W => Boxed W w.heap.size 3 (.int .i64 (V.after c [0, 0, 0] (pre.map fun x => x.1.1)).1) ∧ V.Byt W (w.heap.size + 1) (V.after c [0, 0, 0] (pre.map fun x => x.1.1)).2 ∧ Boxed W (w.heap.size + 1 + 1) 86 (.slice (some ⟨w.heap.size + 1, 0, none⟩) 3 3) ∧ Boxed W (w.heap.size + 1 + 1 + 1) 86 (.slice (some ⟨w.heap.size + 1, 0, none⟩) 3 3) ∧ Below w.heap.size w W)
    (fun _ _ _ => False)
    (OwnFrom.and (Own.from (boxed_own _ _ _) _) (OwnFrom.and (Own.from (V.Byt.own _ _) _) (OwnFrom.and (Own.from (boxed_own _ _ _) _) (OwnFrom.and (Own.from (boxed_own _ _ _) _) (ownFrom_below (Nat.le_refl _) (by omega))))))
    (fun _ _ _ _ _ hs _ _ => hs)
    ⟨bR, bB, bS, bH, hB0⟩
    (fun x => { tmps := #[.int .i64 n, .int .i64 k, undef, undef, .string { data := #[] }, .nilIface, .int .i64 3, .nilIface, .pointer (some ⟨w.heap.size, 0, none⟩), .pointer (some ⟨w.heap.size + 1 + 1, 0, none⟩), .int .i64 (x.1.1 : Int), .tuple #[.int .i64 3, .nilIface], .int .i64 n, .int .i64 k, .tuple #[.int .i64 3, .nilIface], .int .i64 3, .nilIface, .nilIface, .bool false, undef, .tuple #[.int .i64 c, .nilIface], .int .i64 n, .int .i64 3, .tuple #[.int .i64 c, .nilIface], .int .i64 c, .nilIface, .nilIface, .bool false, undef, .int .i64 3, (.slice (some ⟨w.heap.size + 1, 0, none⟩) 3 3), (.slice (some ⟨w.heap.size + 1, 0, none⟩) 3 3), .func (.func 42) #[] #[.pointer (some ⟨w.heap.size + 1 + 1 + 1, 0, none⟩)], .int .i64 (x.1.1 : Int), .int .u8 x.1.2, undef, undef, undef, undef, undef, undef, undef, undef, undef, undef, undef, undef, undef, undef], defers := [] }) ?assign ?body ?done ?stop
  case assign =>
    intro l x W K hK
    gi_wp2
    exact hK
  case body =>
    rintro l pre ⟨⟨i, v⟩, hx⟩ W ⟨kR, kB, kS, kH, hB⟩ _
    have hx : i < 3 := hx
    have hlen := V.after_len c [0, 0, 0] (pre.map fun x => x.1.1)
    have hbd := V.after_bd c [0, 0, 0] (pre.map fun x => x.1.1) h0 h1
    have sn := V.after_snoc c [0, 0, 0] (pre.map fun x => x.1.1) i
    have kc := kB.cell i (by rw [hlen]; exact hx)
    have kf := kB.frozen i
    have HS : Hid (V.after c [0, 0, 0] (pre.map (fun x => x.1.1) ++ [i]) = V.step (V.after c [0, 0, 0] (pre.map fun x => x.1.1)) i) := sn
    have HL : Hid ((V.after c [0, 0, 0] (pre.map fun x => x.1.1)).2.length = 3) := hlen
    clear sn hlen
    generalize V.after c [0, 0, 0] (pre.map fun x => x.1.1) = st at *
    have kRc := kR.cell
    have kRf := kR.frozen
    have kSc := kS.cell
    obtain ⟨hbd0, hbd1⟩ := hbd
    have g1 : ((i : Nat) : Int) < 3 := by omega
    gi_wp2
    have kB' := (kB.set i (st.1 % 256)).other (B' := w.heap.size) (by omega) (.int .i64 (st.1 / 256))
    have kR' := (V.Boxed.otherRow (B' := w.heap.size + 1) (j := i) kR (by omega) (.int .u8 (st.1 % 256))).set (.int .i64 (st.1 / 256))
    have kS' := (V.Boxed.otherRow (B' := w.heap.size + 1) (j := i) kS (by omega) (.int .u8 (st.1 % 256))).other (B' := w.heap.size) (by omega) (.int .i64 (st.1 / 256))
    have kH' := (V.Boxed.otherRow (B' := w.heap.size + 1) (j := i) kH (by omega) (.int .u8 (st.1 % 256))).other (B' := w.heap.size) (by omega) (.int .i64 (st.1 / 256))
    have hB' := (hB.setCell (p := ⟨w.heap.size + 1, i, none⟩) (by show w.heap.size ≤ w.heap.size + 1; omega) (.int .u8 (st.1 % 256))).setCell (p := ⟨w.heap.size, 0, none⟩) (Nat.le_refl _) (.int .i64 (st.1 / 256))
    have hL : (st.2.set i (st.1 % 256)).length = 3 := by rw [List.length_set]; exact HL.out
    refine ⟨((KeepsOthers.setCell _ _ _).trans (KeepsOthers.setCell _ _ _)).from _, fun _ => ⟨kH'.cell, fun j hj => ⟨_, kB'.cell j (by rw [hL]; exact hj)⟩⟩, ?_, ?_, kS', kH', hB'⟩
    · rw [List.map_append]
      show Boxed _ _ _ (.int .i64 (V.after c [0, 0, 0] (pre.map (fun x => x.1.1) ++ [i])).1)
      rw [HS.out]; exact kR'
    · rw [List.map_append]
      show V.Byt _ _ (V.after c [0, 0, 0] (pre.map (fun x => x.1.1) ++ [i])).2
      rw [HS.out]; exact kB'
  case done =>
    rintro D ys W hD hys ⟨kR, kB, kS, kH, hB⟩ hK
    rw [hys, hxs] at kB
    have hl : xs.length = 3 := by rw [← hxs, V.after_len]; rfl
    have kB1 := kB.alloc (.cells #[.int .u8 3] 5)
    have hcv := run_convert_bytes_arg (P := Tryd.prog) (W.alloc (.cells #[.int .u8 3] 5)) 86 5 Tryd.underlying86 Tryd.underlying5 (w.heap.size + 1) 0 3 3 xs hl (fun j hj => by
      rw [Nat.zero_add, kB1.cell j (by omega)]; simp [List.getD]) 9 Tryd.underlying9
    have hc1 := V.conv_new [3] W #[.int .u8 3] rfl
    simp only [List.length_cons, List.length_nil, Nat.reduceAdd] at hc1
    have kSc := (kS.alloc (.cells #[.int .u8 3] 5)).cell
    have sa : (strOfNums [3]).size + (strOfNums xs).size ≤ 9223372036854775807 := by rw [strOfNums_size, strOfNums_size, hl]; simp
    have HL : Hid (xs.length = 3) := hl
    have hK2 : (W.alloc (.cells #[.int .u8 3] 5)).heap[D]? = some (Obj.deferred (some [])) := (heap_alloc_old W _ (Array.getElem?_eq_some_iff.1 hK).1).trans hK
    clear hl hys kB1
    generalize hsx : strOfNums xs = sx at hcv sa
    generalize hs1 : strOfNums [3] = s1 at hc1 sa
    have HX : Hid (strOfNums xs = sx ∧ strOfNums [3] = s1) := ⟨hsx, hs1⟩
    clear hsx hs1
    gi_wp2
    refine ⟨by simp, .inl ⟨_, _, rfl, run_takeDeferred hK2, ?_⟩⟩
    exact ⟨_, results_tmp2 rfl _ _ _, by rw [HX.out.1, HX.out.2]; rfl, (hB.alloc hB.size _).trans (belowK_b (w := w) (Nat.le_refl _) _ D _ _ (by omega) hK2 rfl rfl)⟩
  case stop =>
    rintro D c pre W _ _ h _
    exact h.elim

set_option maxRecDepth 100000 in
set_option maxHeartbeats 2000000 in
theorem pnum_4 (n k c : Int) (w : World) (hne : ∀ W, Calls Tryd.prog 34 #[.int .i64 n, .int .i64 k] W fun e w' => e = .returned (.tuple #[.int .i64 4, .nilIface]) ∧ W = w') (hcu : ∀ W, Calls Tryd.prog 35 #[.int .i64 n, .int .i64 4] W fun e w' => e = .returned (.tuple #[.int .i64 c, .nilIface]) ∧ W = w') (h0 : 0 ≤ c) (h1 : c < 4294967296) (xs : List Int) (hxs : (V.after c [0, 0, 0, 0] (V.downto 4 4)).2 = xs) :
    Calls Tryd.prog 24 #[.int .i64 n, .int .i64 k] w fun e w' => e = .returned (.tuple #[.string (strOfNums [4] ++ strOfNums xs), .nilIface]) ∧ Below w.heap.size w w' := by
  refine (callsIn_wide (n := 4)).1 ?_
  have f1 : Fence.wide.fn 34 := trivial
  have f2 : Fence.wide.fn 35 := trivial
  have f3 : Fence.wide.fn 36 := trivial
  have hmk := qmk4
  refine callsIn_of_wp_marks Tryd.func24 rfl trivial ?_ rfl
  simp only [Tryd.ntmps24, List.size_toArray, List.length_cons, List.length_nil, Nat.reduceAdd, Nat.reduceSub, Array.replicate_succ, Array.replicate_zero, List.push_toArray, List.append_toArray, List.nil_append, List.cons_append]
  gi_wp2_with (first | (gi_at_call 34; refine (callsIn_wide.2 (hne _)).mono ?_; rintro e w1 ⟨rfl, rfl⟩) | (gi_at_call 35; refine (callsIn_wide.2 (hcu _)).mono ?_; rintro e w1 ⟨rfl, rfl⟩) | (gi_at_call 36; refine (V.back_in Fence.wide 3 trivial rfl _ _ _ _).mono ?_; rintro e w' ⟨rfl, rfl⟩))
  clear hmk
  obtain ⟨W0, hW0⟩ : ∃ W0, ((((w.alloc (.cells #[.int .i64 c] 3)).alloc (.cells #[.int .u8 0, .int .u8 0, .int .u8 0, .int .u8 0] 5)).alloc (.cells #[(.slice (some ⟨w.heap.size + 1, 0, none⟩) 4 4)] 86)).alloc (.cells #[(.slice (some ⟨w.heap.size + 1, 0, none⟩) 4 4)] 86)) = W0 := ⟨_, rfl⟩
  have sz : W0.heap.size = w.heap.size + 4 := by rw [← hW0]; simp
  have bR : Boxed W0 w.heap.size 3 (.int .i64 c) := by rw [← hW0]; exact (((Boxed.new w 3 _).alloc _).alloc _).alloc _
  have bB : V.Byt W0 (w.heap.size + 1) [0, 0, 0, 0] := by
    rw [← hW0]
    have h : V.Byt ((w.alloc (.cells #[.int .i64 c] 3)).alloc (.cells #[.int .u8 0, .int .u8 0, .int .u8 0, .int .u8 0] 5)) (w.heap.size + 1) [0, 0, 0, 0] := by
      have := World.alloc_heap_new (w.alloc (.cells #[.int .i64 c] 3)) (.cells #[.int .u8 0, .int .u8 0, .int .u8 0, .int .u8 0] 5)
      rwa [World.size_alloc] at this
    exact (h.alloc _).alloc _
  have bS : Boxed W0 (w.heap.size + 1 + 1) 86 (.slice (some ⟨w.heap.size + 1, 0, none⟩) 4 4) := by
    rw [← hW0]
    have h := Boxed.new ((w.alloc (.cells #[.int .i64 c] 3)).alloc (.cells #[.int .u8 0, .int .u8 0, .int .u8 0, .int .u8 0] 5)) 86 (.slice (some ⟨w.heap.size + 1, 0, none⟩) 4 4)
    rw [World.size_alloc, World.size_alloc] at h
    exact h.alloc _
  have bH : Boxed W0 (w.heap.size + 1 + 1 + 1) 86 (.slice (some ⟨w.heap.size + 1, 0, none⟩) 4 4) := by
    rw [← hW0]
    have h := Boxed.new (((w.alloc (.cells #[.int .i64 c] 3)).alloc (.cells #[.int .u8 0, .int .u8 0, .int .u8 0, .int .u8 0] 5)).alloc (.cells #[(.slice (some ⟨w.heap.size + 1, 0, none⟩) 4 4)] 86)) 86 (.slice (some ⟨w.heap.size + 1, 0, none⟩) 4 4)
    rw [World.size_alloc, World.size_alloc, World.size_alloc] at h
    exact h
  have hB0 : Below w.heap.size w W0 := by
    rw [← hW0]
    exact (((((Below.refl _ w).alloc (Nat.le_refl _) _).alloc (by simp <;> omega) _).alloc (by simp <;> omega) _).alloc (by simp <;> omega) _)
  rw [hW0]
  clear hW0
  refine wpIn_rangeFunc_ownG rfl (by decide) (gf := 42) (lb := #[.pointer (some ⟨w.heap.size + 1 + 1 + 1, 0, none⟩)]) rfl trivial (enters_of Tryd.func42 (by kernel_rfl) rfl)
    (V.back_stops Fence.wide (4 - 1) trivial rfl (by decide) (w.heap.size + 1 + 1 + 1) (w.heap.size + 1) 4 4 (by decide) W0 (by omega) (by omega) ⟨bH.cell, fun j hj => ⟨_, bB.cell j hj⟩⟩)
    (fun h k hR => k (h hR)) (V.KpRow.put (w := W0)) (Below.refl _ _) (fun _ => rfl)
    (fun pre W => Boxed W w.heap.size 3 (.int .i64 (V.after c [0, 0, 0, 0] (pre.map fun x => x.1.1)).1) ∧ V.Byt W (w.heap.size + 1) (V.after c [0, 0, 0, 0] (pre.map fun x => x.1.1)).2 ∧ Boxed W (w.heap.size + 1 + 1) 86 (.slice (some ⟨w.heap.size + 1, 0, none⟩) 4 4) ∧ Boxed W (w.heap.size + 1 + 1 + 1) 86 (.slice (some ⟨w.heap.size + 1, 0, none⟩) 4 4) ∧ Below w.heap.size w W)
    (fun _ _ _ => False)
    (OwnFrom.and (Own.from (boxed_own _ _ _) _) (OwnFrom.and (Own.from (V.Byt.own _ _) _) (OwnFrom.and (Own.from (boxed_own _ _ _) _) (OwnFrom.and (Own.from (boxed_own _ _ _) _) (ownFrom_below (Nat.le_refl _) (by omega))))))
    (fun _ _ _ _ _ hs _ _ => hs)
    ⟨bR, bB, bS, bH, hB0⟩
    (fun x => { tmps := #[.int .i64 n, .int .i64 k, undef, undef, .string { data := #[] }, .nilIface, .int .i64 4, .nilIface, .pointer (some ⟨w.heap.size, 0, none⟩), .pointer (some ⟨w.heap.size + 1 + 1, 0, none⟩), .int .i64 (x.1.1 : Int), .tuple #[.int .i64 4, .nilIface], .int .i64 n, .int .i64 k, .tuple #[.int .i64 4, .nilIface], .int .i64 4, .nilIface, .nilIface, .bool false, undef, .tuple #[.int .i64 c, .nilIface], .int .i64 n, .int .i64 4, .tuple #[.int .i64 c, .nilIface], .int .i64 c, .nilIface, .nilIface, .bool false, undef, .int .i64 4, (.slice (some ⟨w.heap.size + 1, 0, none⟩) 4 4), (.slice (some ⟨w.heap.size + 1, 0, none⟩) 4 4), .func (.func 42) #[] #[.pointer (some ⟨w.heap.size + 1 + 1 + 1, 0, none⟩)], .int .i64 (x.1.1 : Int), .int .u8 x.1.2, undef, undef, undef, undef, undef, undef, undef, undef, undef, undef, undef, undef, undef, undef], defers := [] }) ?assign ?body ?done ?stop
  case assign =>
    intro l x W K hK
    gi_wp2
    exact hK
  case body =>
    rintro l pre ⟨⟨i, v⟩, hx⟩ W ⟨kR, kB, kS, kH, hB⟩ _
    have hx : i < 4 := hx
    have hlen := V.after_len c [0, 0, 0, 0] (pre.map fun x => x.1.1)
    have hbd := V.after_bd c [0, 0, 0, 0] (pre.map fun x => x.1.1) h0 h1
    have sn := V.after_snoc c [0, 0, 0, 0] (pre.map fun x => x.1.1) i
    have kc := kB.cell i (by rw [hlen]; exact hx)
    have kf := kB.frozen i
    have HS : Hid (V.after c [0, 0, 0, 0] (pre.map (fun x => x.1.1) ++ [i]) = V.step (V.after c [0, 0, 0, 0] (pre.map fun x => x.1.1)) i) := sn
    have HL : Hid ((V.after c [0, 0, 0, 0] (pre.map fun x => x.1.1)).2.length = 4) := hlen
    clear sn hlen
    generalize V.after c [0, 0, 0, 0] (pre.map fun x => x.1.1) = st at *
    have kRc := kR.cell
    have kRf := kR.frozen
    have kSc := kS.cell
    obtain ⟨hbd0, hbd1⟩ := hbd
    have g1 : ((i : Nat) : Int) < 4 := by omega
    gi_wp2
    have kB' := (kB.set i (st.1 % 256)).other (B' := w.heap.size) (by omega) (.int .i64 (st.1 / 256))
    have kR' := (V.Boxed.otherRow (B' := w.heap.size + 1) (j := i) kR (by omega) (.int .u8 (st.1 % 256))).set (.int .i64 (st.1 / 256))
    have kS' := (V.Boxed.otherRow (B' := w.heap.size + 1) (j := i) kS (by omega) (.int .u8 (st.1 % 256))).other (B' := w.heap.size) (by omega) (.int .i64 (st.1 / 256))
    have kH' := (V.Boxed.otherRow (B' := w.heap.size + 1) (j := i) kH (by omega) (.int .u8 (st.1 % 256))).other (B' := w.heap.size) (by omega) (.int .i64 (st.1 / 256))
    have hB' := (hB.setCell (p := ⟨w.heap.size + 1, i, none⟩) (by show w.heap.size ≤ w.heap.size + 1; omega) (.int .u8 (st.1 % 256))).setCell (p := ⟨w.heap.size, 0, none⟩) (Nat.le_refl _) (.int .i64 (st.1 / 256))
    have hL : (st.2.set i (st.1 % 256)).length = 4 := by rw [List.length_set]; exact HL.out
    refine ⟨((KeepsOthers.setCell _ _ _).trans (KeepsOthers.setCell _ _ _)).from _, fun _ => ⟨kH'.cell, fun j hj => ⟨_, kB'.cell j (by rw [hL]; exact hj)⟩⟩, ?_, ?_, kS', kH', hB'⟩
    · rw [List.map_append]
      show Boxed _ _ _ (.int .i64 (V.after c [0, 0, 0, 0] (pre.map (fun x => x.1.1) ++ [i])).1)
      rw [HS.out]; exact kR'
    · rw [List.map_append]
      show V.Byt _ _ (V.after c [0, 0, 0, 0] (pre.map (fun x => x.1.1) ++ [i])).2
      rw [HS.out]; exact kB'
  case done =>
    rintro D ys W hD hys ⟨kR, kB, kS, kH, hB⟩ hK
    rw [hys, hxs] at kB
    have hl : xs.length = 4 := by rw [← hxs, V.after_len]; rfl
    have kB1 := kB.alloc (.cells #[.int .u8 4] 5)
    have hcv := run_convert_bytes_arg (P := Tryd.prog) (W.alloc (.cells #[.int .u8 4] 5)) 86 5 Tryd.underlying86 Tryd.underlying5 (w.heap.size + 1) 0 4 4 xs hl (fun j hj => by
      rw [Nat.zero_add, kB1.cell j (by omega)]; simp [List.getD]) 9 Tryd.underlying9
    have hc1 := V.conv_new [4] W #[.int .u8 4] rfl
    simp only [List.length_cons, List.length_nil, Nat.reduceAdd] at hc1
    have kSc := (kS.alloc (.cells #[.int .u8 4] 5)).cell
    have sa : (strOfNums [4]).size + (strOfNums xs).size ≤ 9223372036854775807 := by rw [strOfNums_size, strOfNums_size, hl]; simp
    have HL : Hid (xs.length = 4) := hl
    have hK2 : (W.alloc (.cells #[.int .u8 4] 5)).heap[D]? = some (Obj.deferred (some [])) := (heap_alloc_old W _ (Array.getElem?_eq_some_iff.1 hK).1).trans hK
    clear hl hys kB1
    generalize hsx : strOfNums xs = sx at hcv sa
    generalize hs1 : strOfNums [4] = s1 at hc1 sa
    have HX : Hid (strOfNums xs = sx ∧ strOfNums [4] = s1) := ⟨hsx, hs1⟩
    clear hsx hs1
    gi_wp2
    refine ⟨by simp, .inl ⟨_, _, rfl, run_takeDeferred hK2, ?_⟩⟩
    exact ⟨_, results_tmp2 rfl _ _ _, by rw [HX.out.1, HX.out.2]; rfl, (hB.alloc hB.size _).trans (belowK_b (w := w) (Nat.le_refl _) _ D _ _ (by omega) hK2 rfl rfl)⟩
  case stop =>
    rintro D c pre W _ _ h _
    exact h.elim

theorem after_1 (n : Int) (h : 0 ≤ n) : (V.after (n % 256) [0] (V.downto 1 1)).2 = numB n 1 := by
  simp [V.after, V.step, V.downto, numB, List.range_succ]
theorem after_2 (n : Int) (h : 0 ≤ n) : (V.after (n % 65536) [0, 0] (V.downto 2 2)).2 = numB n 2 := by
  simp [V.after, V.step, V.downto, numB, List.range_succ] <;> omega
theorem after_3 (n : Int) (h : 0 ≤ n) : (V.after (n % 16777216) [0, 0, 0] (V.downto 3 3)).2 = numB n 3 := by
  simp [V.after, V.step, V.downto, numB, List.range_succ] <;> omega
theorem after_4 (n : Int) (h : 0 ≤ n) : (V.after (n % 4294967296) [0, 0, 0, 0] (V.downto 4 4)).2 = numB n 4 := by
  simp [V.after, V.step, V.downto, numB, List.range_succ] <;> omega
theorem printNum_yes (n k : Int) (w : World) (h : U.pairB n k = true) : Calls Tryd.prog 24 #[.int .i64 n, .int .i64 k] w fun e w' => e = .returned (.tuple #[.string (pkN n k), .nilIface]) ∧ Below w.heap.size w w' := by
  obtain ⟨n0, n1, _⟩ := U.pairB_yes h
  have hm : U.mayB n = true := (U.mayB_iff n).2 ⟨n0, n1⟩
  have hn : ∀ W, Calls Tryd.prog 34 #[.int .i64 n, .int .i64 k] W fun e w' => e = .returned (.tuple #[.int .i64 (U.need n k), .nilIface]) ∧ W = w' := fun W => (U.need_yes n k W h).mono fun e w' hh => ⟨hh.1, hh.2.symm⟩
  have hc : ∀ W, Calls Tryd.prog 35 #[.int .i64 n, .int .i64 (U.need n k)] W fun e w' => e = .returned (.tuple #[.int .i64 (n % U.rnd (U.need n k)), .nilIface]) ∧ W = w' := fun W => (U.cut_yes n (U.need n k) W hm (U.need_len n k)).mono fun e w' hh => ⟨hh.1, hh.2.symm⟩
  unfold pkN
  rcases U.lenB_yes (U.need_len n k) with e | e | e | e
  · rw [e] at hn hc ⊢
    exact pnum_1 n k _ w hn hc (by rw [U.rnd_1]; omega) (by rw [U.rnd_1]; omega) _ (by rw [U.rnd_1]; exact after_1 n n0)
  · rw [e] at hn hc ⊢
    exact pnum_2 n k _ w hn hc (by rw [U.rnd_2]; omega) (by rw [U.rnd_2]; omega) _ (by rw [U.rnd_2]; exact after_2 n n0)
  · rw [e] at hn hc ⊢
    exact pnum_3 n k _ w hn hc (by rw [U.rnd_3]; omega) (by rw [U.rnd_3]; omega) _ (by rw [U.rnd_3]; exact after_3 n n0)
  · rw [e] at hn hc ⊢
    exact pnum_4 n k _ w hn hc (by rw [U.rnd_4]; omega) (by rw [U.rnd_4]; omega) _ (by rw [U.rnd_4]; exact after_4 n n0)
set_option maxRecDepth 100000 in
set_option maxHeartbeats 4000000 in
theorem printNum_no (n k : Int) (w : World) (h : U.pairB n k = false) : Calls Tryd.prog 24 #[.int .i64 n, .int .i64 k] w fun e w' => e = .returned (.tuple #[.string { data := #[] }, errV 1]) ∧ Below w.heap.size w w' := by
  have HN := fun W => U.need_no n k W h
  rw [errV1]
  clear h
  go_enter Tryd.func24, Tryd.ntmps24
  go_wp2_with (first | (go_at_call 34; refine (HN _).mono ?_; rintro e w1 ⟨rfl, rfl⟩))
  go_ret2
  exact ⟨rfl, Below.refl _ _⟩
end Go.Proofs.YtoabfilliiopmaaDoor
