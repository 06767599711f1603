/- What Put answers: the bytes of a number that may be, and the error of one that may not. -/
import Derived.Test.YtjpdembofiadbaaDoorVA
import Derived.Test.YtjpdembofiadbaaDoorVB
import Derived.RangeFuncNested
import Derived.Laws.BytesArg
namespace Go.Proofs.YtjpdembofiadbaaDoor.V
open Go.RowKit Go.Shelf
set_option linter.unusedVariables false
set_option linter.unusedSimpArgs false
attribute [local go_sem] Oper.semAt_some

theorem mk1 (w : World) : (Instr.makeSlice 42 (.int .i64 1) (.int .i64 1)).run Tryd.prog w = .ok (.slice (some ⟨w.heap.size, 0, none⟩) 1 1) (w.alloc (.cells #[.int .u8 0] 5)) := by kernel_rfl
theorem mk2 (w : World) : (Instr.makeSlice 42 (.int .i64 2) (.int .i64 2)).run Tryd.prog w = .ok (.slice (some ⟨w.heap.size, 0, none⟩) 2 2) (w.alloc (.cells #[.int .u8 0, .int .u8 0] 5)) := by kernel_rfl
theorem mk4 (w : World) : (Instr.makeSlice 42 (.int .i64 4) (.int .i64 4)).run Tryd.prog w = .ok (.slice (some ⟨w.heap.size, 0, none⟩) 4 4) (w.alloc (.cells #[.int .u8 0, .int .u8 0, .int .u8 0, .int .u8 0] 5)) := by kernel_rfl

/-- Block B holds just these bytes. -/
def Byt (W : World) (B : Nat) (cs : List Int) : Prop := W.heap[B]? = some (.cells (cs.map (Value.int .u8)).toArray 5 (0, 0))
theorem Byt.lt {W : World} {B : Nat} {cs : List Int} (h : Byt W B cs) : B < W.heap.size := (Array.getElem?_eq_some_iff.1 h).1
theorem Byt.cell {W : World} {B : Nat} {cs : List Int} (h : Byt W B cs) (j : Nat) (hj : j < cs.length) : W.cell? ⟨B, j, none⟩ = some (.int .u8 (cs[j]?.getD 0)) := by
  simp [World.cell?, show W.heap[B]? = _ from h, hj]
theorem Byt.frozen {W : World} {B : Nat} {cs : List Int} (h : Byt W B cs) (j : Nat) : W.frozen? ⟨B, j, none⟩ = false := by
  simp [World.frozen?, show W.heap[B]? = _ from h]
theorem Byt.kept {W W' : World} {row : Option Nat} {B : Nat} {cs : List Int} (h : Byt W B cs) (hg : W.grownBy W' row) (hne : some B ≠ row) : Byt W' B cs := (hg.block B h.lt hne).trans h
theorem Byt.alloc {W : World} {B : Nat} {cs : List Int} (h : Byt W B cs) (o : Obj) : Byt (W.alloc o) B cs := h.kept (World.grownBy_alloc W o none) (by simp)
theorem Byt.set {W : World} {B : Nat} {cs : List Int} (h : Byt W B cs) (j : Nat) (v : Int) : Byt (W.setCell ⟨B, j, none⟩ (.int .u8 v)) B (cs.set j v) := by
  obtain ⟨hlt, hk⟩ := Array.getElem?_eq_some_iff.1 h
  show (W.heap.modify B _)[B]? = _
  rw [Array.getElem?_eq_getElem (by rw [Array.size_modify]; exact hlt), Array.getElem_modify_self, hk]
  simp [List.map_set]
theorem Byt.other {W : World} {B B' : Nat} {cs : List Int} (h : Byt W B cs) (hne : B ≠ B') (u : Value) : Byt (W.setCell ⟨B', 0, none⟩ u) B cs := h.kept (grownBy_setCell' W B' u) (fun e => hne (by cases e; rfl))
theorem Byt.own {β : Type} (B : Nat) (f : β → List Int) : Own (fun s W => Byt W B (f s)) := fun s X Y row hs hg hrow =>
  hs.kept hg (fun e' => by obtain ⟨o, ho, hc⟩ := hrow B e'.symm; rw [show X.heap[B]? = _ from hs] at ho; cases ho; cases hc)
theorem Boxed.otherRow {W : World} {B B' j : Nat} {t : TypeId} {v : Value} (h : Boxed W B t v) (hne : B ≠ B') (u : Value) : Boxed (W.setCell ⟨B', j, none⟩ u) B t v :=
  (Below.heap_setCell _ _ _ B hne).trans h

/-- One round: the last eight bits into place i; the rest. -/
def step (s : Int × List Int) (i : Nat) : Int × List Int := (s.1 / 256, s.2.set i (s.1 % 256))
def after (r : Int) (cs : List Int) (is : List Nat) : Int × List Int := is.foldl step (r, cs)
theorem after_snoc (r : Int) (cs : List Int) (is : List Nat) (i : Nat) : after r cs (is ++ [i]) = step (after r cs is) i := by simp [after]
theorem after_len (r : Int) (cs : List Int) (is : List Nat) : (after r cs is).2.length = cs.length := by
  unfold after
  induction is generalizing r cs with
  | nil => rfl
  | cons i is ih => simpa [step] using ih (r / 256) (cs.set i (r % 256))
theorem after_bd (r : Int) (cs : List Int) (is : List Nat) (h0 : 0 ≤ r) (h1 : r < 4294967296) : 0 ≤ (after r cs is).1 ∧ (after r cs is).1 < 4294967296 := by
  unfold after
  induction is generalizing r cs with
  | nil => exact ⟨h0, h1⟩
  | cons i is ih => exact ih (r / 256) (cs.set i (r % 256)) (by omega) (by omega)

theorem KpRow.put {w : World} {len cap Bs b : Nat} (W : World) (l : Nat) (o o' : Obj) (_ : w.heap.size ≤ l) (h : W.heap[l]? = some o) (hc : o.isCells = false) (_ : o.isWalk = false) : KpRow len cap Bs b W (W.putObj l o') := fun hR =>
  ⟨cell_kept hR.head (grownBy_putObj' W l o') (fun r e => by cases e; exact ⟨o, h, hc⟩), fun j hj => by
    obtain ⟨v, hv⟩ := hR.byte j hj
    exact ⟨v, cell_kept hv (grownBy_putObj' W l o') (fun r e => by cases e; exact ⟨o, h, hc⟩)⟩⟩

/-- The bytes of a number that may be. -/
def nums (n : Int) : List Int := if n < 64 then [n] else if n < 16384 then [64 + n / 256, n % 256] else [128 + n / 16777216, n / 65536 % 256, n / 256 % 256, n % 256]
theorem nums_0 (n : Int) (h0 : 0 ≤ n) (h1 : n < 64) : (after n [0] (downto 1 1)).2 = nums n := by
  simp [after, downto, step, List.range_succ, nums, h1]; omega
theorem nums_1 (n : Int) (h0 : 64 ≤ n) (h1 : n < 16384) : (after (n + 16384) [0, 0] (downto 2 2)).2 = nums n := by
  have h2 : ¬ n < 64 := by omega
  simp [after, downto, step, List.range_succ, nums, h1, h2]; omega
theorem nums_2 (n : Int) (h0 : 16384 ≤ n) (h1 : n < 1073741824) : (after (n + 2147483648) [0, 0, 0, 0] (downto 4 4)).2 = nums n := by
  have h2 : ¬ n < 64 := by omega
  have h3 : ¬ n < 16384 := by omega
  simp [after, downto, step, List.range_succ, nums, h2, h3]; omega

set_option maxRecDepth 100000 in
set_option maxHeartbeats 1000000 in
theorem put_neg (n : Int) (w : World) (h : n < 0) :
    Calls Tryd.prog 72 #[.int .i64 n] w fun e w' => e = .returned (.tuple #[.string { data := #[] }, .iface 48 (.int .i64 1)]) ∧ Below w.heap.size w w' := by
  refine (callsIn_wide (n := 4)).1 ?_
  have h15 : Fence.wide.fn 77 := trivial
  refine callsIn_of_wp_marks Tryd.func72 rfl trivial ?_ rfl
  simp only [Tryd.ntmps72, List.size_toArray, List.length_cons, List.length_nil, Nat.reduceAdd, Nat.reduceSub, Array.replicate_succ, Array.replicate_zero, List.push_toArray, List.append_toArray, List.nil_append, List.cons_append]
  gi_wp2_with (gi_at_call 77; refine (callsIn_wide.2 (bits_neg _ _ h)).mono ?_; rintro e w1 ⟨rfl, hb⟩)
  exact ⟨_, results_tmp2 rfl _ _ _, rfl, hb⟩

set_option maxRecDepth 100000 in
set_option maxHeartbeats 1000000 in
theorem put_big (n : Int) (w : World) (hF : Forms w) (h : 1073741824 ≤ n) :
    Calls Tryd.prog 72 #[.int .i64 n] w fun e w' => e = .returned (.tuple #[.string { data := #[] }, .iface 48 (.int .i64 1)]) ∧ Below w.heap.size w w' := by
  refine (callsIn_wide (n := 4)).1 ?_
  have h15 : Fence.wide.fn 77 := trivial
  refine callsIn_of_wp_marks Tryd.func72 rfl trivial ?_ rfl
  simp only [Tryd.ntmps72, List.size_toArray, List.length_cons, List.length_nil, Nat.reduceAdd, Nat.reduceSub, Array.replicate_succ, Array.replicate_zero, List.push_toArray, List.append_toArray, List.nil_append, List.cons_append]
  gi_wp2_with (gi_at_call 77; refine (callsIn_wide.2 (bits_big _ _ hF h)).mono ?_; rintro e w1 ⟨rfl, hb⟩)
  exact ⟨_, results_tmp2 rfl _ _ _, rfl, hb⟩

set_option maxRecDepth 100000 in
set_option maxHeartbeats 2000000 in
theorem put_0 (n : Int) (w : World) (hF : Forms w) (h0 : 0 ≤ n) (h1 : n < 64) :
    Calls Tryd.prog 72 #[.int .i64 n] w fun e w' => e = .returned (.tuple #[.string (strOfNums (nums n)), .nilIface]) ∧ Below w.heap.size w w' := by
  refine (callsIn_wide (n := 4)).1 ?_
  have h15 : Fence.wide.fn 77 := trivial
  have h16 : Fence.wide.fn 32 := trivial
  have hmk := mk1
  refine callsIn_of_wp_marks Tryd.func72 rfl trivial ?_ rfl
  simp only [Tryd.ntmps72, List.size_toArray, List.length_cons, List.length_nil, Nat.reduceAdd, Nat.reduceSub, Array.replicate_succ, Array.replicate_zero, List.push_toArray, List.append_toArray, List.nil_append, List.cons_append]
  gi_wp2_with (first | (gi_at_call 77; refine (callsIn_wide.2 (bits_0 _ _ hF h0 h1)).mono ?_; rintro e w1 ⟨rfl, hb⟩; obtain ⟨c0, c1, c2, c3, c4, c5, hp⟩ := hF.below hb) | (gi_at_call 32; refine (back_in Fence.wide 3 trivial rfl _ _ _ _).mono ?_; rintro e w' ⟨rfl, rfl⟩))
  clear hmk
  obtain ⟨W0, hW0⟩ : ∃ W0, ((((w1.alloc (.cells #[.int .i64 (n)] 3)).alloc (.cells #[.int .u8 0] 5)).alloc (.cells #[(.slice (some ⟨w1.heap.size + 1, 0, none⟩) 1 1)] 42)).alloc (.cells #[(.slice (some ⟨w1.heap.size + 1, 0, none⟩) 1 1)] 42)) = W0 := ⟨_, rfl⟩
  have sz : W0.heap.size = w1.heap.size + 4 := by rw [← hW0]; simp
  have bR : Boxed W0 w1.heap.size 3 (.int .i64 (n)) := by rw [← hW0]; exact (((Boxed.new w1 3 _).alloc _).alloc _).alloc _
  have bB : Byt W0 (w1.heap.size + 1) [0] := by
    rw [← hW0]
    have h : Byt ((w1.alloc (.cells #[.int .i64 (n)] 3)).alloc (.cells #[.int .u8 0] 5)) (w1.heap.size + 1) [0] := by
      have := World.alloc_heap_new (w1.alloc (.cells #[.int .i64 (n)] 3)) (.cells #[.int .u8 0] 5)
      rwa [World.size_alloc] at this
    exact (h.alloc _).alloc _
  have bS : Boxed W0 (w1.heap.size + 1 + 1) 42 (.slice (some ⟨w1.heap.size + 1, 0, none⟩) 1 1) := by
    rw [← hW0]
    have h := Boxed.new ((w1.alloc (.cells #[.int .i64 (n)] 3)).alloc (.cells #[.int .u8 0] 5)) 42 (.slice (some ⟨w1.heap.size + 1, 0, none⟩) 1 1)
    rw [World.size_alloc, World.size_alloc] at h
    exact h.alloc _
  have bH : Boxed W0 (w1.heap.size + 1 + 1 + 1) 42 (.slice (some ⟨w1.heap.size + 1, 0, none⟩) 1 1) := by
    rw [← hW0]
    have h := Boxed.new (((w1.alloc (.cells #[.int .i64 (n)] 3)).alloc (.cells #[.int .u8 0] 5)).alloc (.cells #[(.slice (some ⟨w1.heap.size + 1, 0, none⟩) 1 1)] 42)) 42 (.slice (some ⟨w1.heap.size + 1, 0, none⟩) 1 1)
    rw [World.size_alloc, World.size_alloc, World.size_alloc] at h
    exact h
  have hsz := hb.size
  have hB0 : Below w.heap.size w W0 := by
    rw [← hW0]
    exact ((((hb.alloc hsz _).alloc (by simp <;> omega) _).alloc (by simp <;> omega) _).alloc (by simp <;> omega) _)
  rw [hW0]
  clear hW0
  refine wpIn_rangeFunc_ownG rfl (by decide) (gf := 44) (lb := #[.pointer (some ⟨w1.heap.size + 1 + 1 + 1, 0, none⟩)]) rfl trivial (enters_of Tryd.func44 (by kernel_rfl) rfl)
    (back_stops Fence.wide (4 - 1) trivial rfl (by decide) (w1.heap.size + 1 + 1 + 1) (w1.heap.size + 1) 1 1 (by decide) W0 (by omega) (by omega) ⟨bH.cell, fun j hj => ⟨_, bB.cell j hj⟩⟩)
    (fun h k hR => k (h hR)) (KpRow.put (w := W0)) (Below.refl _ _) (fun _ => rfl)
    (fun pre W => Boxed W w1.heap.size 3 (.int .i64 (after (n) [0] (pre.map fun x => x.1.1)).1) ∧ Byt W (w1.heap.size + 1) (after (n) [0] (pre.map fun x => x.1.1)).2 ∧ Boxed W (w1.heap.size + 1 + 1) 42 (.slice (some ⟨w1.heap.size + 1, 0, none⟩) 1 1) ∧ Boxed W (w1.heap.size + 1 + 1 + 1) 42 (.slice (some ⟨w1.heap.size + 1, 0, none⟩) 1 1) ∧ Below w.heap.size w W)
    (fun _ _ _ => False)
    (OwnFrom.and (Own.from (boxed_own _ _ _) _) (OwnFrom.and (Own.from (Byt.own _ _) _) (OwnFrom.and (Own.from (boxed_own _ _ _) _) (OwnFrom.and (Own.from (boxed_own _ _ _) _) (ownFrom_below (Nat.le_refl _) (by omega))))))
    (fun _ _ _ _ _ hs _ _ => hs)
    ⟨bR, bB, bS, bH, hB0⟩
    (fun x => { tmps := #[.int .i64 n, undef, .string { data := #[] }, .nilIface, .int .i64 0, .nilIface, .pointer (some ⟨w1.heap.size, 0, none⟩), .pointer (some ⟨w1.heap.size + 1 + 1, 0, none⟩), .int .i64 (x.1.1 : Int), .tuple #[.int .i64 0, .nilIface], .int .i64 n, .tuple #[.int .i64 0, .nilIface], .int .i64 0, .nilIface, .nilIface, .bool false, undef, .int .i64 n, .int .i64 0, .int .i64 0, .pointer (some ⟨2, 0, none⟩), .pointer (some ⟨2, 1, none⟩), .int .i64 64, .int .i64 0, .int .i64 (n), .int .i64 0, .pointer (some ⟨2, 0, none⟩), .pointer (some ⟨2, 0, none⟩), .int .i64 1, (.slice (some ⟨w1.heap.size + 1, 0, none⟩) 1 1), (.slice (some ⟨w1.heap.size + 1, 0, none⟩) 1 1), .func (.func 44) #[] #[.pointer (some ⟨w1.heap.size + 1 + 1 + 1, 0, none⟩)], .int .i64 (x.1.1 : Int), .int .u8 x.1.2, undef, undef, undef, undef, undef, undef, undef, undef, undef], defers := [] }) ?assign ?body ?done ?stop
  case assign =>
    intro l x W K hK
    gi_wp2
    exact hK
  case body =>
    rintro l pre ⟨⟨i, v⟩, hx⟩ W ⟨kR, kB, kS, kH, hB⟩ _
    have hx : i < 1 := hx
    have hlen := after_len (n) [0] (pre.map fun x => x.1.1)
    have hbd := after_bd (n) [0] (pre.map fun x => x.1.1) (by omega) (by omega)
    have sn := after_snoc (n) [0] (pre.map fun x => x.1.1) i
    have kc := kB.cell i (by rw [hlen]; exact hx)
    have kf := kB.frozen i
    have HS : Hid (after (n) [0] (pre.map (fun x => x.1.1) ++ [i]) = step (after (n) [0] (pre.map fun x => x.1.1)) i) := sn
    have HL : Hid ((after (n) [0] (pre.map fun x => x.1.1)).2.length = 1) := hlen
    clear sn hlen
    generalize after (n) [0] (pre.map fun x => x.1.1) = st at *
    have kRc := kR.cell
    have kRf := kR.frozen
    have kSc := kS.cell
    obtain ⟨hbd0, hbd1⟩ := hbd
    have g1 : ((i : Nat) : Int) < 1 := by omega
    gi_wp2
    have kB' := (kB.set i (st.1 % 256)).other (B' := w1.heap.size) (by omega) (.int .i64 (st.1 / 256))
    have kR' := (Boxed.otherRow (B' := w1.heap.size + 1) (j := i) kR (by omega) (.int .u8 (st.1 % 256))).set (.int .i64 (st.1 / 256))
    have kS' := (Boxed.otherRow (B' := w1.heap.size + 1) (j := i) kS (by omega) (.int .u8 (st.1 % 256))).other (B' := w1.heap.size) (by omega) (.int .i64 (st.1 / 256))
    have kH' := (Boxed.otherRow (B' := w1.heap.size + 1) (j := i) kH (by omega) (.int .u8 (st.1 % 256))).other (B' := w1.heap.size) (by omega) (.int .i64 (st.1 / 256))
    have hB' := (hB.setCell (p := ⟨w1.heap.size + 1, i, none⟩) (by show w.heap.size ≤ w1.heap.size + 1; omega) (.int .u8 (st.1 % 256))).setCell (p := ⟨w1.heap.size, 0, none⟩) hsz (.int .i64 (st.1 / 256))
    have hL : (st.2.set i (st.1 % 256)).length = 1 := by rw [List.length_set]; exact HL.out
    refine ⟨((KeepsOthers.setCell _ _ _).trans (KeepsOthers.setCell _ _ _)).from _, fun _ => ⟨kH'.cell, fun j hj => ⟨_, kB'.cell j (by rw [hL]; exact hj)⟩⟩, ?_, ?_, kS', kH', hB'⟩
    · rw [List.map_append]
      show Boxed _ _ _ (.int .i64 (after (n) [0] (pre.map (fun x => x.1.1) ++ [i])).1)
      rw [HS.out]; exact kR'
    · rw [List.map_append]
      show Byt _ _ (after (n) [0] (pre.map (fun x => x.1.1) ++ [i])).2
      rw [HS.out]; exact kB'
  case done =>
    rintro D ys W hD hys ⟨kR, kB, kS, kH, hB⟩ hK
    rw [hys, nums_0 n h0 h1] at kB
    have hl : (nums n).length = 1 := by rw [← nums_0 n h0 h1, after_len]; rfl
    have hcv := run_convert_bytes_arg (P := Tryd.prog) W 42 5 Tryd.underlying42 Tryd.underlying5 (w1.heap.size + 1) 0 1 1 (nums n) hl (fun j hj => by
      rw [Nat.zero_add, kB.cell j (by omega)]; simp [List.getD]) 9 Tryd.underlying9
    have kSc := kS.cell
    have HL : Hid ((nums n).length = 1) := hl
    clear hl hys
    gi_wp2
    refine ⟨by simp, .inl ⟨_, _, rfl, run_takeDeferred hK, ?_⟩⟩
    exact ⟨_, results_tmp2 rfl _ _ _, rfl, hB.trans (belowK_b (w := w) (Nat.le_refl _) W D _ _ (by omega) hK rfl rfl)⟩
  case stop =>
    rintro D c pre W _ _ h _
    exact h.elim

set_option maxRecDepth 100000 in
set_option maxHeartbeats 2000000 in
theorem put_1 (n : Int) (w : World) (hF : Forms w) (h0 : 64 ≤ n) (h1 : n < 16384) :
    Calls Tryd.prog 72 #[.int .i64 n] w fun e w' => e = .returned (.tuple #[.string (strOfNums (nums n)), .nilIface]) ∧ Below w.heap.size w w' := by
  refine (callsIn_wide (n := 4)).1 ?_
  have h15 : Fence.wide.fn 77 := trivial
  have h16 : Fence.wide.fn 32 := trivial
  have hmk := mk2
  refine callsIn_of_wp_marks Tryd.func72 rfl trivial ?_ rfl
  simp only [Tryd.ntmps72, List.size_toArray, List.length_cons, List.length_nil, Nat.reduceAdd, Nat.reduceSub, Array.replicate_succ, Array.replicate_zero, List.push_toArray, List.append_toArray, List.nil_append, List.cons_append]
  gi_wp2_with (first | (gi_at_call 77; refine (callsIn_wide.2 (bits_1 _ _ hF h0 h1)).mono ?_; rintro e w1 ⟨rfl, hb⟩; obtain ⟨c0, c1, c2, c3, c4, c5, hp⟩ := hF.below hb) | (gi_at_call 32; refine (back_in Fence.wide 3 trivial rfl _ _ _ _).mono ?_; rintro e w' ⟨rfl, rfl⟩))
  clear hmk
  obtain ⟨W0, hW0⟩ : ∃ W0, ((((w1.alloc (.cells #[.int .i64 (n + 16384)] 3)).alloc (.cells #[.int .u8 0, .int .u8 0] 5)).alloc (.cells #[(.slice (some ⟨w1.heap.size + 1, 0, none⟩) 2 2)] 42)).alloc (.cells #[(.slice (some ⟨w1.heap.size + 1, 0, none⟩) 2 2)] 42)) = W0 := ⟨_, rfl⟩
  have sz : W0.heap.size = w1.heap.size + 4 := by rw [← hW0]; simp
  have bR : Boxed W0 w1.heap.size 3 (.int .i64 (n + 16384)) := by rw [← hW0]; exact (((Boxed.new w1 3 _).alloc _).alloc _).alloc _
  have bB : Byt W0 (w1.heap.size + 1) [0, 0] := by
    rw [← hW0]
    have h : Byt ((w1.alloc (.cells #[.int .i64 (n + 16384)] 3)).alloc (.cells #[.int .u8 0, .int .u8 0] 5)) (w1.heap.size + 1) [0, 0] := by
      have := World.alloc_heap_new (w1.alloc (.cells #[.int .i64 (n + 16384)] 3)) (.cells #[.int .u8 0, .int .u8 0] 5)
      rwa [World.size_alloc] at this
    exact (h.alloc _).alloc _
  have bS : Boxed W0 (w1.heap.size + 1 + 1) 42 (.slice (some ⟨w1.heap.size + 1, 0, none⟩) 2 2) := by
    rw [← hW0]
    have h := Boxed.new ((w1.alloc (.cells #[.int .i64 (n + 16384)] 3)).alloc (.cells #[.int .u8 0, .int .u8 0] 5)) 42 (.slice (some ⟨w1.heap.size + 1, 0, none⟩) 2 2)
    rw [World.size_alloc, World.size_alloc] at h
    exact h.alloc _
  have bH : Boxed W0 (w1.heap.size + 1 + 1 + 1) 42 (.slice (some ⟨w1.heap.size + 1, 0, none⟩) 2 2) := by
    rw [← hW0]
    have h := Boxed.new (((w1.alloc (.cells #[.int .i64 (n + 16384)] 3)).alloc (.cells #[.int .u8 0, .int .u8 0] 5)).alloc (.cells #[(.slice (some ⟨w1.heap.size + 1, 0, none⟩) 2 2)] 42)) 42 (.slice (some ⟨w1.heap.size + 1, 0, none⟩) 2 2)
    rw [World.size_alloc, World.size_alloc, World.size_alloc] at h
    exact h
  have hsz := hb.size
  have hB0 : Below w.heap.size w W0 := by
    rw [← hW0]
    exact ((((hb.alloc hsz _).alloc (by simp <;> omega) _).alloc (by simp <;> omega) _).alloc (by simp <;> omega) _)
  rw [hW0]
  clear hW0
  refine wpIn_rangeFunc_ownG rfl (by decide) (gf := 44) (lb := #[.pointer (some ⟨w1.heap.size + 1 + 1 + 1, 0, none⟩)]) rfl trivial (enters_of Tryd.func44 (by kernel_rfl) rfl)
    (back_stops Fence.wide (4 - 1) trivial rfl (by decide) (w1.heap.size + 1 + 1 + 1) (w1.heap.size + 1) 2 2 (by decide) W0 (by omega) (by omega) ⟨bH.cell, fun j hj => ⟨_, bB.cell j hj⟩⟩)
    (fun h k hR => k (h hR)) (KpRow.put (w := W0)) (Below.refl _ _) (fun _ => rfl)
    (fun pre W => Boxed W w1.heap.size 3 (.int .i64 (after (n + 16384) [0, 0] (pre.map fun x => x.1.1)).1) ∧ Byt W (w1.heap.size + 1) (after (n + 16384) [0, 0] (pre.map fun x => x.1.1)).2 ∧ Boxed W (w1.heap.size + 1 + 1) 42 (.slice (some ⟨w1.heap.size + 1, 0, none⟩) 2 2) ∧ Boxed W (w1.heap.size + 1 + 1 + 1) 42 (.slice (some ⟨w1.heap.size + 1, 0, none⟩) 2 2) ∧ Below w.heap.size w W)
    (fun _ _ _ => False)
    (OwnFrom.and (Own.from (boxed_own _ _ _) _) (OwnFrom.and (Own.from (Byt.own _ _) _) (OwnFrom.and (Own.from (boxed_own _ _ _) _) (OwnFrom.and (Own.from (boxed_own _ _ _) _) (ownFrom_below (Nat.le_refl _) (by omega))))))
    (fun _ _ _ _ _ hs _ _ => hs)
    ⟨bR, bB, bS, bH, hB0⟩
    (fun x => { tmps := #[.int .i64 n, undef, .string { data := #[] }, .nilIface, .int .i64 1, .nilIface, .pointer (some ⟨w1.heap.size, 0, none⟩), .pointer (some ⟨w1.heap.size + 1 + 1, 0, none⟩), .int .i64 (x.1.1 : Int), .tuple #[.int .i64 1, .nilIface], .int .i64 n, .tuple #[.int .i64 1, .nilIface], .int .i64 1, .nilIface, .nilIface, .bool false, undef, .int .i64 n, .int .i64 1, .int .i64 1, .pointer (some ⟨2, 2, none⟩), .pointer (some ⟨2, 3, none⟩), .int .i64 16384, .int .i64 16384, .int .i64 (n + 16384), .int .i64 1, .pointer (some ⟨2, 2, none⟩), .pointer (some ⟨2, 2, none⟩), .int .i64 2, (.slice (some ⟨w1.heap.size + 1, 0, none⟩) 2 2), (.slice (some ⟨w1.heap.size + 1, 0, none⟩) 2 2), .func (.func 44) #[] #[.pointer (some ⟨w1.heap.size + 1 + 1 + 1, 0, none⟩)], .int .i64 (x.1.1 : Int), .int .u8 x.1.2, undef, undef, undef, undef, undef, undef, undef, undef, undef], defers := [] }) ?assign ?body ?done ?stop
  case assign =>
    intro l x W K hK
    gi_wp2
    exact hK
  case body =>
    rintro l pre ⟨⟨i, v⟩, hx⟩ W ⟨kR, kB, kS, kH, hB⟩ _
    have hx : i < 2 := hx
    have hlen := after_len (n + 16384) [0, 0] (pre.map fun x => x.1.1)
    have hbd := after_bd (n + 16384) [0, 0] (pre.map fun x => x.1.1) (by omega) (by omega)
    have sn := after_snoc (n + 16384) [0, 0] (pre.map fun x => x.1.1) i
    have kc := kB.cell i (by rw [hlen]; exact hx)
    have kf := kB.frozen i
    have HS : Hid (after (n + 16384) [0, 0] (pre.map (fun x => x.1.1) ++ [i]) = step (after (n + 16384) [0, 0] (pre.map fun x => x.1.1)) i) := sn
    have HL : Hid ((after (n + 16384) [0, 0] (pre.map fun x => x.1.1)).2.length = 2) := hlen
    clear sn hlen
    generalize after (n + 16384) [0, 0] (pre.map fun x => x.1.1) = st at *
    have kRc := kR.cell
    have kRf := kR.frozen
    have kSc := kS.cell
    obtain ⟨hbd0, hbd1⟩ := hbd
    have g1 : ((i : Nat) : Int) < 2 := by omega
    gi_wp2
    have kB' := (kB.set i (st.1 % 256)).other (B' := w1.heap.size) (by omega) (.int .i64 (st.1 / 256))
    have kR' := (Boxed.otherRow (B' := w1.heap.size + 1) (j := i) kR (by omega) (.int .u8 (st.1 % 256))).set (.int .i64 (st.1 / 256))
    have kS' := (Boxed.otherRow (B' := w1.heap.size + 1) (j := i) kS (by omega) (.int .u8 (st.1 % 256))).other (B' := w1.heap.size) (by omega) (.int .i64 (st.1 / 256))
    have kH' := (Boxed.otherRow (B' := w1.heap.size + 1) (j := i) kH (by omega) (.int .u8 (st.1 % 256))).other (B' := w1.heap.size) (by omega) (.int .i64 (st.1 / 256))
    have hB' := (hB.setCell (p := ⟨w1.heap.size + 1, i, none⟩) (by show w.heap.size ≤ w1.heap.size + 1; omega) (.int .u8 (st.1 % 256))).setCell (p := ⟨w1.heap.size, 0, none⟩) hsz (.int .i64 (st.1 / 256))
    have hL : (st.2.set i (st.1 % 256)).length = 2 := by rw [List.length_set]; exact HL.out
    refine ⟨((KeepsOthers.setCell _ _ _).trans (KeepsOthers.setCell _ _ _)).from _, fun _ => ⟨kH'.cell, fun j hj => ⟨_, kB'.cell j (by rw [hL]; exact hj)⟩⟩, ?_, ?_, kS', kH', hB'⟩
    · rw [List.map_append]
      show Boxed _ _ _ (.int .i64 (after (n + 16384) [0, 0] (pre.map (fun x => x.1.1) ++ [i])).1)
      rw [HS.out]; exact kR'
    · rw [List.map_append]
      show Byt _ _ (after (n + 16384) [0, 0] (pre.map (fun x => x.1.1) ++ [i])).2
      rw [HS.out]; exact kB'
  case done =>
    rintro D ys W hD hys ⟨kR, kB, kS, kH, hB⟩ hK
    rw [hys, nums_1 n h0 h1] at kB
    have hl : (nums n).length = 2 := by rw [← nums_1 n h0 h1, after_len]; rfl
    have hcv := run_convert_bytes_arg (P := Tryd.prog) W 42 5 Tryd.underlying42 Tryd.underlying5 (w1.heap.size + 1) 0 2 2 (nums n) hl (fun j hj => by
      rw [Nat.zero_add, kB.cell j (by omega)]; simp [List.getD]) 9 Tryd.underlying9
    have kSc := kS.cell
    have HL : Hid ((nums n).length = 2) := hl
    clear hl hys
    gi_wp2
    refine ⟨by simp, .inl ⟨_, _, rfl, run_takeDeferred hK, ?_⟩⟩
    exact ⟨_, results_tmp2 rfl _ _ _, rfl, hB.trans (belowK_b (w := w) (Nat.le_refl _) W D _ _ (by omega) hK rfl rfl)⟩
  case stop =>
    rintro D c pre W _ _ h _
    exact h.elim

set_option maxRecDepth 100000 in
set_option maxHeartbeats 2000000 in
theorem put_2 (n : Int) (w : World) (hF : Forms w) (h0 : 16384 ≤ n) (h1 : n < 1073741824) :
    Calls Tryd.prog 72 #[.int .i64 n] w fun e w' => e = .returned (.tuple #[.string (strOfNums (nums n)), .nilIface]) ∧ Below w.heap.size w w' := by
  refine (callsIn_wide (n := 4)).1 ?_
  have h15 : Fence.wide.fn 77 := trivial
  have h16 : Fence.wide.fn 32 := trivial
  have hmk := mk4
  refine callsIn_of_wp_marks Tryd.func72 rfl trivial ?_ rfl
  simp only [Tryd.ntmps72, List.size_toArray, List.length_cons, List.length_nil, Nat.reduceAdd, Nat.reduceSub, Array.replicate_succ, Array.replicate_zero, List.push_toArray, List.append_toArray, List.nil_append, List.cons_append]
  gi_wp2_with (first | (gi_at_call 77; refine (callsIn_wide.2 (bits_2 _ _ hF h0 h1)).mono ?_; rintro e w1 ⟨rfl, hb⟩; obtain ⟨c0, c1, c2, c3, c4, c5, hp⟩ := hF.below hb) | (gi_at_call 32; refine (back_in Fence.wide 3 trivial rfl _ _ _ _).mono ?_; rintro e w' ⟨rfl, rfl⟩))
  clear hmk
  obtain ⟨W0, hW0⟩ : ∃ W0, ((((w1.alloc (.cells #[.int .i64 (n + 2147483648)] 3)).alloc (.cells #[.int .u8 0, .int .u8 0, .int .u8 0, .int .u8 0] 5)).alloc (.cells #[(.slice (some ⟨w1.heap.size + 1, 0, none⟩) 4 4)] 42)).alloc (.cells #[(.slice (some ⟨w1.heap.size + 1, 0, none⟩) 4 4)] 42)) = W0 := ⟨_, rfl⟩
  have sz : W0.heap.size = w1.heap.size + 4 := by rw [← hW0]; simp
  have bR : Boxed W0 w1.heap.size 3 (.int .i64 (n + 2147483648)) := by rw [← hW0]; exact (((Boxed.new w1 3 _).alloc _).alloc _).alloc _
  have bB : Byt W0 (w1.heap.size + 1) [0, 0, 0, 0] := by
    rw [← hW0]
    have h : Byt ((w1.alloc (.cells #[.int .i64 (n + 2147483648)] 3)).alloc (.cells #[.int .u8 0, .int .u8 0, .int .u8 0, .int .u8 0] 5)) (w1.heap.size + 1) [0, 0, 0, 0] := by
      have := World.alloc_heap_new (w1.alloc (.cells #[.int .i64 (n + 2147483648)] 3)) (.cells #[.int .u8 0, .int .u8 0, .int .u8 0, .int .u8 0] 5)
      rwa [World.size_alloc] at this
    exact (h.alloc _).alloc _
  have bS : Boxed W0 (w1.heap.size + 1 + 1) 42 (.slice (some ⟨w1.heap.size + 1, 0, none⟩) 4 4) := by
    rw [← hW0]
    have h := Boxed.new ((w1.alloc (.cells #[.int .i64 (n + 2147483648)] 3)).alloc (.cells #[.int .u8 0, .int .u8 0, .int .u8 0, .int .u8 0] 5)) 42 (.slice (some ⟨w1.heap.size + 1, 0, none⟩) 4 4)
    rw [World.size_alloc, World.size_alloc] at h
    exact h.alloc _
  have bH : Boxed W0 (w1.heap.size + 1 + 1 + 1) 42 (.slice (some ⟨w1.heap.size + 1, 0, none⟩) 4 4) := by
    rw [← hW0]
    have h := Boxed.new (((w1.alloc (.cells #[.int .i64 (n + 2147483648)] 3)).alloc (.cells #[.int .u8 0, .int .u8 0, .int .u8 0, .int .u8 0] 5)).alloc (.cells #[(.slice (some ⟨w1.heap.size + 1, 0, none⟩) 4 4)] 42)) 42 (.slice (some ⟨w1.heap.size + 1, 0, none⟩) 4 4)
    rw [World.size_alloc, World.size_alloc, World.size_alloc] at h
    exact h
  have hsz := hb.size
  have hB0 : Below w.heap.size w W0 := by
    rw [← hW0]
    exact ((((hb.alloc hsz _).alloc (by simp <;> omega) _).alloc (by simp <;> omega) _).alloc (by simp <;> omega) _)
  rw [hW0]
  clear hW0
  refine wpIn_rangeFunc_ownG rfl (by decide) (gf := 44) (lb := #[.pointer (some ⟨w1.heap.size + 1 + 1 + 1, 0, none⟩)]) rfl trivial (enters_of Tryd.func44 (by kernel_rfl) rfl)
    (back_stops Fence.wide (4 - 1) trivial rfl (by decide) (w1.heap.size + 1 + 1 + 1) (w1.heap.size + 1) 4 4 (by decide) W0 (by omega) (by omega) ⟨bH.cell, fun j hj => ⟨_, bB.cell j hj⟩⟩)
    (fun h k hR => k (h hR)) (KpRow.put (w := W0)) (Below.refl _ _) (fun _ => rfl)
    (fun pre W => Boxed W w1.heap.size 3 (.int .i64 (after (n + 2147483648) [0, 0, 0, 0] (pre.map fun x => x.1.1)).1) ∧ Byt W (w1.heap.size + 1) (after (n + 2147483648) [0, 0, 0, 0] (pre.map fun x => x.1.1)).2 ∧ Boxed W (w1.heap.size + 1 + 1) 42 (.slice (some ⟨w1.heap.size + 1, 0, none⟩) 4 4) ∧ Boxed W (w1.heap.size + 1 + 1 + 1) 42 (.slice (some ⟨w1.heap.size + 1, 0, none⟩) 4 4) ∧ Below w.heap.size w W)
    (fun _ _ _ => False)
    (OwnFrom.and (Own.from (boxed_own _ _ _) _) (OwnFrom.and (Own.from (Byt.own _ _) _) (OwnFrom.and (Own.from (boxed_own _ _ _) _) (OwnFrom.and (Own.from (boxed_own _ _ _) _) (ownFrom_below (Nat.le_refl _) (by omega))))))
    (fun _ _ _ _ _ hs _ _ => hs)
    ⟨bR, bB, bS, bH, hB0⟩
    (fun x => { tmps := #[.int .i64 n, undef, .string { data := #[] }, .nilIface, .int .i64 2, .nilIface, .pointer (some ⟨w1.heap.size, 0, none⟩), .pointer (some ⟨w1.heap.size + 1 + 1, 0, none⟩), .int .i64 (x.1.1 : Int), .tuple #[.int .i64 2, .nilIface], .int .i64 n, .tuple #[.int .i64 2, .nilIface], .int .i64 2, .nilIface, .nilIface, .bool false, undef, .int .i64 n, .int .i64 2, .int .i64 2, .pointer (some ⟨2, 4, none⟩), .pointer (some ⟨2, 5, none⟩), .int .i64 1073741824, .int .i64 2147483648, .int .i64 (n + 2147483648), .int .i64 2, .pointer (some ⟨2, 4, none⟩), .pointer (some ⟨2, 4, none⟩), .int .i64 4, (.slice (some ⟨w1.heap.size + 1, 0, none⟩) 4 4), (.slice (some ⟨w1.heap.size + 1, 0, none⟩) 4 4), .func (.func 44) #[] #[.pointer (some ⟨w1.heap.size + 1 + 1 + 1, 0, none⟩)], .int .i64 (x.1.1 : Int), .int .u8 x.1.2, undef, undef, undef, undef, undef, undef, undef, undef, undef], defers := [] }) ?assign ?body ?done ?stop
  case assign =>
    intro l x W K hK
    gi_wp2
    exact hK
  case body =>
    rintro l pre ⟨⟨i, v⟩, hx⟩ W ⟨kR, kB, kS, kH, hB⟩ _
    have hx : i < 4 := hx
    have hlen := after_len (n + 2147483648) [0, 0, 0, 0] (pre.map fun x => x.1.1)
    have hbd := after_bd (n + 2147483648) [0, 0, 0, 0] (pre.map fun x => x.1.1) (by omega) (by omega)
    have sn := after_snoc (n + 2147483648) [0, 0, 0, 0] (pre.map fun x => x.1.1) i
    have kc := kB.cell i (by rw [hlen]; exact hx)
    have kf := kB.frozen i
    have HS : Hid (after (n + 2147483648) [0, 0, 0, 0] (pre.map (fun x => x.1.1) ++ [i]) = step (after (n + 2147483648) [0, 0, 0, 0] (pre.map fun x => x.1.1)) i) := sn
    have HL : Hid ((after (n + 2147483648) [0, 0, 0, 0] (pre.map fun x => x.1.1)).2.length = 4) := hlen
    clear sn hlen
    generalize after (n + 2147483648) [0, 0, 0, 0] (pre.map fun x => x.1.1) = st at *
    have kRc := kR.cell
    have kRf := kR.frozen
    have kSc := kS.cell
    obtain ⟨hbd0, hbd1⟩ := hbd
    have g1 : ((i : Nat) : Int) < 4 := by omega
    gi_wp2
    have kB' := (kB.set i (st.1 % 256)).other (B' := w1.heap.size) (by omega) (.int .i64 (st.1 / 256))
    have kR' := (Boxed.otherRow (B' := w1.heap.size + 1) (j := i) kR (by omega) (.int .u8 (st.1 % 256))).set (.int .i64 (st.1 / 256))
    have kS' := (Boxed.otherRow (B' := w1.heap.size + 1) (j := i) kS (by omega) (.int .u8 (st.1 % 256))).other (B' := w1.heap.size) (by omega) (.int .i64 (st.1 / 256))
    have kH' := (Boxed.otherRow (B' := w1.heap.size + 1) (j := i) kH (by omega) (.int .u8 (st.1 % 256))).other (B' := w1.heap.size) (by omega) (.int .i64 (st.1 / 256))
    have hB' := (hB.setCell (p := ⟨w1.heap.size + 1, i, none⟩) (by show w.heap.size ≤ w1.heap.size + 1; omega) (.int .u8 (st.1 % 256))).setCell (p := ⟨w1.heap.size, 0, none⟩) hsz (.int .i64 (st.1 / 256))
    have hL : (st.2.set i (st.1 % 256)).length = 4 := by rw [List.length_set]; exact HL.out
    refine ⟨((KeepsOthers.setCell _ _ _).trans (KeepsOthers.setCell _ _ _)).from _, fun _ => ⟨kH'.cell, fun j hj => ⟨_, kB'.cell j (by rw [hL]; exact hj)⟩⟩, ?_, ?_, kS', kH', hB'⟩
    · rw [List.map_append]
      show Boxed _ _ _ (.int .i64 (after (n + 2147483648) [0, 0, 0, 0] (pre.map (fun x => x.1.1) ++ [i])).1)
      rw [HS.out]; exact kR'
    · rw [List.map_append]
      show Byt _ _ (after (n + 2147483648) [0, 0, 0, 0] (pre.map (fun x => x.1.1) ++ [i])).2
      rw [HS.out]; exact kB'
  case done =>
    rintro D ys W hD hys ⟨kR, kB, kS, kH, hB⟩ hK
    rw [hys, nums_2 n h0 h1] at kB
    have hl : (nums n).length = 4 := by rw [← nums_2 n h0 h1, after_len]; rfl
    have hcv := run_convert_bytes_arg (P := Tryd.prog) W 42 5 Tryd.underlying42 Tryd.underlying5 (w1.heap.size + 1) 0 4 4 (nums n) hl (fun j hj => by
      rw [Nat.zero_add, kB.cell j (by omega)]; simp [List.getD]) 9 Tryd.underlying9
    have kSc := kS.cell
    have HL : Hid ((nums n).length = 4) := hl
    clear hl hys
    gi_wp2
    refine ⟨by simp, .inl ⟨_, _, rfl, run_takeDeferred hK, ?_⟩⟩
    exact ⟨_, results_tmp2 rfl _ _ _, rfl, hB.trans (belowK_b (w := w) (Nat.le_refl _) W D _ _ (by omega) hK rfl rfl)⟩
  case stop =>
    rintro D c pre W _ _ h _
    exact h.elim

end Go.Proofs.YtjpdembofiadbaaDoor.V
