/- strings.Clone of no more than 200 bytes; Send. -/
import Derived.Test.YtljilhhnejjifaaDoorB
import Derived.Lib.UnsafeStr
import Derived.Lib.BufferWrite
import Derived.Laws.MakeOwn
namespace Go.Proofs.YtljilhhnejjifaaDoor
open Go.RowKit Go.Lib Go.Sort
set_option linter.unusedVariables false
set_option linter.unusedSimpArgs false

theorem str_nil {d : ByteArray} (h : d.size = 0) : d = { data := #[] } := by
  obtain ⟨⟨l⟩⟩ := d
  cases l with
  | nil => rfl
  | cons b l => exact absurd h (by show l.length + 1 ≠ 0; omega)
theorem infoB : (Tryd.prog.info? 5).map (fun i => (i.zero, i.size, i.bytes)) = some (some (.int .u8 0), 1, 1) := by kernel_rfl
set_option maxRecDepth 100000 in
set_option maxHeartbeats 2000000 in
theorem clonel_calls (s : ByteArray) (w : World) (hs : s.size ≤ 200) : Calls Tryd.prog 19 #[.string s] w fun e w' => e = .returned (.string s) ∧ Below w.heap.size w w' := by
  by_cases h0 : s.size = 0
  · obtain rfl := str_nil h0
    go_enter Tryd.func19, Tryd.ntmps19
    go_wp2
    go_ret
    exact ⟨rfl, Below.refl _ _⟩
  · obtain ⟨i0, hi, hz0, hz1, hz2⟩ := info_parts infoB
    have hinfo : (Tryd.prog.info? 5).map (·.size) = some 1 := by rw [hi]; simp [hz1]
    have hco : Tryd.prog.cellsOf 5 = 1 := by simp [Program.cellsOf, hi, hz1]
    -- the row that make lays, by a name of its own
    obtain ⟨M, hM⟩ : ∃ M, M = madeCells (Value.int .u8 0).cells (((s.size : Nat) : Int).toNat * i0.size) := ⟨_, rfl⟩
    have hMs : M.size = s.size := by rw [hM, size_madeCells, hz1]; simp
    have hmk : ∀ W : World, (Instr.makeSlice 61 (.int .i64 (s.size : Int)) (.int .i64 (s.size : Int))).run Tryd.prog W = .ok (.slice (some ⟨W.heap.size, 0, none⟩) s.size s.size) (W.alloc (.cells M 5)) := fun W => by
      have h := run_make (P := Tryd.prog) W 61 5 i0 (.int .u8 0) Tryd.underlying61 hi hz0 .i64 .i64 (s.size : Int) (s.size : Int) (by omega) (by omega) (by rw [hz2]; omega) (by omega)
      rw [← hM] at h
      simpa using h
    clear hM
    have hcp := Lib.run_copy_row_string (P := Tryd.prog) (w.alloc (.cells M 5)) 61 9 3 5 w.heap.size 0 s.size s.size s M 5 Tryd.underlying61 hinfo (heap_alloc_new w _) (Nat.le_refl _) (by omega)
    obtain ⟨Y, hY⟩ : ∃ Y, Y = (M.toList.take 0 ++ Lib.byteCells s.data.toList ++ M.toList.drop (0 + s.size)).toArray := ⟨_, rfl⟩
    rw [← hY] at hcp
    have hYl : Y.toList = Lib.byteCells s.data.toList := by
      rw [hY, List.toList_toArray, List.take_zero, List.nil_append, List.drop_of_length_le (by rw [Array.length_toList]; omega), List.append_nil]
    have hgY : ((w.alloc (.cells M 5)).setRow w.heap.size Y).heap[w.heap.size]? = some (.cells Y 5 (0, 0)) := setRow_heap _ _ M _ 5 (0, 0) (heap_alloc_new w _)
    have hne : s.data.toList ≠ [] := fun e => h0 (by rw [Lib.size_eq, e]; rfl)
    have hYs : Y.size = s.size := by rw [← Array.length_toList, hYl, Lib.byteCells_length, ← Lib.size_eq]
    have hUS := Lib.run_unsafeString_row (P := Tryd.prog) ((w.alloc (.cells M 5)).setRow w.heap.size Y) 62 3 9 5 Tryd.underlying62 hco w.heap.size Y.size (by unfold World.shape?; rw [hgY]) s.data.toList hne (by rw [← Lib.size_eq]; omega) (by rw [← Lib.size_eq]; omega)
      (fun j x hx => Lib.cells_of_row hgY Y.size j _ (by rw [List.take_of_length_le (by rw [Array.length_toList]; exact Nat.le_refl _), hYl]; simp [Lib.byteCells, hx]))
    rw [← Lib.size_eq] at hUS
    clear hY
    go_enter Tryd.func19, Tryd.ntmps19
    go_wp2
    go_ret
    have hb1 : Below w.heap.size w (w.alloc (.cells M 5)) := (Below.refl _ w).alloc (Nat.le_refl _) _
    have hb2 : Below w.heap.size (w.alloc (.cells M 5)) ((w.alloc (.cells M 5)).setRow w.heap.size Y) := ⟨rfl, rfl, rfl, by simp, fun k hk => setRow_other _ _ _ _ (by omega)⟩
    exact ⟨rfl, Lib.below_freeze (hb1.trans hb2) (p := ⟨w.heap.size, 0, none⟩) (Nat.le_refl _) _⟩
set_option maxRecDepth 100000 in
set_option maxHeartbeats 2000000 in
theorem clone_calls (s : ByteArray) (w : World) (hs : s.size ≤ 200) : Calls Tryd.prog 15 #[.string s] w fun e w' => e = .returned (.string s) ∧ Below w.heap.size w w' := by
  have HC := clonel_calls s w hs
  clear hs
  go_enter Tryd.func15, Tryd.ntmps15
  go_wp2_with (go_at_call 19; refine HC.mono ?_; rintro e w' ⟨rfl, hb1⟩)
  go_ret
  exact ⟨rfl, hb1⟩

set_option maxRecDepth 100000 in
set_option maxHeartbeats 2000000 in
theorem send_range {w : World} {B sb : Nat} {v : Value} {ls : List LR} (h : Lnk w 56 0 B sb v ls) (rcp : Int) (b : ByteArray) (hb : b.size ≤ 140737488351232) (hq : endB rcp = false) : Calls Tryd.prog 7 #[.pointer (some ⟨sb, 0, none⟩), .int .i64 rcp, .string b] w fun e w' => e = .returned (.iface 53 (.int .i64 1)) ∧ w' = w := by
  obtain ⟨a, c, rfl⟩ := h.shape
  have c0 := h.c
  clear h
  generalize ls.length = m at *
  generalize hz : b.size = z at *
  go_enter Tryd.func7, Tryd.ntmps7
  go_wp2_with (go_at_call 14; refine (isEnd_calls rcp _).mono ?_; rintro e w1 ⟨rfl, hw1⟩; rw [hq, hw1]; clear hw1 w1)
  go_ret
  exact ⟨rfl, rfl⟩

set_option maxRecDepth 100000 in
set_option maxHeartbeats 2000000 in
theorem send_full {w : World} {B sb : Nat} {v : Value} {ls : List LR} (h : Lnk w 56 0 B sb v ls) (rcp : Int) (b : ByteArray) (hb : b.size ≤ 140737488351232) (hq : endB rcp = true) (h1 : 40 ≤ (ls.length : Int)) : Calls Tryd.prog 7 #[.pointer (some ⟨sb, 0, none⟩), .int .i64 rcp, .string b] w fun e w' => e = .returned (.iface 53 (.int .i64 4)) ∧ w' = w := by
  obtain ⟨a, c, rfl⟩ := h.shape
  have c0 := h.c
  clear h
  generalize ls.length = m at *
  generalize hz : b.size = z at *
  go_enter Tryd.func7, Tryd.ntmps7
  go_wp2_with (go_at_call 14; refine (isEnd_calls rcp _).mono ?_; rintro e w1 ⟨rfl, hw1⟩; rw [hq, hw1]; clear hw1 w1)
  go_ret
  exact ⟨rfl, rfl⟩

set_option maxRecDepth 100000 in
set_option maxHeartbeats 2000000 in
theorem send_long {w : World} {B sb : Nat} {v : Value} {ls : List LR} (h : Lnk w 56 0 B sb v ls) (rcp : Int) (b : ByteArray) (hb : b.size ≤ 140737488351232) (hq : endB rcp = true) (h1 : (ls.length : Int) < 40) (h2 : 200 < (b.size : Int)) : Calls Tryd.prog 7 #[.pointer (some ⟨sb, 0, none⟩), .int .i64 rcp, .string b] w fun e w' => e = .returned (.iface 53 (.int .i64 4)) ∧ w' = w := by
  obtain ⟨a, c, rfl⟩ := h.shape
  have c0 := h.c
  clear h
  generalize ls.length = m at *
  generalize hz : b.size = z at *
  go_enter Tryd.func7, Tryd.ntmps7
  go_wp2_with (go_at_call 14; refine (isEnd_calls rcp _).mono ?_; rintro e w1 ⟨rfl, hw1⟩; rw [hq, hw1]; clear hw1 w1)
  go_ret
  exact ⟨rfl, rfl⟩

set_option maxRecDepth 100000 in
set_option maxHeartbeats 2000000 in
theorem send_yes {w : World} {B sb : Nat} {v : Value} {ls : List LR} (h : Lnk w 56 0 B sb v ls) (rcp : Int) (b : ByteArray) (hb : b.size ≤ 140737488351232) (hq : endB rcp = true) (h1 : ls.length < 40) (h2 : b.size ≤ 200) : Calls Tryd.prog 7 #[.pointer (some ⟨sb, 0, none⟩), .int .i64 rcp, .string b] w fun e w' => e = .returned .nilIface ∧ Turn w w' 56 0 B sb v (ls ++ [(rcp, b)]) := by
  obtain ⟨a, c, rfl⟩ := h.shape
  have c0 := h.c
  have hsb := h.lt (k := sb) (.inl rfl)
  have g1 : (ls.length : Int) < 40 := by omega
  have g2 : ¬ (200 : Int) < (b.size : Int) := by omega
  have HI : Hid (Inv (ls ++ [(rcp, b)])) := h.inv.add hq h1 h2
  have LSL : Hid ((ls ++ [(rcp, b)]).length = ls.length + 1) := by show (ls ++ [(rcp, b)]).length = ls.length + 1; simp
  have FL : Hid (flat (ls ++ [(rcp, b)]) = flat ls ++ flat [(rcp, b)]) := flat_append _ _
  have HCL := clone_calls b w.drew h2
  have HL : Hid (Lnk w 56 0 B sb (.slice a ls.length c) ls) := h
  have H1 : Hid (ls.length < 40) := h1
  clear h h1 h2
  obtain ⟨i0, hi0, hz0, hz1, hz2⟩ := info_parts infoR
  go_enter Tryd.func7, Tryd.ntmps7
  go_wp2_with (go_at_call 14; refine (isEnd_calls rcp _).mono ?_; rintro e w1 ⟨rfl, hw1⟩; rw [hq, hw1]; clear hw1 w1)
  go_region_law (first | (refine step_append_own rfl (.tmp 27) (.tmp 32) 49 rfl B 56 i0 _ 2 24 Tryd.underlying49 hi0 hz0 hz1 hz2 rfl (by decide) (.slice a ls.length c) ls.length (flat ls) (by simp [Act.eval, Act.put]) hrow ⟨w1.heap.size, 0, none⟩ 1 1 (flat [(rcp, b)]) (by simp [Act.eval, Act.put]) rfl (cells_two_new w1 _ _ _) (fun u hu => flat_one u hu) (by have := H1.out; unfold maxLen; omega) (by have := H1.out; omega) hL2.le ?_; intro v' w3 ho3 hg3 hl3; obtain ⟨g3, cap3, rfl⟩ := own_shape ho3 (by omega); have og := Off.of_grown (K := fun k => (Value.slice a ls.length c).ownBlock = some k) hg3 (fun k e => e); have d2 := og.cell hL2.c (fun e => hL2.nv sb e rfl); have df := (og.frozen (p := ⟨sb, 0, none⟩) (hL2.lt (.inl rfl)) (fun e => hL2.nv sb e rfl)).trans hL2.f) | (go_simp; go_wp2_with (go_at_call 15; refine HCL.mono ?_; rintro e w1 ⟨rfl, hb1⟩; have hbw : Below w.heap.size w w1 := (Below.refl _ w).drew.trans hb1; have hL1 := HL.out.below hbw; have c1 := hL1.c; have bd : Below w1.heap.size w1 (w1.alloc (.cells #[.int .i64 rcp, .string b] 56)) := (Below.refl _ _).alloc (Nat.le_refl _) _; have hL2 := hL1.below bd; have c2 := hL2.c; have hrow := hL2.row)))
  all_goals (try go_wp2_with fail)
  all_goals go_ret
  all_goals
    have ow : Off (fun k => (Value.slice a ls.length c).ownBlock = some k) w w3 := ((Off.of_below hbw).trans (Off.of_below bd)).trans og
    have hnew : ∀ k, (Value.slice (some ⟨g3, 0, none⟩) (ls.length + 1) cap3).ownBlock = some k → (Value.slice a ls.length c).ownBlock = some k ∨ w.heap.size ≤ k := fun k hk => by
      rcases hl3 with e | e
      · exact .inl (e.symm.trans hk)
      · right
        have e2 : k = (w1.alloc (.cells #[.int .i64 rcp, .string b] 56)).heap.size := Option.some.inj (hk.symm.trans e)
        have := hbw.size
        have := bd.size
        omega
    exact ⟨rfl, _, HL.out.put ow (v' := .slice (some ⟨g3, 0, none⟩) (ls.length + 1) cap3) (by rw [LSL.out, FL.out]; exact ho3) hnew HI.out, (ow.mono (fun k _ e => .inr e)).setCell (.inl rfl) _, hnew⟩
theorem send_calls {w : World} {B sb : Nat} {v : Value} {ls : List LR} (h : Lnk w 56 0 B sb v ls) (rcp : Int) (b : ByteArray) (hb : b.size ≤ 140737488351232) : Calls Tryd.prog 7 #[.pointer (some ⟨sb, 0, none⟩), .int .i64 rcp, .string b] w fun e w' => e = .returned (errV (sendF ls rcp b)) ∧ Turn w w' 56 0 B sb v (sendS ls rcp b) := by
  rcases sendF_cases ls rcp b with ⟨e, hq⟩ | ⟨e, hq, h1⟩ | ⟨e, hq, h1, h2⟩
  · rw [sendS_no (by rw [e]; decide), e, errV_f (by decide)]
    exact (send_range h rcp b hb hq).mono fun e w' ⟨h1, h2⟩ => ⟨h1, by rw [h2]; exact Turn.same h⟩
  · rw [sendS_no (by rw [e]; decide), e, errV_f (by decide)]
    rcases h1 with h1 | ⟨h1, h2⟩
    · exact (send_full h rcp b hb hq (by omega)).mono fun e w' ⟨h1, h2⟩ => ⟨h1, by rw [h2]; exact Turn.same h⟩
    · exact (send_long h rcp b hb hq (by omega) (by omega)).mono fun e w' ⟨h1, h2⟩ => ⟨h1, by rw [h2]; exact Turn.same h⟩
  · rw [sendS_yes e, e, errV_0]
    exact send_yes h rcp b hb hq h1 h2
end Go.Proofs.YtljilhhnejjifaaDoor
