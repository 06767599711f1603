/- What the laws of package run need. -/
import Derived.Test.YtdokgalidhmbbaaGreatDoorHO
import Derived.Maps.OwnSet
import Derived.Maps.OwnIn
import Derived.StringKeys
import Derived.Shelf.Strings.Builder1
import Derived.Lib.AppendStr
set_option linter.unusedVariables false
set_option linter.unusedSimpArgs false
set_option maxRecDepth 100000
set_option maxHeartbeats 8000000
namespace Go.Proofs.YtdokgalidhmbbaaGreatDoor
namespace Rn
open Go.RowKit

/-- How an element of the map reads: two integers. -/
def two : Value → Option (DataW Unit × List MemPlace)
  | .agg cs => match cs.toList with
    | [.int .i64 a, .int .i64 b] => some (.agg [.lit (.int .i64 a), .lit (.int .i64 b)], [])
    | _ => none
  | _ => none
theorem two_mk (a b : Int) : two (.agg #[.int .i64 a, .int .i64 b]) = some (.agg [.lit (.int .i64 a), .lit (.int .i64 b)], []) := rfl
theorem two_inv {v : Value} {z : DataW Unit × List MemPlace} (h : two v = some z) : ∃ a b : Int, v = .agg #[.int .i64 a, .int .i64 b] ∧ z = (.agg [.lit (.int .i64 a), .lit (.int .i64 b)], []) := by
  unfold two at h
  split at h
  · rename_i cs
    split at h
    · rename_i a b e
      refine ⟨a, b, ?_, (Option.some.inj h).symm⟩
      have : cs = #[.int .i64 a, .int .i64 b] := by cases cs; simp_all
      rw [this]
    · cases h
  · cases h
def zed : DataW Unit := .agg [.lit (.int .i64 0), .lit (.int .i64 0)]
theorem lawS : Maps.Keyed Tryz.prog 9 := Maps.string_keyed Tryz.underlying9
theorem keyS (s : ByteArray) (h : s.size ≤ maxLen) : keyOf Tryz.prog 9 (.string s) = some (.string s.data.toList) := by
  rw [keyOf_string Tryz.underlying9]
  simp [mapKey, Tryz.underlying9, h]

/-- A map under way, made since w0. -/
def Ms (w0 w : World) (b n : Nat) (D : DataW Unit) : Prop := w.ownsMap Tryz.prog 9 two b n D ∧ Below w0.heap.size w0 w ∧ w0.heap.size ≤ b
theorem ins_step {w0 w : World} {ops : Array Oper} {rest : List Oper} {o : Oper} {a : Act} {Q : Exit → Act → World → Prop}
    (hg : o.guard = none) (m x v : Operand) (hop : o.op = Op.insert 69 m x v) (b n : Nat) (D : DataW Unit) (h : Ms w0 w b n D)
    (hm : a.eval m = .map (some b)) (hn : n < 100) (s : ByteArray) (p q : Int) (hx : a.eval x = .string s) (hv : a.eval v = .agg #[.int .i64 p, .int .i64 q]) (hs : s.size ≤ maxLen)
    (hK : ∀ w', Ms w0 w' b (n + 1) (D.put (.string s.data.toList) (.agg [.lit (.int .i64 p), .lit (.int .i64 q)])) → wpList Tryz.prog ops Q rest (a.put o.dst undef) w') :
    wpList Tryz.prog ops Q (o :: rest) a w := by
  refine wpList_plain hg fun K' hK' => ?_
  obtain ⟨w', hrun, r1, r2⟩ := h.1.update lawS Tryz.underlying69 (by unfold maxLen; omega) (keyS s hs) (two_mk p q)
  unfold Oper.wp
  simp [execOp, hop, hm, hx, hv, hrun, Result.andThen]
  exact hK' _ _ (hK w' ⟨r1, h.2.1.grown r2 h.2.1.size (fun k e => by cases e; exact h.2.2), h.2.2⟩)

abbrev el (p q : Int) : DataW Unit := .agg [.lit (.int .i64 p), .lit (.int .i64 q)]
/-- All nine. -/
def wantsD : DataW Unit := (((((((((DataW.map []).put (.string [119, 114, 105, 116, 101]) (el 1 1)).put (.string [115, 101, 110, 100]) (el 1 0)).put (.string [99, 111, 109, 101]) (el 1 0)).put (.string [108, 111, 115, 101]) (el 1 0)).put (.string [116, 119, 105, 99, 101]) (el 1 0)).put (.string [114, 101, 97, 100]) (el 2 0)).put (.string [99, 111, 117, 110, 116]) (el 0 0)).put (.string [118, 97, 114, 105, 110, 116]) (el 1 0)).put (.string [110, 101, 101, 100]) (el 2 0)

set_option maxRecDepth 100000 in
set_option maxHeartbeats 4000000 in
theorem wants_calls (w : World) : Calls Tryz.prog 31 #[] w fun e w' => ∃ b, e = .returned (.map (some b)) ∧ Ms w w' b 9 wantsD := by
  have hm : Ms w (w.alloc (.map #[] 0)) w.heap.size 0 (.map []) := ⟨World.ownsMap_made w _ _ _, (Below.refl _ w).alloc (Nat.le_refl _) _, Nat.le_refl _⟩
  have hmm := @run_makeMap Tryz.prog
  go_enter Tryz.func31, Tryz.ntmps31
  go_wp2_with (first | (refine ins_step rfl _ _ _ rfl _ _ _ (by assumption) rfl (by decide) _ _ _ rfl rfl (by decide) ?_; intro wz hz) | fail)
  go_ret
  exact ⟨_, rfl, by assumption⟩
/-- What is wanted behind a word: how many numbers, how many words; none: no line begins with it. -/
def wantF (l : List UInt8) : Option (Nat × Nat) :=
  if l = [99, 111, 109, 101] then some (1, 0) else if l = [99, 111, 117, 110, 116] then some (0, 0) else if l = [108, 111, 115, 101] then some (1, 0) else if l = [110, 101, 101, 100] then some (2, 0) else if l = [114, 101, 97, 100] then some (2, 0) else if l = [115, 101, 110, 100] then some (1, 0) else if l = [116, 119, 105, 99, 101] then some (1, 0) else if l = [118, 97, 114, 105, 110, 116] then some (1, 0) else if l = [119, 114, 105, 116, 101] then some (1, 1) else none
theorem wantsD_is : wantsD = .map [(.string [99, 111, 109, 101], el 1 0), (.string [99, 111, 117, 110, 116], el 0 0), (.string [108, 111, 115, 101], el 1 0), (.string [110, 101, 101, 100], el 2 0), (.string [114, 101, 97, 100], el 2 0), (.string [115, 101, 110, 100], el 1 0), (.string [116, 119, 105, 99, 101], el 1 0), (.string [118, 97, 114, 105, 110, 116], el 1 0), (.string [119, 114, 105, 116, 101], el 1 1)] := by kernel_rfl
theorem wants_at (l : List UInt8) : wantsD.atKey (.string l) zed = el ((wantF l).getD (0, 0)).1 ((wantF l).getD (0, 0)).2 ∧ Maps.has wantsD (.string l) = (wantF l).isSome := by
  rw [wantsD_is]
  unfold wantF
  by_cases h0 : l = [99, 111, 109, 101]
  · subst h0; exact ⟨rfl, rfl⟩
  rw [if_neg h0]
  by_cases h1 : l = [99, 111, 117, 110, 116]
  · subst h1; exact ⟨rfl, rfl⟩
  rw [if_neg h1]
  by_cases h2 : l = [108, 111, 115, 101]
  · subst h2; exact ⟨rfl, rfl⟩
  rw [if_neg h2]
  by_cases h3 : l = [110, 101, 101, 100]
  · subst h3; exact ⟨rfl, rfl⟩
  rw [if_neg h3]
  by_cases h4 : l = [114, 101, 97, 100]
  · subst h4; exact ⟨rfl, rfl⟩
  rw [if_neg h4]
  by_cases h5 : l = [115, 101, 110, 100]
  · subst h5; exact ⟨rfl, rfl⟩
  rw [if_neg h5]
  by_cases h6 : l = [116, 119, 105, 99, 101]
  · subst h6; exact ⟨rfl, rfl⟩
  rw [if_neg h6]
  by_cases h7 : l = [118, 97, 114, 105, 110, 116]
  · subst h7; exact ⟨rfl, rfl⟩
  rw [if_neg h7]
  by_cases h8 : l = [119, 114, 105, 116, 101]
  · subst h8; exact ⟨rfl, rfl⟩
  rw [if_neg h8]
  have sk : ∀ k : List UInt8, l ≠ k → (Lit.string k).sameKey (.string l) = false := fun k hk => by
    simp [Lit.sameKey]; exact fun e => hk e.symm
  simp [DataW.atKey, Maps.has, List.find?, sk _ h0, sk _ h1, sk _ h2, sk _ h3, sk _ h4, sk _ h5, sk _ h6, sk _ h7, sk _ h8, zed]
end Rn
end Go.Proofs.YtdokgalidhmbbaaGreatDoor
namespace Go.Proofs.YtdokgalidhmbbaaGreatDoor
namespace Rn
open Go.RowKit

/-- A builder in the block b, what is written in the slice v; nothing of it below the block S. -/
structure Bu (w : World) (S b : Nat) (v : Value) (l : List UInt8) : Prop where
  hb : S ≤ b
  lies : w.heap[b]? = some (.cells #[.pointer none, v] 39 (0, 0)) ∨ w.heap[b]? = some (.cells #[.pointer (some ⟨b, 0, none⟩), v] 39 (0, 0))
  row : w.ownsRow S 5 1 v l.length (Lib.byteCells l)
  ne : v.ownBlock ≠ some b
def OwnB (b : Nat) (v : Value) (k : Nat) : Prop := k = b ∨ v.ownBlock = some k
theorem Bu.lt {w : World} {S b : Nat} {v : Value} {l : List UInt8} (h : Bu w S b v l) : b < w.heap.size := by
  rcases h.lies with h | h <;> exact (Array.getElem?_eq_some_iff.1 h).1
theorem sizeB : (Tryz.prog.info? 39).map (fun j => j.size) = some 2 := by kernel_rfl
theorem infoB : (Tryz.prog.info? 5).map (fun i => (i.zero, i.size, i.bytes)) = some (some (.int .u8 0), 1, 1) := by kernel_rfl
set_option maxRecDepth 100000 in
set_option maxHeartbeats 1000000 in
theorem check_used (b : Nat) (w : World) (h0 : w.cell? ⟨b, 0, none⟩ = some (.pointer (some ⟨b, 0, none⟩))) :
    Calls Tryz.prog 34 #[.pointer (some ⟨b, 0, none⟩)] w fun e w' => e = .returned (.tuple #[]) ∧ w' = w := by
  obtain ⟨j, hj, hjs⟩ := Option.map_eq_some_iff.1 sizeB
  go_enter Tryz.func34, Tryz.ntmps34
  go_wp2
  rw [Lib.run_neq_ptr_same w _ Tryz.underlying36 hj]
  go_wp2
  go_end0
  exact ⟨rfl, rfl⟩
/-- A builder's address as an untyped pointer, and back: it stays. -/
theorem ptr_up (b : Nat) (w : World) (hsh : w.shape? b = some (39, 2)) : (Go.convert 36 113 (.pointer (some ⟨b, 0, none⟩))).run Tryz.prog w = .ok (.pointer (some ⟨b, 0, none⟩)) w := by
  obtain ⟨j, hj, hjs⟩ := Option.map_eq_some_iff.1 sizeB
  simp [Go.convert, run_underlying Tryz.underlying36, run_underlying Tryz.underlying113, Conv.unsafePointer, Conv.seenAt, viewAt, cellsIn, hsh, sizeOf, typeInfo, hj, hjs]
theorem ptr_down (b : Nat) (w : World) (hsh : w.shape? b = some (39, 2)) : (Go.convert 113 36 (.pointer (some ⟨b, 0, none⟩))).run Tryz.prog w = .ok (.pointer (some ⟨b, 0, none⟩)) w := by
  obtain ⟨j, hj, hjs⟩ := Option.map_eq_some_iff.1 sizeB
  have hl : liesAt Tryz.prog Tryz.prog.depth 39 (2 / Tryz.prog.cellsOf 39) 0 39 1 = true := by kernel_rfl
  simp [Go.convert, run_underlying Tryz.underlying36, run_underlying Tryz.underlying113, Conv.unsafePointer, Conv.seenAt, viewAt, variablesAt, hl, hsh, sizeOf, typeInfo, hj, hjs]
set_option maxRecDepth 100000 in
set_option maxHeartbeats 1000000 in
theorem check_fresh (b : Nat) (w : World) (h0 : w.cell? ⟨b, 0, none⟩ = some (.pointer none)) (hsh : w.shape? b = some (39, 2)) (hfz : w.frozen? ⟨b, 0, none⟩ = false) :
    Calls Tryz.prog 34 #[.pointer (some ⟨b, 0, none⟩)] w fun e w' => e = .returned (.tuple #[]) ∧ w' = w.setCell ⟨b, 0, none⟩ (.pointer (some ⟨b, 0, none⟩)) := by
  go_enter Tryz.func34, Tryz.ntmps34
  go_wp2
  rw [ptr_up b w hsh]
  simp only [Result.andThen]
  rw [Oper.upon_value]
  go_wp2
  rw [run_callFunc_extern Tryz.func49 (by kernel_rfl) (by kernel_rfl) (by kernel_rfl) (e := Extern.AbiNoEscape.same) (by kernel_rfl)]
  rw [Lib.run_noEscape]
  simp only [Result.andThen]
  rw [Oper.upon_value]
  go_wp2
  rw [ptr_down b w hsh]
  simp only [Result.andThen]
  rw [Oper.upon_value]
  go_wp2
  go_end0
  exact ⟨rfl, rfl⟩
/-- The check at a builder: it is used from there on. -/
theorem check_calls {w : World} {S b : Nat} {v : Value} {l : List UInt8} (h : Bu w S b v l) :
    Calls Tryz.prog 34 #[.pointer (some ⟨b, 0, none⟩)] w fun e w' => e = .returned (.tuple #[]) ∧ w'.heap[b]? = some (.cells #[.pointer (some ⟨b, 0, none⟩), v] 39 (0, 0)) ∧ w'.ownsRow S 5 1 v l.length (Lib.byteCells l) ∧ Off (OwnB b v) w w' := by
  rcases h.lies with hb | hb
  · refine (check_fresh b w (by rw [Lib.cell_of_heap hb]; rfl) (by simp [World.shape?, hb]) (Lib.frozen_of_heap hb 0)).mono ?_
    rintro e w' ⟨rfl, rfl⟩
    have hB : Lib.BuilderAt 39 5 S b (.pointer none) (Lib.byteCells l) w := ⟨h.hb, v, hb, by have := h.row; simpa [Lib.byteCells] using this, h.ne⟩
    refine ⟨rfl, by simp [World.setCell, Array.getElem?_modify, hb], ?_, (Off.refl _ w).setCell (.inl rfl) _⟩
    exact h.row.kept (row := some b) ⟨rfl, rfl, rfl, by simp [World.setCell], fun k _ hk => Below.heap_setCell _ _ _ _ (fun e => hk (by simp [e]))⟩ (Or.inr h.ne)
  · refine (check_used b w (by rw [Lib.cell_of_heap hb]; rfl)).mono ?_
    rintro e w' ⟨rfl, rfl⟩
    exact ⟨rfl, hb, h.row, Off.refl _ _⟩
theorem cells_append (l m : List UInt8) : Lib.byteCells (l ++ m) = Lib.byteCells l ++ Lib.byteCells m := List.map_append
theorem Bu.put {w2 : World} {S b : Nat} {v v' : Value} {l : List UInt8} (hS : S ≤ b) (hb2 : w2.heap[b]? = some (.cells #[.pointer (some ⟨b, 0, none⟩), v] 39 (0, 0))) (hown : w2.ownsRow S 5 1 v' l.length (Lib.byteCells l)) : Bu (w2.setCell ⟨b, 1, none⟩ v') S b v' l := by
  have hne := Lib.ownBlock_ne hown hb2 (by decide)
  refine ⟨hS, .inr (by simp [World.setCell, Array.getElem?_modify, hb2]), ?_, hne⟩
  exact hown.kept (row := some b) ⟨rfl, rfl, rfl, by simp [World.setCell], fun k _ hk => Below.heap_setCell _ _ _ _ (fun e => hk (by simp [e]))⟩ (Or.inr hne)
set_option maxRecDepth 100000 in
set_option maxHeartbeats 1000000 in
theorem bstr_calls {w : World} {S b : Nat} {v : Value} {l : List UInt8} (h : Bu w S b v l) (s : ByteArray) (hlen : l.length + s.size ≤ 140737488355328) (hS : S ≤ w.heap.size) :
    Calls Tryz.prog 13 #[.pointer (some ⟨b, 0, none⟩), .string s] w fun e w' => e = .returned (.tuple #[.int .i64 s.size, .nilIface]) ∧ ∃ v', Bu w' S b v' (l ++ s.data.toList) ∧ Off (OwnB b v) w w' := by
  obtain ⟨i0, hi, hz0, hz1, hz2⟩ := info_parts infoB
  have hlt0 := h.lt
  have hSb := h.hb
  have hne := h.ne
  have HC := check_calls h
  clear h
  go_enter Tryz.func13, Tryz.ntmps13
  go_wp2_with (go_at_call 34; refine HC.mono ?_)
  rintro e w1 ⟨rfl, hbk, hown, ho1⟩
  have c0 : w1.cell? ⟨b, 0, none⟩ = some (.pointer (some ⟨b, 0, none⟩)) := by rw [Lib.cell_of_heap hbk]; rfl
  have c1 : w1.cell? ⟨b, 1, none⟩ = some v := by rw [Lib.cell_of_heap hbk]; rfl
  go_wp2_with (at_builtin; refine Lib.wpList_append_own_string _ rfl _ _ 37 9 rfl S 5 i0 Tryz.underlying37 Tryz.underlying9 hi hz0 hz1 hz2 _ _ _ rfl hown s rfl ?c3 ?c4 ?c5 ?_)
  case c3 => unfold maxLen; omega
  case c4 => omega
  case c5 => have := ho1.size; omega
  intro v' w2 hown' hgrow _
  have hlt : b < w1.heap.size := (Array.getElem?_eq_some_iff.1 hbk).1
  have hb2 : w2.heap[b]? = some (.cells #[.pointer (some ⟨b, 0, none⟩), v] 39 (0, 0)) := by
    rw [hgrow.block b hlt (fun e => hne e.symm)]
    exact hbk
  have d0 : w2.cell? ⟨b, 0, none⟩ = some (.pointer (some ⟨b, 0, none⟩)) := by rw [Lib.cell_of_heap hb2]; rfl
  have d1 : w2.cell? ⟨b, 1, none⟩ = some v := by rw [Lib.cell_of_heap hb2]; rfl
  have f1 : w2.frozen? ⟨b, 1, none⟩ = false := Lib.frozen_of_heap hb2 1
  obtain ⟨ao, n', cap, rfl⟩ : ∃ ao n' cap, v' = .slice ao n' cap := by
    rcases hown'.2 with ⟨hv, _⟩ | ⟨g, cap, cur, hv, _⟩
    · exact ⟨_, _, _, hv⟩
    · exact ⟨_, _, _, hv⟩
  go_wp2
  go_ret2
  refine ⟨rfl, _, Bu.put (l := l ++ s.data.toList) hSb hb2 ?_, (ho1.trans (Off.of_grown hgrow (fun k e => .inr e))).setCell (.inl rfl) _⟩
  rw [cells_append, List.length_append]
  exact hown'
set_option maxRecDepth 100000 in
set_option maxHeartbeats 1000000 in
theorem bbyte_calls {w : World} {S b : Nat} {v : Value} {l : List UInt8} (h : Bu w S b v l) (c : UInt8) (hlen : l.length + 1 ≤ 140737488355328) (hS : S ≤ w.heap.size) :
    Calls Tryz.prog 16 #[.pointer (some ⟨b, 0, none⟩), .int .u8 c.toNat] w fun e w' => e = .returned .nilIface ∧ ∃ v', Bu w' S b v' (l ++ [c]) ∧ Off (OwnB b v) w w' := by
  obtain ⟨i0, hi, hz0, hz1, hz2⟩ := info_parts infoB
  have hlt0 := h.lt
  have hSb := h.hb
  have hne := h.ne
  have HC := check_calls h
  clear h
  go_enter Tryz.func16, Tryz.ntmps16
  go_wp2_with (go_at_call 34; refine HC.mono ?_)
  rintro e w1 ⟨rfl, hbk, hown, ho1⟩
  have c0 : w1.cell? ⟨b, 0, none⟩ = some (.pointer (some ⟨b, 0, none⟩)) := by rw [Lib.cell_of_heap hbk]; rfl
  have c1 : w1.cell? ⟨b, 1, none⟩ = some v := by rw [Lib.cell_of_heap hbk]; rfl
  go_wp2_with (at_builtin; refine wpList_append_own _ rfl _ _ 37 rfl S 5 i0 (.int .u8 0) 1 1 Tryz.underlying37 hi hz0 hz1 hz2 rfl (by decide) _ _ _ rfl (hown.alloc _) ⟨w1.heap.size, 0, none⟩ 1 1 [.int .u8 c.toNat] rfl rfl ?c1 ?c2 ?c3 ?c4 ?c5 ?_)
  case c1 =>
    intro j u hj
    match j, hj with
    | 0, hj => simp at hj; subst hj; simp [Addr.add]
  case c2 => intro u hu; simp at hu; subst hu; rfl
  case c3 => unfold maxLen; omega
  case c4 => omega
  case c5 => have := ho1.size; simp; omega
  intro v' w2 hown' hgrow _
  have hlt : b < w1.heap.size := (Array.getElem?_eq_some_iff.1 hbk).1
  have hb2 : w2.heap[b]? = some (.cells #[.pointer (some ⟨b, 0, none⟩), v] 39 (0, 0)) := by
    rw [hgrow.block b (by simp; omega) (fun e => hne e.symm), Lib.alloc_old w1 _ b hlt]
    exact hbk
  have d0 : w2.cell? ⟨b, 0, none⟩ = some (.pointer (some ⟨b, 0, none⟩)) := by rw [Lib.cell_of_heap hb2]; rfl
  have d1 : w2.cell? ⟨b, 1, none⟩ = some v := by rw [Lib.cell_of_heap hb2]; rfl
  have f1 : w2.frozen? ⟨b, 1, none⟩ = false := Lib.frozen_of_heap hb2 1
  obtain ⟨ao, n', cap, rfl⟩ : ∃ ao n' cap, v' = .slice ao n' cap := by
    rcases hown'.2 with ⟨hv, _⟩ | ⟨g, cap, cur, hv, _⟩
    · exact ⟨_, _, _, hv⟩
    · exact ⟨_, _, _, hv⟩
  go_wp2
  go_ret
  refine ⟨rfl, _, Bu.put (l := l ++ [c]) hSb hb2 ?_, ((ho1.alloc _).trans (Off.of_grown hgrow (fun k e => .inr e))).setCell (.inl rfl) _⟩
  rw [cells_append, List.length_append]
  exact hown'
theorem Bu.off {K : Nat → Prop} {w w' : World} {S b : Nat} {v : Value} {l : List UInt8} (h : Bu w S b v l) (ho : Off K w w') (hK : ∀ k, OwnB b v k → ¬ K k) : Bu w' S b v l := by
  have hb := ho.block b h.lt (hK b (.inl rfl))
  refine ⟨h.hb, by rw [hb]; exact h.lies, ?_, h.ne⟩
  refine ⟨h.row.1, h.row.2.imp id ?_⟩
  rintro ⟨g, cap, cur, rfl, hS, hg, hh⟩
  exact ⟨g, cap, cur, rfl, hS, (ho.block g (Array.getElem?_eq_some_iff.1 hg).1 (hK g (.inr rfl))).trans hg, hh⟩
end Rn
end Go.Proofs.YtdokgalidhmbbaaGreatDoor
