/- What the laws of package run need. -/
import Derived.Test.YtdokgalidhmbbaaGreatDoorHWC
import Derived.Lib.SplitLaws
import Derived.Handy
set_option linter.unusedVariables false
set_option linter.unusedSimpArgs false
set_option maxRecDepth 100000
set_option maxHeartbeats 8000000
namespace Go.Proofs.YtdokgalidhmbbaaGreatDoor
namespace Rn
open Go.RowKit

def sepB : ByteArray := ⟨#[32]⟩
def partsF (s : ByteArray) : List ByteArray := Lib.splitB sepB 0 (Lib.countB s sepB) s
/-- What a line asks for: its first word, its numbers, its last word. -/
structure Ord where
  name : ByteArray
  n0 : Int
  n1 : Int
  word : ByteArray
abbrev emp : ByteArray := ⟨#[]⟩
def ordOf (ps : List ByteArray) : Option Ord :=
  match wantF (ps.getD 0 emp).data.toList with
  | none => none
  | some (a, b) =>
    if ps.length ≠ 1 + a + b ∨ Lib.containsS ps emp = true then none else
    match (if 1 ≤ a then numF (ps.getD 1 emp).data.toList else some 0), (if 2 ≤ a then numF (ps.getD 2 emp).data.toList else some 0) with
    | some x, some y => some ⟨ps.getD 0 emp, x, y, if 1 ≤ b then ps.getD (1 + a) emp else emp⟩
    | _, _ => none
def ordF (s : ByteArray) : Option Ord := ordOf (partsF s)
def Ord.val (o : Ord) : Value := .agg #[.string o.name, .int .i64 o.n0, .int .i64 o.n1, .string o.word]
def noOrd : Value := .agg #[.string emp, .int .i64 0, .int .i64 0, .string emp]
def ordV (bv : Value) : Option Ord → Value
  | some o => .tuple #[o.val, .nilIface]
  | none => .tuple #[noOrd, bv]
theorem parts_len (s : ByteArray) : (partsF s).length = Lib.countB s sepB + 1 := Lib.splitB_all sepB (by decide) 0 _ s rfl
theorem wantF_cases (l : List UInt8) : wantF l = none ∨ wantF l = some (1, 0) ∨ wantF l = some (0, 0) ∨ wantF l = some (2, 0) ∨ wantF l = some (1, 1) := by
  unfold wantF
  repeat' split
  all_goals simp

/-- The desk in the block d: the Talk in tb, the map in mb. -/
structure Dk (w : World) (bv : Value) (d tb mb : Nat) : Prop where
  env : Env w bv
  mx : ∃ m : Int, w.cell? ⟨2, 0, none⟩ = some (.int .i64 m)
  dk : w.heap[d]? = some (.cells #[.pointer (some ⟨tb, 0, none⟩), .map (some mb)] 72 (0, 0))
  mp : w.ownsMap Tryz.prog 9 two mb 9 wantsD
theorem Dk.d_lt {w : World} {bv : Value} {d tb mb : Nat} (h : Dk w bv d tb mb) : d < w.heap.size := (Array.getElem?_eq_some_iff.1 h.dk).1
theorem Dk.mb_lt {w : World} {bv : Value} {d tb mb : Nat} (h : Dk w bv d tb mb) : mb < w.heap.size := by
  obtain ⟨es, c, e, _⟩ := h.mp
  exact (Array.getElem?_eq_some_iff.1 e).1
theorem own_heap {w w' : World} {mb : Nat} (h : w.ownsMap Tryz.prog 9 two mb 9 wantsD) (e : w'.heap[mb]? = w.heap[mb]?) : w'.ownsMap Tryz.prog 9 two mb 9 wantsD := by
  obtain ⟨es, c, e1, r⟩ := h
  exact ⟨es, c, e.trans e1, r⟩
theorem Dk.below {w w' : World} {bv : Value} {d tb mb : Nat} (h : Dk w bv d tb mb) (hb : Below w.heap.size w w') : Dk w' bv d tb mb where
  env := h.env.below hb h.env.low
  mx := by
    obtain ⟨m, e⟩ := h.mx
    have := h.env.low
    exact ⟨m, (hb.cell (p := ⟨2, 0, none⟩) (show 2 < w.heap.size by omega)).trans e⟩
  dk := (hb.block _ h.d_lt).trans h.dk
  mp := own_heap h.mp (hb.block _ h.mb_lt)
set_option maxRecDepth 10000 in
theorem look_at {w : World} {mb : Nat} (h : w.ownsMap Tryz.prog 9 two mb 9 wantsD) (s : ByteArray) (hs : s.size ≤ 3000) :
    (Instr.lookup 69 (.map (some mb)) (.string s) true).run Tryz.prog w = .ok (.tuple #[.agg #[.int .i64 ((wantF s.data.toList).getD (0, 0)).1, .int .i64 ((wantF s.data.toList).getD (0, 0)).2], .bool (wantF s.data.toList).isSome]) w := by
  obtain ⟨v, ps, hr, hv⟩ := h.look_ok lawS Tryz.underlying69 (Tryz.zeroValue112 w) (zd := zed) (two_mk 0 0) (keyS s (by unfold maxLen; omega))
  rw [(wants_at s.data.toList).2] at hr
  rw [(wants_at s.data.toList).1] at hv
  obtain ⟨a, b, rfl, e⟩ := two_inv hv
  have ea : (el ((wantF s.data.toList).getD (0, 0)).1 ((wantF s.data.toList).getD (0, 0)).2, ps) = (el a b, ([] : List MemPlace)) := e
  injection ea with e1 _
  injection e1 with e1
  injection e1 with x1 x2
  injection x2 with x2 _
  injection x1 with x1
  injection x2 with x2
  injection x1 with _ x1
  injection x2 with _ x2
  rw [x1, x2]
  exact hr
theorem split_calls (s : ByteArray) (hs : s.size ≤ 3000) {w : World} {bv : Value} {d tb mb : Nat} (h : Dk w bv d tb mb) : Calls Tryz.prog 70 #[.string s, .string ⟨#[32]⟩] w fun e w' =>
    e = .returned (.slice (some ⟨w.heap.size, 0, none⟩) (partsF s).length (partsF s).length) ∧ w' = w.alloc (.cells ((partsF s).map Value.string).toArray 9) := by
  obtain ⟨m, hm⟩ := h.mx
  rw [parts_len]
  exact Any.strings_Split { Tryz.laysM146 with } Tryz.laysM146.i9 s sepB m w (by omega) hm (by decide)
theorem heap_new (w : World) (o : Obj) : (w.alloc o).heap[w.heap.size]? = some o := by
  show (w.heap.push o)[w.heap.size]? = some o
  simp
theorem heap_old (w : World) (o : Obj) {k : Nat} (hk : k < w.heap.size) : (w.alloc o).heap[k]? = w.heap[k]? := by
  show (w.heap.push o)[k]? = w.heap[k]?
  rw [Array.getElem?_push, if_neg (by omega)]
theorem split_le (sep : ByteArray) (n : Nat) : ∀ (k : Nat) (s : ByteArray), s.size ≤ n → ∀ p ∈ Lib.splitB sep 0 k s, p.size ≤ n
  | 0, s, h, p, hp => by
    rw [Lib.splitB_zero, List.mem_singleton] at hp
    rw [hp]; exact h
  | k + 1, s, h, p, hp => by
    rw [Lib.splitB] at hp
    split at hp
    · rw [List.mem_singleton] at hp
      rw [hp]; exact h
    · rcases List.mem_cons.1 hp with rfl | hp
      · simp only [ByteArray.size_extract]; omega
      · exact split_le sep n k _ (by simp only [ByteArray.size_extract]; omega) p hp
theorem part_le (s : ByteArray) (j : Nat) : ((partsF s).getD j emp).size ≤ s.size := by
  rw [List.getD]
  cases e : (partsF s)[j]? with
  | none => exact Nat.zero_le _
  | some p => exact split_le sepB s.size _ s (Nat.le_refl _) p (List.mem_of_getElem? e)
theorem parts_cell (w : World) (ps : List ByteArray) (j : Nat) (hj : j < ps.length) : (w.alloc (.cells (ps.map Value.string).toArray 9)).cell? ⟨w.heap.size, j, none⟩ = some (.string (ps.getD j emp)) := by
  have e : (w.alloc (.cells (ps.map Value.string).toArray 9)).heap[w.heap.size]? = some (.cells (ps.map Value.string).toArray 9) := heap_new _ _
  rw [Lib.cell_of_heap e]
  simp [List.getD, List.getElem?_eq_getElem hj]
theorem set_same {w : World} {b i : Nat} {cs : Array Value} {T : TypeId} {fr : Nat × Nat} {v : Value} (hb : w.heap[b]? = some (.cells cs T fr)) (hv : cs[i]? = some v) : w.setCell ⟨b, i, none⟩ v = w := by
  have e : (w.setCell ⟨b, i, none⟩ v).heap = w.heap := by
    apply Array.ext_getElem?
    intro k
    simp only [World.setCell, Array.getElem?_modify]
    by_cases hk : b = k
    · subst hk
      have : cs.setIfInBounds i v = cs := by
        apply Array.ext_getElem?
        intro j
        rw [Array.getElem?_setIfInBounds]
        split
        · rename_i e; subst e
          split
          · exact hv.symm
          · rename_i h; rw [Array.getElem?_eq_none (by omega)]
        · rfl
      simp [hb, this]
    · rw [if_neg hk]
  exact congrArg (fun h => { w with heap := h }) e
theorem zero_at {w : World} {n : Nat} (h : w.heap[n]? = some (.cells #[.string emp, .int .i64 0, .int .i64 0, .string emp] 117)) :
    (w.cell? ⟨n, 0, none⟩ = some (.string ⟨#[]⟩) ∧ w.setCell ⟨n, 0, none⟩ (.string ⟨#[]⟩) = w) ∧ (w.cell? ⟨n, 1, none⟩ = some (.int .i64 0) ∧ w.setCell ⟨n, 1, none⟩ (.int .i64 0) = w) ∧
    (w.cell? ⟨n, 2, none⟩ = some (.int .i64 0) ∧ w.setCell ⟨n, 2, none⟩ (.int .i64 0) = w) ∧ (w.cell? ⟨n, 3, none⟩ = some (.string ⟨#[]⟩) ∧ w.setCell ⟨n, 3, none⟩ (.string ⟨#[]⟩) = w) ∧
    w.frozen? ⟨n, 0, none⟩ = false ∧ w.frozen? ⟨n, 1, none⟩ = false ∧ w.frozen? ⟨n, 2, none⟩ = false ∧ w.frozen? ⟨n, 3, none⟩ = false :=
  ⟨⟨by rw [Lib.cell_of_heap h]; rfl, set_same h rfl⟩, ⟨by rw [Lib.cell_of_heap h]; rfl, set_same h rfl⟩, ⟨by rw [Lib.cell_of_heap h]; rfl, set_same h rfl⟩, ⟨by rw [Lib.cell_of_heap h]; rfl, set_same h rfl⟩, Lib.frozen_of_heap h 0, Lib.frozen_of_heap h 1, Lib.frozen_of_heap h 2, Lib.frozen_of_heap h 3⟩
theorem four_at {w : World} {n : Nat} {x0 x1 x2 x3 : Value} {fr : Nat × Nat} (h : w.heap[n]? = some (.cells #[x0, x1, x2, x3] 117 fr)) : w.cell? ⟨n, 0, none⟩ = some x0 ∧ w.cell? ⟨n, 1, none⟩ = some x1 ∧ w.cell? ⟨n, 2, none⟩ = some x2 ∧ w.cell? ⟨n, 3, none⟩ = some x3 :=
  ⟨by rw [Lib.cell_of_heap h]; rfl, by rw [Lib.cell_of_heap h]; rfl, by rw [Lib.cell_of_heap h]; rfl, by rw [Lib.cell_of_heap h]; rfl⟩
theorem ordOf_none {ps : List ByteArray} (h : wantF (ps.getD 0 emp).data.toList = none) : ordOf ps = none := by
  unfold ordOf; rw [h]
theorem ordOf_some {ps : List ByteArray} {a b : Nat} (h : wantF (ps.getD 0 emp).data.toList = some (a, b)) : ordOf ps = if ps.length ≠ 1 + a + b ∨ Lib.containsS ps emp = true then none else
    match (if 1 ≤ a then numF (ps.getD 1 emp).data.toList else some 0), (if 2 ≤ a then numF (ps.getD 2 emp).data.toList else some 0) with
    | some x, some y => some ⟨ps.getD 0 emp, x, y, if 1 ≤ b then ps.getD (1 + a) emp else emp⟩
    | _, _ => none := by
  unfold ordOf; rw [h]
theorem contains_calls {w : World} {k : Nat} {ps : List ByteArray} (hl : ps.length ≤ 5000) (hc : ∀ j, j < ps.length → w.cell? ⟨k, j, none⟩ = some (.string (ps.getD j emp))) :
    Calls Tryz.prog 71 #[.slice (some ⟨k, 0, none⟩) ps.length ps.length, .string ⟨#[]⟩] w fun e w' => e = .returned (.bool (Lib.containsS ps emp)) ∧ w' = w := by
  have h := Tryz.slices_Contains_string k 0 ps.length ps.length ps emp w (Nat.le_refl _) (by omega) (fun j hj => by rw [Nat.zero_add]; exact hc j hj)
  rw [List.take_length] at h
  exact h
theorem parts_le (s : ByteArray) : (partsF s).length ≤ s.size + 1 := by
  rw [parts_len]
  have := Lib.countB_le sepB (by decide) s.size s (Nat.le_refl _)
  omega
/-- orderOf under way: the result's box at the first block that it made, behind it the parts, what is wanted, the order. -/
structure So (w U : World) (bv : Value) (d tb mb : Nat) (ps : List ByteArray) (a b : Int) (p0 : ByteArray) (x y : Int) (wd : ByteArray) : Prop where
  bl : Below w.heap.size w U
  dk : Dk U bv d tb mb
  pc : ∀ j, j < ps.length → U.cell? ⟨w.heap.size + 1, j, none⟩ = some (.string (ps.getD j emp))
  rz : U.heap[w.heap.size]? = some (.cells #[.string emp, .int .i64 0, .int .i64 0, .string emp] 117)
  ww : U.heap[w.heap.size + 2]? = some (.cells #[.int .i64 a, .int .i64 b] 112)
  oo : U.heap[w.heap.size + 3]? = some (.cells #[.string p0, .int .i64 x, .int .i64 y, .string wd] 117)
  sz : w.heap.size + 4 ≤ U.heap.size
theorem So.new {w V : World} {bv : Value} {d tb mb : Nat} {ps : List ByteArray} {a b : Int} (hk : Below w.heap.size w V) (hD : Dk V bv d tb mb) (hc : ∀ j, j < ps.length → V.cell? ⟨w.heap.size + 1, j, none⟩ = some (.string (ps.getD j emp)))
    (hr : V.heap[w.heap.size]? = some (.cells #[.string emp, .int .i64 0, .int .i64 0, .string emp] 117)) (hw : V.heap[w.heap.size + 2]? = some (.cells #[.int .i64 a, .int .i64 b] 112)) (hz : V.heap.size = w.heap.size + 3) (p0 : ByteArray) :
    So w (V.alloc (.cells #[.string p0, .int .i64 0, .int .i64 0, .string emp] 117)) bv d tb mb ps a b p0 0 0 emp := by
  have hB : Below V.heap.size V (V.alloc (.cells #[.string p0, .int .i64 0, .int .i64 0, .string emp] 117)) := (Below.refl _ _).alloc (Nat.le_refl _) _
  exact ⟨hk.trans (hB.mono hk.size), hD.below hB, fun j hj => (hB.cell (p := ⟨w.heap.size + 1, j, none⟩) (show w.heap.size + 1 < V.heap.size by omega)).trans (hc j hj), (hB.block _ (by omega)).trans hr, (hB.block _ (by omega)).trans hw, by rw [← hz]; exact heap_new _ _,
    by have : (V.alloc (.cells #[.string p0, .int .i64 0, .int .i64 0, .string emp] 117)).heap.size = V.heap.size + 1 := by simp
       omega⟩
theorem So.below {w U U' : World} {bv : Value} {d tb mb : Nat} {ps : List ByteArray} {a b : Int} {p0 : ByteArray} {x y : Int} {wd : ByteArray} (h : So w U bv d tb mb ps a b p0 x y wd) (hB : Below U.heap.size U U') : So w U' bv d tb mb ps a b p0 x y wd :=
  have hz := h.sz
  ⟨h.bl.trans (hB.mono h.bl.size), h.dk.below hB, fun j hj => (hB.cell (p := ⟨w.heap.size + 1, j, none⟩) (show w.heap.size + 1 < U.heap.size by omega)).trans (h.pc j hj), (hB.block _ (by omega)).trans h.rz, (hB.block _ (by omega)).trans h.ww, (hB.block _ (by omega)).trans h.oo, Nat.le_trans hz hB.size⟩
theorem So.put {w U : World} {bv : Value} {d tb mb : Nat} {ps : List ByteArray} {a b : Int} {p0 : ByteArray} {x y : Int} {wd : ByteArray} (h : So w U bv d tb mb ps a b p0 x y wd) (hd : d < w.heap.size) (hm : mb < w.heap.size) (i : Nat) (v : Value) {x' y' : Int} {wd' : ByteArray} (hwl : 18 ≤ w.heap.size)
    (hv : (#[.string p0, .int .i64 x, .int .i64 y, .string wd] : Array Value).setIfInBounds i v = #[.string p0, .int .i64 x', .int .i64 y', .string wd']) : So w (U.setCell ⟨w.heap.size + 3, i, none⟩ v) bv d tb mb ps a b p0 x' y' wd' := by
  have hz := h.sz
  have hk : ∀ k, k ≠ w.heap.size + 3 → (U.setCell ⟨w.heap.size + 3, i, none⟩ v).heap[k]? = U.heap[k]? := fun k hk => by
    simp only [World.setCell, Array.getElem?_modify]
    rw [if_neg (fun e => hk e.symm)]
  have hB : Below (w.heap.size + 3) U (U.setCell ⟨w.heap.size + 3, i, none⟩ v) := ⟨rfl, rfl, rfl, by simp [World.setCell], fun k h => hk k (by omega)⟩
  have lo := h.dk.env.low
  have hwl : 18 ≤ w.heap.size + 3 := by omega
  refine ⟨h.bl.trans (hB.mono (by omega)), ⟨h.dk.env.below hB hwl, ?_, (hk d (by omega)).trans h.dk.dk, own_heap h.dk.mp (hk mb (by omega))⟩, fun j hj => (hB.cell (p := ⟨w.heap.size + 1, j, none⟩) (show w.heap.size + 1 < w.heap.size + 3 by omega)).trans (h.pc j hj), (hk _ (by omega)).trans h.rz, (hk _ (by omega)).trans h.ww, ?_, by simpa [World.setCell] using hz⟩
  · obtain ⟨m, e⟩ := h.dk.mx
    exact ⟨m, (hB.cell (p := ⟨2, 0, none⟩) (show 2 < w.heap.size + 3 by omega)).trans e⟩
  · simp only [World.setCell, Array.getElem?_modify, if_true, h.oo, Option.map_some]
    simp [hv]
theorem So.done {w U : World} {bv : Value} {d tb mb : Nat} {ps : List ByteArray} {a b : Int} {p0 : ByteArray} {x y : Int} {wd : ByteArray} (h : So w U bv d tb mb ps a b p0 x y wd) (v0 v1 v2 v3 : Value) :
    ((((U.setCell ⟨w.heap.size, 0, none⟩ v0).setCell ⟨w.heap.size, 1, none⟩ v1).setCell ⟨w.heap.size, 2, none⟩ v2).setCell ⟨w.heap.size, 3, none⟩ v3).heap[w.heap.size]? = some (.cells #[v0, v1, v2, v3] 117) ∧
    Below w.heap.size w ((((U.setCell ⟨w.heap.size, 0, none⟩ v0).setCell ⟨w.heap.size, 1, none⟩ v1).setCell ⟨w.heap.size, 2, none⟩ v2).setCell ⟨w.heap.size, 3, none⟩ v3) := by
  refine ⟨?_, h.bl.trans ⟨rfl, rfl, rfl, by simp [World.setCell], fun k hk => ?_⟩⟩
  · simp [World.setCell, Array.getElem?_modify, h.rz]
  · simp only [World.setCell, Array.getElem?_modify]
    rw [if_neg (by omega), if_neg (by omega), if_neg (by omega), if_neg (by omega)]
/-! ORDERS -/
set_option maxRecDepth 100000 in
set_option maxHeartbeats 4000000 in
theorem order_no (s : ByteArray) (hs : s.size ≤ 3000) {w : World} {bt : TypeId} {bp : Value} {d tb mb : Nat} (h : Dk w (.iface bt bp) d tb mb) (hw : wantF ((partsF s).getD 0 emp).data.toList = none) :
    Calls Tryz.prog 50 #[.pointer (some ⟨d, 0, none⟩), .string s] w fun e w' => e = .returned (ordV (.iface bt bp) (ordF s)) ∧ Below w.heap.size w w' := by
  have hb0 : Below w.heap.size w (w.alloc (.cells #[.string emp, .int .i64 0, .int .i64 0, .string emp] 117)) := (Below.refl _ w).alloc (Nat.le_refl _) _
  have h1 := h.below hb0
  have HS := split_calls s hs h1
  go_enter Tryz.func50, Tryz.ntmps50
  go_wp2_with (go_at_call 70; refine HS.mono ?_)
  rintro e w1 ⟨rfl, rfl⟩
  have hk : Below w.heap.size w ((w.alloc (.cells #[.string emp, .int .i64 0, .int .i64 0, .string emp] 117)).alloc (.cells ((partsF s).map Value.string).toArray 9)) := hb0.alloc (by simp) _
  have hD := h.below hk
  have hc := parts_cell (w.alloc (.cells #[.string emp, .int .i64 0, .int .i64 0, .string emp] 117)) (partsF s)
  have hl := parts_le s
  have hl0 := parts_len s
  have hr : ((w.alloc (.cells #[.string emp, .int .i64 0, .int .i64 0, .string emp] 117)).alloc (.cells ((partsF s).map Value.string).toArray 9)).heap[w.heap.size]? = some (.cells #[.string emp, .int .i64 0, .int .i64 0, .string emp] 117) := (heap_old _ _ (by simp)).trans (heap_new _ _)
  have hz : ((w.alloc (.cells #[.string emp, .int .i64 0, .int .i64 0, .string emp] 117)).alloc (.cells ((partsF s).map Value.string).toArray 9)).heap.size = w.heap.size + 2 := by simp
  have hz1 : (w.alloc (.cells #[.string emp, .int .i64 0, .int .i64 0, .string emp] 117)).heap.size = w.heap.size + 1 := by simp
  rw [hz1] at hc
  simp only [hz1]
  clear h1 hb0 HS hz1
  generalize ((w.alloc (.cells #[.string emp, .int .i64 0, .int .i64 0, .string emp] 117)).alloc (.cells ((partsF s).map Value.string).toArray 9)) = W at hk hD hc hr hz ⊢
  have hps : ∀ j, ((partsF s).getD j emp).size ≤ 3000 := fun j => Nat.le_trans (part_le s j) hs
  have ho : ordF s = ordOf (partsF s) := rfl
  have hlz : 1 ≤ (partsF s).length := by omega
  have hlm : (partsF s).length ≤ 3001 := by omega
  clear hl hl0
  generalize partsF s = ps at hps ho hc hlz hlm hw ⊢
  have hc0 := hc 0 (by omega)
  have hp0 := hps 0
  have hos := ordOf_none hw
  generalize hp0e : ps.getD 0 emp = p0 at hc0 hp0 hos hw
  have hW2 : Below W.heap.size W (W.alloc (.cells #[.int .i64 0, .int .i64 0] 112)) := (Below.refl _ _).alloc (Nat.le_refl _) _
  have hc0' : W.drew.cell? ⟨w.heap.size + 1, 0, none⟩ = some (.string p0) := hc0
  have hd0 : W.drew.cell? ⟨d, 1, none⟩ = some (.map (some mb)) := by rw [Lib.cell_of_heap (w := W.drew) hD.dk]; rfl
  have hk1 : (Instr.lookup 69 (.map (some mb)) (.string p0) true).run Tryz.prog W.drew = .ok (.tuple #[.agg #[.int .i64 0, .int .i64 0], .bool false]) W.drew := by
    have e := look_at (w := W.drew) (own_heap hD.mp rfl) p0 hp0
    rw [hw] at e
    exact e
  have hc0 : (W.alloc (.cells #[.int .i64 0, .int .i64 0] 112)).drew.cell? ⟨w.heap.size + 1, 0, none⟩ = some (.string p0) := (hW2.cell (p := ⟨w.heap.size + 1, 0, none⟩) (show w.heap.size + 1 < W.heap.size by omega)).trans hc0
  have hd1 : (W.alloc (.cells #[.int .i64 0, .int .i64 0] 112)).drew.cell? ⟨d, 1, none⟩ = some (.map (some mb)) := by
    rw [Lib.cell_of_heap (w := (W.alloc (.cells #[.int .i64 0, .int .i64 0] 112)).drew) ((hW2.block _ hD.d_lt).trans hD.dk)]; rfl
  have hk2 : (Instr.lookup 69 (.map (some mb)) (.string p0) true).run Tryz.prog (W.alloc (.cells #[.int .i64 0, .int .i64 0] 112)).drew = .ok (.tuple #[.agg #[.int .i64 0, .int .i64 0], .bool false]) (W.alloc (.cells #[.int .i64 0, .int .i64 0] 112)).drew := by
    have e := look_at (w := (W.alloc (.cells #[.int .i64 0, .int .i64 0] 112)).drew) (own_heap hD.mp (hW2.block _ hD.mb_lt)) p0 hp0
    rw [hw] at e
    exact e
  have hl1 : (0 : Int) < ps.length := by omega
  have hB : Below W.heap.size W (W.alloc (.cells #[.int .i64 0, .int .i64 0] 112)).drew := ((Below.refl _ _).alloc (Nat.le_refl _) _).drew
  have hkk := hk.trans (hB.mono hk.size)
  have hDD := hD.below hB
  have hcc : ∀ j, j < ps.length → (W.alloc (.cells #[.int .i64 0, .int .i64 0] 112)).drew.cell? ⟨w.heap.size + 1, j, none⟩ = some (.string (ps.getD j emp)) := fun j hj => (hB.cell (p := ⟨w.heap.size + 1, j, none⟩) (show w.heap.size + 1 < W.heap.size by omega)).trans (hc j hj)
  have hrr : (W.alloc (.cells #[.int .i64 0, .int .i64 0] 112)).drew.heap[w.heap.size]? = some (.cells #[.string emp, .int .i64 0, .int .i64 0, .string emp] 117) := (hB.block _ (by omega)).trans hr
  have hww : (W.alloc (.cells #[.int .i64 0, .int .i64 0] 112)).drew.heap[w.heap.size + 2]? = some (.cells #[.int .i64 0, .int .i64 0] 112) := by rw [← hz]; exact heap_new _ _
  have hzz : (W.alloc (.cells #[.int .i64 0, .int .i64 0] 112)).drew.heap.size = w.heap.size + 3 := (by simp : (W.alloc (.cells #[.int .i64 0, .int .i64 0] 112)).heap.size = W.heap.size + 1).trans (by omega)
  go_wp2
  go_region
  all_goals clear hc hk hD hr hc0 hc0' hd0 hd1 hk1 hk2 hW2 hB
  all_goals generalize (W.alloc (.cells #[.int .i64 0, .int .i64 0] 112)).drew = V at hkk hDD hcc hrr hww hzz ⊢
  all_goals (
    rw [hos] at ho
    have n1 : (1 : Nat) ≠ w.heap.size := by have := h.env.low; omega
    have bad : V.drew.cell? ⟨1, 0, none⟩ = some (.iface bt bp) := hDD.env.bad
    obtain ⟨⟨c0, s0⟩, ⟨c1, s1⟩, ⟨c2, s2⟩, ⟨c3, s3⟩, fz0, fz1, fz2, fz3⟩ := zero_at hrr
    go_wp2
    go_region
    all_goals (go_wp2; refine bodyPost_ret (by simp [results, Tryz.results50, go_sem, c0, c1, c2, c3]; try rfl) rfl ?_; exact ⟨by rw [ho]; rfl, hkk.drew⟩))
set_option maxRecDepth 100000 in
set_option maxHeartbeats 4000000 in
theorem order_00 (s : ByteArray) (hs : s.size ≤ 3000) {w : World} {bt : TypeId} {bp : Value} {d tb mb : Nat} (h : Dk w (.iface bt bp) d tb mb) (hw : wantF ((partsF s).getD 0 emp).data.toList = some (0, 0)) :
    Calls Tryz.prog 50 #[.pointer (some ⟨d, 0, none⟩), .string s] w fun e w' => e = .returned (ordV (.iface bt bp) (ordF s)) ∧ Below w.heap.size w w' := by
  have hb0 : Below w.heap.size w (w.alloc (.cells #[.string emp, .int .i64 0, .int .i64 0, .string emp] 117)) := (Below.refl _ w).alloc (Nat.le_refl _) _
  have h1 := h.below hb0
  have HS := split_calls s hs h1
  go_enter Tryz.func50, Tryz.ntmps50
  go_wp2_with (go_at_call 70; refine HS.mono ?_)
  rintro e w1 ⟨rfl, rfl⟩
  have hk : Below w.heap.size w ((w.alloc (.cells #[.string emp, .int .i64 0, .int .i64 0, .string emp] 117)).alloc (.cells ((partsF s).map Value.string).toArray 9)) := hb0.alloc (by simp) _
  have hD := h.below hk
  have hc := parts_cell (w.alloc (.cells #[.string emp, .int .i64 0, .int .i64 0, .string emp] 117)) (partsF s)
  have hl := parts_le s
  have hl0 := parts_len s
  have hr : ((w.alloc (.cells #[.string emp, .int .i64 0, .int .i64 0, .string emp] 117)).alloc (.cells ((partsF s).map Value.string).toArray 9)).heap[w.heap.size]? = some (.cells #[.string emp, .int .i64 0, .int .i64 0, .string emp] 117) := (heap_old _ _ (by simp)).trans (heap_new _ _)
  have hz : ((w.alloc (.cells #[.string emp, .int .i64 0, .int .i64 0, .string emp] 117)).alloc (.cells ((partsF s).map Value.string).toArray 9)).heap.size = w.heap.size + 2 := by simp
  have hz1 : (w.alloc (.cells #[.string emp, .int .i64 0, .int .i64 0, .string emp] 117)).heap.size = w.heap.size + 1 := by simp
  rw [hz1] at hc
  simp only [hz1]
  clear h1 hb0 HS hz1
  generalize ((w.alloc (.cells #[.string emp, .int .i64 0, .int .i64 0, .string emp] 117)).alloc (.cells ((partsF s).map Value.string).toArray 9)) = W at hk hD hc hr hz ⊢
  have hps : ∀ j, ((partsF s).getD j emp).size ≤ 3000 := fun j => Nat.le_trans (part_le s j) hs
  have ho : ordF s = ordOf (partsF s) := rfl
  have hlz : 1 ≤ (partsF s).length := by omega
  have hlm : (partsF s).length ≤ 3001 := by omega
  clear hl hl0
  generalize partsF s = ps at hps ho hc hlz hlm hw ⊢
  have hc0 := hc 0 (by omega)
  have hp0 := hps 0
  have hos := ordOf_some hw
  generalize hp0e : ps.getD 0 emp = p0 at hc0 hp0 hos hw
  have hW2 : Below W.heap.size W (W.alloc (.cells #[.int .i64 0, .int .i64 0] 112)) := (Below.refl _ _).alloc (Nat.le_refl _) _
  have hc0' : W.drew.cell? ⟨w.heap.size + 1, 0, none⟩ = some (.string p0) := hc0
  have hd0 : W.drew.cell? ⟨d, 1, none⟩ = some (.map (some mb)) := by rw [Lib.cell_of_heap (w := W.drew) hD.dk]; rfl
  have hk1 : (Instr.lookup 69 (.map (some mb)) (.string p0) true).run Tryz.prog W.drew = .ok (.tuple #[.agg #[.int .i64 0, .int .i64 0], .bool true]) W.drew := by
    have e := look_at (w := W.drew) (own_heap hD.mp rfl) p0 hp0
    rw [hw] at e
    exact e
  have hc0 : (W.alloc (.cells #[.int .i64 0, .int .i64 0] 112)).drew.cell? ⟨w.heap.size + 1, 0, none⟩ = some (.string p0) := (hW2.cell (p := ⟨w.heap.size + 1, 0, none⟩) (show w.heap.size + 1 < W.heap.size by omega)).trans hc0
  have hd1 : (W.alloc (.cells #[.int .i64 0, .int .i64 0] 112)).drew.cell? ⟨d, 1, none⟩ = some (.map (some mb)) := by
    rw [Lib.cell_of_heap (w := (W.alloc (.cells #[.int .i64 0, .int .i64 0] 112)).drew) ((hW2.block _ hD.d_lt).trans hD.dk)]; rfl
  have hk2 : (Instr.lookup 69 (.map (some mb)) (.string p0) true).run Tryz.prog (W.alloc (.cells #[.int .i64 0, .int .i64 0] 112)).drew = .ok (.tuple #[.agg #[.int .i64 0, .int .i64 0], .bool true]) (W.alloc (.cells #[.int .i64 0, .int .i64 0] 112)).drew := by
    have e := look_at (w := (W.alloc (.cells #[.int .i64 0, .int .i64 0] 112)).drew) (own_heap hD.mp (hW2.block _ hD.mb_lt)) p0 hp0
    rw [hw] at e
    exact e
  have hl1 : (0 : Int) < ps.length := by omega
  have hB : Below W.heap.size W (W.alloc (.cells #[.int .i64 0, .int .i64 0] 112)).drew := ((Below.refl _ _).alloc (Nat.le_refl _) _).drew
  have hkk := hk.trans (hB.mono hk.size)
  have hDD := hD.below hB
  have hcc : ∀ j, j < ps.length → (W.alloc (.cells #[.int .i64 0, .int .i64 0] 112)).drew.cell? ⟨w.heap.size + 1, j, none⟩ = some (.string (ps.getD j emp)) := fun j hj => (hB.cell (p := ⟨w.heap.size + 1, j, none⟩) (show w.heap.size + 1 < W.heap.size by omega)).trans (hc j hj)
  have hrr : (W.alloc (.cells #[.int .i64 0, .int .i64 0] 112)).drew.heap[w.heap.size]? = some (.cells #[.string emp, .int .i64 0, .int .i64 0, .string emp] 117) := (hB.block _ (by omega)).trans hr
  have hww : (W.alloc (.cells #[.int .i64 0, .int .i64 0] 112)).drew.heap[w.heap.size + 2]? = some (.cells #[.int .i64 0, .int .i64 0] 112) := by rw [← hz]; exact heap_new _ _
  have hzz : (W.alloc (.cells #[.int .i64 0, .int .i64 0] 112)).drew.heap.size = w.heap.size + 3 := (by simp : (W.alloc (.cells #[.int .i64 0, .int .i64 0] 112)).heap.size = W.heap.size + 1).trans (by omega)
  go_wp2
  go_region
  all_goals clear hc hk hD hr hc0 hc0' hd0 hd1 hk1 hk2 hW2 hB
  all_goals generalize (W.alloc (.cells #[.int .i64 0, .int .i64 0] 112)).drew = V at hkk hDD hcc hrr hww hzz ⊢
  all_goals (
    have a0 : V.cell? ⟨w.heap.size + 2, 0, none⟩ = some (.int .i64 0) := by rw [Lib.cell_of_heap hww]; rfl
    have a1 : V.cell? ⟨w.heap.size + 2, 1, none⟩ = some (.int .i64 0) := by rw [Lib.cell_of_heap hww]; rfl
    have HC := contains_calls (w := V) (k := w.heap.size + 1) (ps := ps) (by omega) hcc
    by_cases hlen : ps.length = 1
    rotate_left
    · rw [hos, if_pos (.inl hlen)] at ho
      have hle : decide ((ps.length : Int) = 1) = false := decide_eq_false (by omega)
      have hle2 : (ps.length : Int) ≠ 1 := by omega
      clear HC
      have n1 : (1 : Nat) ≠ w.heap.size := by have := h.env.low; omega
      have bad : V.drew.cell? ⟨1, 0, none⟩ = some (.iface bt bp) := hDD.env.bad
      obtain ⟨⟨c0, s0⟩, ⟨c1, s1⟩, ⟨c2, s2⟩, ⟨c3, s3⟩, fz0, fz1, fz2, fz3⟩ := zero_at hrr
      go_wp2
      go_region
      all_goals (go_wp2; refine bodyPost_ret (by simp [results, Tryz.results50, go_sem, c0, c1, c2, c3]; try rfl) rfl ?_; exact ⟨by rw [ho]; rfl, hkk.drew⟩)
    rw [hlen] at HC ⊢
    go_wp2_with (go_at_call 71; refine HC.mono ?_)
    rintro e w9 ⟨rfl, e9⟩
    rw [e9]
    clear e9
    clear HC
    by_cases hct : Lib.containsS ps emp = true
    · rw [hos, if_pos (.inr hct)] at ho
      rw [hct]
      have n1 : (1 : Nat) ≠ w.heap.size := by have := h.env.low; omega
      have bad : V.drew.cell? ⟨1, 0, none⟩ = some (.iface bt bp) := hDD.env.bad
      obtain ⟨⟨c0, s0⟩, ⟨c1, s1⟩, ⟨c2, s2⟩, ⟨c3, s3⟩, fz0, fz1, fz2, fz3⟩ := zero_at hrr
      go_wp2
      go_region
      all_goals (go_wp2; refine bodyPost_ret (by simp [results, Tryz.results50, go_sem, c0, c1, c2, c3]; try rfl) rfl ?_; exact ⟨by rw [ho]; rfl, hkk.drew⟩)
    rw [hos, if_neg (by rintro (h | h); exact h hlen; exact hct h)] at ho
    clear hos
    rw [Bool.not_eq_true] at hct
    rw [hct]
    have hS := So.new hkk hDD hcc hrr hww hzz p0
    have p0c : V.cell? ⟨w.heap.size + 1, 0, none⟩ = some (.string p0) := by rw [hcc 0 (by omega), hp0e]
    clear hcc hDD hkk hrr hww
    go_wp2
    clear a0 a1 p0c
    generalize (V.alloc (.cells #[.string p0, .int .i64 0, .int .i64 0, .string emp] 117)) = U at hS ⊢
    refine wp_loop_rounds 1 ?_
    have b1 : U.cell? ⟨w.heap.size + 2, 1, none⟩ = some (.int .i64 0) := by rw [Lib.cell_of_heap hS.ww]; rfl
    have b0 : U.cell? ⟨w.heap.size + 2, 0, none⟩ = some (.int .i64 0) := by rw [Lib.cell_of_heap hS.ww]; rfl
    rw [rounds_succ]
    obtain ⟨⟨c0, s0⟩, ⟨c1, s1⟩, ⟨c2, s2⟩, ⟨c3, s3⟩, fz0, fz1, fz2, fz3⟩ := zero_at hS.rz
    obtain ⟨o0, o1, o2, o3⟩ := four_at hS.oo
    go_wp2
    clear c0 s0 c1 s1 c2 s2 c3 s3 fz0 fz1 fz2 fz3 o0 o1 o2 o3
    obtain ⟨hX, hb⟩ := hS.done (.string p0) (.int .i64 0) (.int .i64 0) (.string emp)
    generalize ((((U.setCell ⟨w.heap.size, 0, none⟩ (.string p0)).setCell ⟨w.heap.size, 1, none⟩ (.int .i64 0)).setCell ⟨w.heap.size, 2, none⟩ (.int .i64 0)).setCell ⟨w.heap.size, 3, none⟩ (.string emp)) = X at hX hb ⊢
    obtain ⟨c0, c1, c2, c3⟩ := four_at hX
    refine bodyPost_ret (by simp [results, Tryz.results50, go_sem, c0, c1, c2, c3]; try rfl) rfl ?_
    exact ⟨by rw [ho]; rfl, hb⟩)
set_option maxRecDepth 100000 in
set_option maxHeartbeats 4000000 in
theorem order_10 (s : ByteArray) (hs : s.size ≤ 3000) {w : World} {bt : TypeId} {bp : Value} {d tb mb : Nat} (h : Dk w (.iface bt bp) d tb mb) (hw : wantF ((partsF s).getD 0 emp).data.toList = some (1, 0)) :
    Calls Tryz.prog 50 #[.pointer (some ⟨d, 0, none⟩), .string s] w fun e w' => e = .returned (ordV (.iface bt bp) (ordF s)) ∧ Below w.heap.size w w' := by
  have hb0 : Below w.heap.size w (w.alloc (.cells #[.string emp, .int .i64 0, .int .i64 0, .string emp] 117)) := (Below.refl _ w).alloc (Nat.le_refl _) _
  have h1 := h.below hb0
  have HS := split_calls s hs h1
  go_enter Tryz.func50, Tryz.ntmps50
  go_wp2_with (go_at_call 70; refine HS.mono ?_)
  rintro e w1 ⟨rfl, rfl⟩
  have hk : Below w.heap.size w ((w.alloc (.cells #[.string emp, .int .i64 0, .int .i64 0, .string emp] 117)).alloc (.cells ((partsF s).map Value.string).toArray 9)) := hb0.alloc (by simp) _
  have hD := h.below hk
  have hc := parts_cell (w.alloc (.cells #[.string emp, .int .i64 0, .int .i64 0, .string emp] 117)) (partsF s)
  have hl := parts_le s
  have hl0 := parts_len s
  have hr : ((w.alloc (.cells #[.string emp, .int .i64 0, .int .i64 0, .string emp] 117)).alloc (.cells ((partsF s).map Value.string).toArray 9)).heap[w.heap.size]? = some (.cells #[.string emp, .int .i64 0, .int .i64 0, .string emp] 117) := (heap_old _ _ (by simp)).trans (heap_new _ _)
  have hz : ((w.alloc (.cells #[.string emp, .int .i64 0, .int .i64 0, .string emp] 117)).alloc (.cells ((partsF s).map Value.string).toArray 9)).heap.size = w.heap.size + 2 := by simp
  have hz1 : (w.alloc (.cells #[.string emp, .int .i64 0, .int .i64 0, .string emp] 117)).heap.size = w.heap.size + 1 := by simp
  rw [hz1] at hc
  simp only [hz1]
  clear h1 hb0 HS hz1
  generalize ((w.alloc (.cells #[.string emp, .int .i64 0, .int .i64 0, .string emp] 117)).alloc (.cells ((partsF s).map Value.string).toArray 9)) = W at hk hD hc hr hz ⊢
  have hps : ∀ j, ((partsF s).getD j emp).size ≤ 3000 := fun j => Nat.le_trans (part_le s j) hs
  have ho : ordF s = ordOf (partsF s) := rfl
  have hlz : 1 ≤ (partsF s).length := by omega
  have hlm : (partsF s).length ≤ 3001 := by omega
  clear hl hl0
  generalize partsF s = ps at hps ho hc hlz hlm hw ⊢
  have hc0 := hc 0 (by omega)
  have hp0 := hps 0
  have hos := ordOf_some hw
  generalize hp0e : ps.getD 0 emp = p0 at hc0 hp0 hos hw
  have hW2 : Below W.heap.size W (W.alloc (.cells #[.int .i64 0, .int .i64 0] 112)) := (Below.refl _ _).alloc (Nat.le_refl _) _
  have hc0' : W.drew.cell? ⟨w.heap.size + 1, 0, none⟩ = some (.string p0) := hc0
  have hd0 : W.drew.cell? ⟨d, 1, none⟩ = some (.map (some mb)) := by rw [Lib.cell_of_heap (w := W.drew) hD.dk]; rfl
  have hk1 : (Instr.lookup 69 (.map (some mb)) (.string p0) true).run Tryz.prog W.drew = .ok (.tuple #[.agg #[.int .i64 1, .int .i64 0], .bool true]) W.drew := by
    have e := look_at (w := W.drew) (own_heap hD.mp rfl) p0 hp0
    rw [hw] at e
    exact e
  have hc0 : (W.alloc (.cells #[.int .i64 0, .int .i64 0] 112)).drew.cell? ⟨w.heap.size + 1, 0, none⟩ = some (.string p0) := (hW2.cell (p := ⟨w.heap.size + 1, 0, none⟩) (show w.heap.size + 1 < W.heap.size by omega)).trans hc0
  have hd1 : (W.alloc (.cells #[.int .i64 0, .int .i64 0] 112)).drew.cell? ⟨d, 1, none⟩ = some (.map (some mb)) := by
    rw [Lib.cell_of_heap (w := (W.alloc (.cells #[.int .i64 0, .int .i64 0] 112)).drew) ((hW2.block _ hD.d_lt).trans hD.dk)]; rfl
  have hk2 : (Instr.lookup 69 (.map (some mb)) (.string p0) true).run Tryz.prog (W.alloc (.cells #[.int .i64 0, .int .i64 0] 112)).drew = .ok (.tuple #[.agg #[.int .i64 1, .int .i64 0], .bool true]) (W.alloc (.cells #[.int .i64 0, .int .i64 0] 112)).drew := by
    have e := look_at (w := (W.alloc (.cells #[.int .i64 0, .int .i64 0] 112)).drew) (own_heap hD.mp (hW2.block _ hD.mb_lt)) p0 hp0
    rw [hw] at e
    exact e
  have hl1 : (0 : Int) < ps.length := by omega
  have hB : Below W.heap.size W (W.alloc (.cells #[.int .i64 1, .int .i64 0] 112)).drew := ((Below.refl _ _).alloc (Nat.le_refl _) _).drew
  have hkk := hk.trans (hB.mono hk.size)
  have hDD := hD.below hB
  have hcc : ∀ j, j < ps.length → (W.alloc (.cells #[.int .i64 1, .int .i64 0] 112)).drew.cell? ⟨w.heap.size + 1, j, none⟩ = some (.string (ps.getD j emp)) := fun j hj => (hB.cell (p := ⟨w.heap.size + 1, j, none⟩) (show w.heap.size + 1 < W.heap.size by omega)).trans (hc j hj)
  have hrr : (W.alloc (.cells #[.int .i64 1, .int .i64 0] 112)).drew.heap[w.heap.size]? = some (.cells #[.string emp, .int .i64 0, .int .i64 0, .string emp] 117) := (hB.block _ (by omega)).trans hr
  have hww : (W.alloc (.cells #[.int .i64 1, .int .i64 0] 112)).drew.heap[w.heap.size + 2]? = some (.cells #[.int .i64 1, .int .i64 0] 112) := by rw [← hz]; exact heap_new _ _
  have hzz : (W.alloc (.cells #[.int .i64 1, .int .i64 0] 112)).drew.heap.size = w.heap.size + 3 := (by simp : (W.alloc (.cells #[.int .i64 1, .int .i64 0] 112)).heap.size = W.heap.size + 1).trans (by omega)
  go_wp2
  go_region
  all_goals clear hc hk hD hr hc0 hc0' hd0 hd1 hk1 hk2 hW2 hB
  all_goals generalize (W.alloc (.cells #[.int .i64 1, .int .i64 0] 112)).drew = V at hkk hDD hcc hrr hww hzz ⊢
  all_goals (
    have a0 : V.cell? ⟨w.heap.size + 2, 0, none⟩ = some (.int .i64 1) := by rw [Lib.cell_of_heap hww]; rfl
    have a1 : V.cell? ⟨w.heap.size + 2, 1, none⟩ = some (.int .i64 0) := by rw [Lib.cell_of_heap hww]; rfl
    have HC := contains_calls (w := V) (k := w.heap.size + 1) (ps := ps) (by omega) hcc
    by_cases hlen : ps.length = 2
    rotate_left
    · rw [hos, if_pos (.inl hlen)] at ho
      have hle : decide ((ps.length : Int) = 2) = false := decide_eq_false (by omega)
      have hle2 : (ps.length : Int) ≠ 2 := by omega
      clear HC
      have n1 : (1 : Nat) ≠ w.heap.size := by have := h.env.low; omega
      have bad : V.drew.cell? ⟨1, 0, none⟩ = some (.iface bt bp) := hDD.env.bad
      obtain ⟨⟨c0, s0⟩, ⟨c1, s1⟩, ⟨c2, s2⟩, ⟨c3, s3⟩, fz0, fz1, fz2, fz3⟩ := zero_at hrr
      go_wp2
      go_region
      all_goals (go_wp2; refine bodyPost_ret (by simp [results, Tryz.results50, go_sem, c0, c1, c2, c3]; try rfl) rfl ?_; exact ⟨by rw [ho]; rfl, hkk.drew⟩)
    rw [hlen] at HC ⊢
    go_wp2_with (go_at_call 71; refine HC.mono ?_)
    rintro e w9 ⟨rfl, e9⟩
    rw [e9]
    clear e9
    clear HC
    by_cases hct : Lib.containsS ps emp = true
    · rw [hos, if_pos (.inr hct)] at ho
      rw [hct]
      have n1 : (1 : Nat) ≠ w.heap.size := by have := h.env.low; omega
      have bad : V.drew.cell? ⟨1, 0, none⟩ = some (.iface bt bp) := hDD.env.bad
      obtain ⟨⟨c0, s0⟩, ⟨c1, s1⟩, ⟨c2, s2⟩, ⟨c3, s3⟩, fz0, fz1, fz2, fz3⟩ := zero_at hrr
      go_wp2
      go_region
      all_goals (go_wp2; refine bodyPost_ret (by simp [results, Tryz.results50, go_sem, c0, c1, c2, c3]; try rfl) rfl ?_; exact ⟨by rw [ho]; rfl, hkk.drew⟩)
    rw [hos, if_neg (by rintro (h | h); exact h hlen; exact hct h)] at ho
    clear hos
    rw [Bool.not_eq_true] at hct
    rw [hct]
    have hS := So.new hkk hDD hcc hrr hww hzz p0
    have p0c : V.cell? ⟨w.heap.size + 1, 0, none⟩ = some (.string p0) := by rw [hcc 0 (by omega), hp0e]
    clear hcc hDD hkk hrr hww
    go_wp2
    clear a0 a1 p0c
    generalize (V.alloc (.cells #[.string p0, .int .i64 0, .int .i64 0, .string emp] 117)) = U at hS ⊢
    refine wp_loop_rounds 2 ?_
    have HN := num_calls (ps.getD 1 emp) (hps 1) hS.dk.env
    have pc := hS.pc 1 (by omega)
    generalize ps.getD 1 emp = q0 at HN pc ho
    rw [rounds_succ]
    go_wp2_with (go_at_call 72; refine HN.mono ?_)
    rintro e U0 ⟨rfl, hb⟩
    have hS0 := hS.below hb
    obtain ⟨⟨c0, s0⟩, ⟨c1, s1⟩, ⟨c2, s2⟩, ⟨c3, s3⟩, fz0, fz1, fz2, fz3⟩ := zero_at hS0.rz
    have oc : U0.cell? ⟨w.heap.size + 3, 1, none⟩ = some (.int .i64 0) := by rw [Lib.cell_of_heap hS0.oo]; rfl
    have of : U0.frozen? ⟨w.heap.size + 3, 1, none⟩ = false := Lib.frozen_of_heap hS0.oo 1
    clear HN pc hS
    cases hn : numF q0.data.toList with
    | none =>
      have ho' : ordF s = none := by rw [ho, hn]; rfl
      simp only [hn, numV]
      go_wp2
      refine bodyPost_ret (by simp [results, Tryz.results50, go_sem, c0, c1, c2, c3]; try rfl) rfl ?_
      exact ⟨by rw [ho']; rfl, hS0.bl⟩
    | some x0 =>
    simp only [hn, numV]
    rw [hn] at ho
    clear c0 s0 c1 s1 c2 s2 c3 s3 fz0 fz1 fz2 fz3
    go_wp2
    have hS := hS0.put h.d_lt h.mb_lt 1 (.int .i64 x0) h.env.low rfl
    clear hS0 oc of hb
    generalize (U0.setCell ⟨w.heap.size + 3, 1, none⟩ (.int .i64 x0)) = U at hS ⊢
    have b1 : U.cell? ⟨w.heap.size + 2, 1, none⟩ = some (.int .i64 0) := by rw [Lib.cell_of_heap hS.ww]; rfl
    have b0 : U.cell? ⟨w.heap.size + 2, 0, none⟩ = some (.int .i64 1) := by rw [Lib.cell_of_heap hS.ww]; rfl
    rw [rounds_succ]
    obtain ⟨⟨c0, s0⟩, ⟨c1, s1⟩, ⟨c2, s2⟩, ⟨c3, s3⟩, fz0, fz1, fz2, fz3⟩ := zero_at hS.rz
    obtain ⟨o0, o1, o2, o3⟩ := four_at hS.oo
    go_wp2
    clear c0 s0 c1 s1 c2 s2 c3 s3 fz0 fz1 fz2 fz3 o0 o1 o2 o3
    obtain ⟨hX, hb⟩ := hS.done (.string p0) (.int .i64 x0) (.int .i64 0) (.string emp)
    generalize ((((U.setCell ⟨w.heap.size, 0, none⟩ (.string p0)).setCell ⟨w.heap.size, 1, none⟩ (.int .i64 x0)).setCell ⟨w.heap.size, 2, none⟩ (.int .i64 0)).setCell ⟨w.heap.size, 3, none⟩ (.string emp)) = X at hX hb ⊢
    obtain ⟨c0, c1, c2, c3⟩ := four_at hX
    refine bodyPost_ret (by simp [results, Tryz.results50, go_sem, c0, c1, c2, c3]; try rfl) rfl ?_
    exact ⟨by rw [ho]; rfl, hb⟩)
set_option maxRecDepth 100000 in
set_option maxHeartbeats 4000000 in
theorem order_20 (s : ByteArray) (hs : s.size ≤ 3000) {w : World} {bt : TypeId} {bp : Value} {d tb mb : Nat} (h : Dk w (.iface bt bp) d tb mb) (hw : wantF ((partsF s).getD 0 emp).data.toList = some (2, 0)) :
    Calls Tryz.prog 50 #[.pointer (some ⟨d, 0, none⟩), .string s] w fun e w' => e = .returned (ordV (.iface bt bp) (ordF s)) ∧ Below w.heap.size w w' := by
  have hb0 : Below w.heap.size w (w.alloc (.cells #[.string emp, .int .i64 0, .int .i64 0, .string emp] 117)) := (Below.refl _ w).alloc (Nat.le_refl _) _
  have h1 := h.below hb0
  have HS := split_calls s hs h1
  go_enter Tryz.func50, Tryz.ntmps50
  go_wp2_with (go_at_call 70; refine HS.mono ?_)
  rintro e w1 ⟨rfl, rfl⟩
  have hk : Below w.heap.size w ((w.alloc (.cells #[.string emp, .int .i64 0, .int .i64 0, .string emp] 117)).alloc (.cells ((partsF s).map Value.string).toArray 9)) := hb0.alloc (by simp) _
  have hD := h.below hk
  have hc := parts_cell (w.alloc (.cells #[.string emp, .int .i64 0, .int .i64 0, .string emp] 117)) (partsF s)
  have hl := parts_le s
  have hl0 := parts_len s
  have hr : ((w.alloc (.cells #[.string emp, .int .i64 0, .int .i64 0, .string emp] 117)).alloc (.cells ((partsF s).map Value.string).toArray 9)).heap[w.heap.size]? = some (.cells #[.string emp, .int .i64 0, .int .i64 0, .string emp] 117) := (heap_old _ _ (by simp)).trans (heap_new _ _)
  have hz : ((w.alloc (.cells #[.string emp, .int .i64 0, .int .i64 0, .string emp] 117)).alloc (.cells ((partsF s).map Value.string).toArray 9)).heap.size = w.heap.size + 2 := by simp
  have hz1 : (w.alloc (.cells #[.string emp, .int .i64 0, .int .i64 0, .string emp] 117)).heap.size = w.heap.size + 1 := by simp
  rw [hz1] at hc
  simp only [hz1]
  clear h1 hb0 HS hz1
  generalize ((w.alloc (.cells #[.string emp, .int .i64 0, .int .i64 0, .string emp] 117)).alloc (.cells ((partsF s).map Value.string).toArray 9)) = W at hk hD hc hr hz ⊢
  have hps : ∀ j, ((partsF s).getD j emp).size ≤ 3000 := fun j => Nat.le_trans (part_le s j) hs
  have ho : ordF s = ordOf (partsF s) := rfl
  have hlz : 1 ≤ (partsF s).length := by omega
  have hlm : (partsF s).length ≤ 3001 := by omega
  clear hl hl0
  generalize partsF s = ps at hps ho hc hlz hlm hw ⊢
  have hc0 := hc 0 (by omega)
  have hp0 := hps 0
  have hos := ordOf_some hw
  generalize hp0e : ps.getD 0 emp = p0 at hc0 hp0 hos hw
  have hW2 : Below W.heap.size W (W.alloc (.cells #[.int .i64 0, .int .i64 0] 112)) := (Below.refl _ _).alloc (Nat.le_refl _) _
  have hc0' : W.drew.cell? ⟨w.heap.size + 1, 0, none⟩ = some (.string p0) := hc0
  have hd0 : W.drew.cell? ⟨d, 1, none⟩ = some (.map (some mb)) := by rw [Lib.cell_of_heap (w := W.drew) hD.dk]; rfl
  have hk1 : (Instr.lookup 69 (.map (some mb)) (.string p0) true).run Tryz.prog W.drew = .ok (.tuple #[.agg #[.int .i64 2, .int .i64 0], .bool true]) W.drew := by
    have e := look_at (w := W.drew) (own_heap hD.mp rfl) p0 hp0
    rw [hw] at e
    exact e
  have hc0 : (W.alloc (.cells #[.int .i64 0, .int .i64 0] 112)).drew.cell? ⟨w.heap.size + 1, 0, none⟩ = some (.string p0) := (hW2.cell (p := ⟨w.heap.size + 1, 0, none⟩) (show w.heap.size + 1 < W.heap.size by omega)).trans hc0
  have hd1 : (W.alloc (.cells #[.int .i64 0, .int .i64 0] 112)).drew.cell? ⟨d, 1, none⟩ = some (.map (some mb)) := by
    rw [Lib.cell_of_heap (w := (W.alloc (.cells #[.int .i64 0, .int .i64 0] 112)).drew) ((hW2.block _ hD.d_lt).trans hD.dk)]; rfl
  have hk2 : (Instr.lookup 69 (.map (some mb)) (.string p0) true).run Tryz.prog (W.alloc (.cells #[.int .i64 0, .int .i64 0] 112)).drew = .ok (.tuple #[.agg #[.int .i64 2, .int .i64 0], .bool true]) (W.alloc (.cells #[.int .i64 0, .int .i64 0] 112)).drew := by
    have e := look_at (w := (W.alloc (.cells #[.int .i64 0, .int .i64 0] 112)).drew) (own_heap hD.mp (hW2.block _ hD.mb_lt)) p0 hp0
    rw [hw] at e
    exact e
  have hl1 : (0 : Int) < ps.length := by omega
  have hB : Below W.heap.size W (W.alloc (.cells #[.int .i64 2, .int .i64 0] 112)).drew := ((Below.refl _ _).alloc (Nat.le_refl _) _).drew
  have hkk := hk.trans (hB.mono hk.size)
  have hDD := hD.below hB
  have hcc : ∀ j, j < ps.length → (W.alloc (.cells #[.int .i64 2, .int .i64 0] 112)).drew.cell? ⟨w.heap.size + 1, j, none⟩ = some (.string (ps.getD j emp)) := fun j hj => (hB.cell (p := ⟨w.heap.size + 1, j, none⟩) (show w.heap.size + 1 < W.heap.size by omega)).trans (hc j hj)
  have hrr : (W.alloc (.cells #[.int .i64 2, .int .i64 0] 112)).drew.heap[w.heap.size]? = some (.cells #[.string emp, .int .i64 0, .int .i64 0, .string emp] 117) := (hB.block _ (by omega)).trans hr
  have hww : (W.alloc (.cells #[.int .i64 2, .int .i64 0] 112)).drew.heap[w.heap.size + 2]? = some (.cells #[.int .i64 2, .int .i64 0] 112) := by rw [← hz]; exact heap_new _ _
  have hzz : (W.alloc (.cells #[.int .i64 2, .int .i64 0] 112)).drew.heap.size = w.heap.size + 3 := (by simp : (W.alloc (.cells #[.int .i64 2, .int .i64 0] 112)).heap.size = W.heap.size + 1).trans (by omega)
  go_wp2
  go_region
  all_goals clear hc hk hD hr hc0 hc0' hd0 hd1 hk1 hk2 hW2 hB
  all_goals generalize (W.alloc (.cells #[.int .i64 2, .int .i64 0] 112)).drew = V at hkk hDD hcc hrr hww hzz ⊢
  all_goals (
    have a0 : V.cell? ⟨w.heap.size + 2, 0, none⟩ = some (.int .i64 2) := by rw [Lib.cell_of_heap hww]; rfl
    have a1 : V.cell? ⟨w.heap.size + 2, 1, none⟩ = some (.int .i64 0) := by rw [Lib.cell_of_heap hww]; rfl
    have HC := contains_calls (w := V) (k := w.heap.size + 1) (ps := ps) (by omega) hcc
    by_cases hlen : ps.length = 3
    rotate_left
    · rw [hos, if_pos (.inl hlen)] at ho
      have hle : decide ((ps.length : Int) = 3) = false := decide_eq_false (by omega)
      have hle2 : (ps.length : Int) ≠ 3 := by omega
      clear HC
      have n1 : (1 : Nat) ≠ w.heap.size := by have := h.env.low; omega
      have bad : V.drew.cell? ⟨1, 0, none⟩ = some (.iface bt bp) := hDD.env.bad
      obtain ⟨⟨c0, s0⟩, ⟨c1, s1⟩, ⟨c2, s2⟩, ⟨c3, s3⟩, fz0, fz1, fz2, fz3⟩ := zero_at hrr
      go_wp2
      go_region
      all_goals (go_wp2; refine bodyPost_ret (by simp [results, Tryz.results50, go_sem, c0, c1, c2, c3]; try rfl) rfl ?_; exact ⟨by rw [ho]; rfl, hkk.drew⟩)
    rw [hlen] at HC ⊢
    go_wp2_with (go_at_call 71; refine HC.mono ?_)
    rintro e w9 ⟨rfl, e9⟩
    rw [e9]
    clear e9
    clear HC
    by_cases hct : Lib.containsS ps emp = true
    · rw [hos, if_pos (.inr hct)] at ho
      rw [hct]
      have n1 : (1 : Nat) ≠ w.heap.size := by have := h.env.low; omega
      have bad : V.drew.cell? ⟨1, 0, none⟩ = some (.iface bt bp) := hDD.env.bad
      obtain ⟨⟨c0, s0⟩, ⟨c1, s1⟩, ⟨c2, s2⟩, ⟨c3, s3⟩, fz0, fz1, fz2, fz3⟩ := zero_at hrr
      go_wp2
      go_region
      all_goals (go_wp2; refine bodyPost_ret (by simp [results, Tryz.results50, go_sem, c0, c1, c2, c3]; try rfl) rfl ?_; exact ⟨by rw [ho]; rfl, hkk.drew⟩)
    rw [hos, if_neg (by rintro (h | h); exact h hlen; exact hct h)] at ho
    clear hos
    rw [Bool.not_eq_true] at hct
    rw [hct]
    have hS := So.new hkk hDD hcc hrr hww hzz p0
    have p0c : V.cell? ⟨w.heap.size + 1, 0, none⟩ = some (.string p0) := by rw [hcc 0 (by omega), hp0e]
    clear hcc hDD hkk hrr hww
    go_wp2
    clear a0 a1 p0c
    generalize (V.alloc (.cells #[.string p0, .int .i64 0, .int .i64 0, .string emp] 117)) = U at hS ⊢
    refine wp_loop_rounds 3 ?_
    have HN := num_calls (ps.getD 1 emp) (hps 1) hS.dk.env
    have pc := hS.pc 1 (by omega)
    generalize ps.getD 1 emp = q0 at HN pc ho
    rw [rounds_succ]
    go_wp2_with (go_at_call 72; refine HN.mono ?_)
    rintro e U0 ⟨rfl, hb⟩
    have hS0 := hS.below hb
    obtain ⟨⟨c0, s0⟩, ⟨c1, s1⟩, ⟨c2, s2⟩, ⟨c3, s3⟩, fz0, fz1, fz2, fz3⟩ := zero_at hS0.rz
    have oc : U0.cell? ⟨w.heap.size + 3, 1, none⟩ = some (.int .i64 0) := by rw [Lib.cell_of_heap hS0.oo]; rfl
    have of : U0.frozen? ⟨w.heap.size + 3, 1, none⟩ = false := Lib.frozen_of_heap hS0.oo 1
    clear HN pc hS
    cases hn : numF q0.data.toList with
    | none =>
      have ho' : ordF s = none := by rw [ho, hn]; rfl
      simp only [hn, numV]
      go_wp2
      refine bodyPost_ret (by simp [results, Tryz.results50, go_sem, c0, c1, c2, c3]; try rfl) rfl ?_
      exact ⟨by rw [ho']; rfl, hS0.bl⟩
    | some x0 =>
    simp only [hn, numV]
    rw [hn] at ho
    clear c0 s0 c1 s1 c2 s2 c3 s3 fz0 fz1 fz2 fz3
    go_wp2
    have hS := hS0.put h.d_lt h.mb_lt 1 (.int .i64 x0) h.env.low rfl
    clear hS0 oc of hb
    generalize (U0.setCell ⟨w.heap.size + 3, 1, none⟩ (.int .i64 x0)) = U at hS ⊢
    have HN := num_calls (ps.getD 2 emp) (hps 2) hS.dk.env
    have pc := hS.pc 2 (by omega)
    generalize ps.getD 2 emp = q1 at HN pc ho
    rw [rounds_succ]
    go_wp2_with (go_at_call 72; refine HN.mono ?_)
    rintro e U1 ⟨rfl, hb⟩
    have hS1 := hS.below hb
    obtain ⟨⟨c0, s0⟩, ⟨c1, s1⟩, ⟨c2, s2⟩, ⟨c3, s3⟩, fz0, fz1, fz2, fz3⟩ := zero_at hS1.rz
    have oc : U1.cell? ⟨w.heap.size + 3, 2, none⟩ = some (.int .i64 0) := by rw [Lib.cell_of_heap hS1.oo]; rfl
    have of : U1.frozen? ⟨w.heap.size + 3, 2, none⟩ = false := Lib.frozen_of_heap hS1.oo 2
    clear HN pc hS
    cases hn : numF q1.data.toList with
    | none =>
      have ho' : ordF s = none := by rw [ho, hn]; rfl
      simp only [hn, numV]
      go_wp2
      refine bodyPost_ret (by simp [results, Tryz.results50, go_sem, c0, c1, c2, c3]; try rfl) rfl ?_
      exact ⟨by rw [ho']; rfl, hS1.bl⟩
    | some x1 =>
    simp only [hn, numV]
    rw [hn] at ho
    clear c0 s0 c1 s1 c2 s2 c3 s3 fz0 fz1 fz2 fz3
    go_wp2
    have hS := hS1.put h.d_lt h.mb_lt 2 (.int .i64 x1) h.env.low rfl
    clear hS1 oc of hb
    generalize (U1.setCell ⟨w.heap.size + 3, 2, none⟩ (.int .i64 x1)) = U at hS ⊢
    have b1 : U.cell? ⟨w.heap.size + 2, 1, none⟩ = some (.int .i64 0) := by rw [Lib.cell_of_heap hS.ww]; rfl
    have b0 : U.cell? ⟨w.heap.size + 2, 0, none⟩ = some (.int .i64 2) := by rw [Lib.cell_of_heap hS.ww]; rfl
    rw [rounds_succ]
    obtain ⟨⟨c0, s0⟩, ⟨c1, s1⟩, ⟨c2, s2⟩, ⟨c3, s3⟩, fz0, fz1, fz2, fz3⟩ := zero_at hS.rz
    obtain ⟨o0, o1, o2, o3⟩ := four_at hS.oo
    go_wp2
    clear c0 s0 c1 s1 c2 s2 c3 s3 fz0 fz1 fz2 fz3 o0 o1 o2 o3
    obtain ⟨hX, hb⟩ := hS.done (.string p0) (.int .i64 x0) (.int .i64 x1) (.string emp)
    generalize ((((U.setCell ⟨w.heap.size, 0, none⟩ (.string p0)).setCell ⟨w.heap.size, 1, none⟩ (.int .i64 x0)).setCell ⟨w.heap.size, 2, none⟩ (.int .i64 x1)).setCell ⟨w.heap.size, 3, none⟩ (.string emp)) = X at hX hb ⊢
    obtain ⟨c0, c1, c2, c3⟩ := four_at hX
    refine bodyPost_ret (by simp [results, Tryz.results50, go_sem, c0, c1, c2, c3]; try rfl) rfl ?_
    exact ⟨by rw [ho]; rfl, hb⟩)
set_option maxRecDepth 100000 in
set_option maxHeartbeats 4000000 in
theorem order_11 (s : ByteArray) (hs : s.size ≤ 3000) {w : World} {bt : TypeId} {bp : Value} {d tb mb : Nat} (h : Dk w (.iface bt bp) d tb mb) (hw : wantF ((partsF s).getD 0 emp).data.toList = some (1, 1)) :
    Calls Tryz.prog 50 #[.pointer (some ⟨d, 0, none⟩), .string s] w fun e w' => e = .returned (ordV (.iface bt bp) (ordF s)) ∧ Below w.heap.size w w' := by
  have hb0 : Below w.heap.size w (w.alloc (.cells #[.string emp, .int .i64 0, .int .i64 0, .string emp] 117)) := (Below.refl _ w).alloc (Nat.le_refl _) _
  have h1 := h.below hb0
  have HS := split_calls s hs h1
  go_enter Tryz.func50, Tryz.ntmps50
  go_wp2_with (go_at_call 70; refine HS.mono ?_)
  rintro e w1 ⟨rfl, rfl⟩
  have hk : Below w.heap.size w ((w.alloc (.cells #[.string emp, .int .i64 0, .int .i64 0, .string emp] 117)).alloc (.cells ((partsF s).map Value.string).toArray 9)) := hb0.alloc (by simp) _
  have hD := h.below hk
  have hc := parts_cell (w.alloc (.cells #[.string emp, .int .i64 0, .int .i64 0, .string emp] 117)) (partsF s)
  have hl := parts_le s
  have hl0 := parts_len s
  have hr : ((w.alloc (.cells #[.string emp, .int .i64 0, .int .i64 0, .string emp] 117)).alloc (.cells ((partsF s).map Value.string).toArray 9)).heap[w.heap.size]? = some (.cells #[.string emp, .int .i64 0, .int .i64 0, .string emp] 117) := (heap_old _ _ (by simp)).trans (heap_new _ _)
  have hz : ((w.alloc (.cells #[.string emp, .int .i64 0, .int .i64 0, .string emp] 117)).alloc (.cells ((partsF s).map Value.string).toArray 9)).heap.size = w.heap.size + 2 := by simp
  have hz1 : (w.alloc (.cells #[.string emp, .int .i64 0, .int .i64 0, .string emp] 117)).heap.size = w.heap.size + 1 := by simp
  rw [hz1] at hc
  simp only [hz1]
  clear h1 hb0 HS hz1
  generalize ((w.alloc (.cells #[.string emp, .int .i64 0, .int .i64 0, .string emp] 117)).alloc (.cells ((partsF s).map Value.string).toArray 9)) = W at hk hD hc hr hz ⊢
  have hps : ∀ j, ((partsF s).getD j emp).size ≤ 3000 := fun j => Nat.le_trans (part_le s j) hs
  have ho : ordF s = ordOf (partsF s) := rfl
  have hlz : 1 ≤ (partsF s).length := by omega
  have hlm : (partsF s).length ≤ 3001 := by omega
  clear hl hl0
  generalize partsF s = ps at hps ho hc hlz hlm hw ⊢
  have hc0 := hc 0 (by omega)
  have hp0 := hps 0
  have hos := ordOf_some hw
  generalize hp0e : ps.getD 0 emp = p0 at hc0 hp0 hos hw
  have hW2 : Below W.heap.size W (W.alloc (.cells #[.int .i64 0, .int .i64 0] 112)) := (Below.refl _ _).alloc (Nat.le_refl _) _
  have hc0' : W.drew.cell? ⟨w.heap.size + 1, 0, none⟩ = some (.string p0) := hc0
  have hd0 : W.drew.cell? ⟨d, 1, none⟩ = some (.map (some mb)) := by rw [Lib.cell_of_heap (w := W.drew) hD.dk]; rfl
  have hk1 : (Instr.lookup 69 (.map (some mb)) (.string p0) true).run Tryz.prog W.drew = .ok (.tuple #[.agg #[.int .i64 1, .int .i64 1], .bool true]) W.drew := by
    have e := look_at (w := W.drew) (own_heap hD.mp rfl) p0 hp0
    rw [hw] at e
    exact e
  have hc0 : (W.alloc (.cells #[.int .i64 0, .int .i64 0] 112)).drew.cell? ⟨w.heap.size + 1, 0, none⟩ = some (.string p0) := (hW2.cell (p := ⟨w.heap.size + 1, 0, none⟩) (show w.heap.size + 1 < W.heap.size by omega)).trans hc0
  have hd1 : (W.alloc (.cells #[.int .i64 0, .int .i64 0] 112)).drew.cell? ⟨d, 1, none⟩ = some (.map (some mb)) := by
    rw [Lib.cell_of_heap (w := (W.alloc (.cells #[.int .i64 0, .int .i64 0] 112)).drew) ((hW2.block _ hD.d_lt).trans hD.dk)]; rfl
  have hk2 : (Instr.lookup 69 (.map (some mb)) (.string p0) true).run Tryz.prog (W.alloc (.cells #[.int .i64 0, .int .i64 0] 112)).drew = .ok (.tuple #[.agg #[.int .i64 1, .int .i64 1], .bool true]) (W.alloc (.cells #[.int .i64 0, .int .i64 0] 112)).drew := by
    have e := look_at (w := (W.alloc (.cells #[.int .i64 0, .int .i64 0] 112)).drew) (own_heap hD.mp (hW2.block _ hD.mb_lt)) p0 hp0
    rw [hw] at e
    exact e
  have hl1 : (0 : Int) < ps.length := by omega
  have hB : Below W.heap.size W (W.alloc (.cells #[.int .i64 1, .int .i64 1] 112)).drew := ((Below.refl _ _).alloc (Nat.le_refl _) _).drew
  have hkk := hk.trans (hB.mono hk.size)
  have hDD := hD.below hB
  have hcc : ∀ j, j < ps.length → (W.alloc (.cells #[.int .i64 1, .int .i64 1] 112)).drew.cell? ⟨w.heap.size + 1, j, none⟩ = some (.string (ps.getD j emp)) := fun j hj => (hB.cell (p := ⟨w.heap.size + 1, j, none⟩) (show w.heap.size + 1 < W.heap.size by omega)).trans (hc j hj)
  have hrr : (W.alloc (.cells #[.int .i64 1, .int .i64 1] 112)).drew.heap[w.heap.size]? = some (.cells #[.string emp, .int .i64 0, .int .i64 0, .string emp] 117) := (hB.block _ (by omega)).trans hr
  have hww : (W.alloc (.cells #[.int .i64 1, .int .i64 1] 112)).drew.heap[w.heap.size + 2]? = some (.cells #[.int .i64 1, .int .i64 1] 112) := by rw [← hz]; exact heap_new _ _
  have hzz : (W.alloc (.cells #[.int .i64 1, .int .i64 1] 112)).drew.heap.size = w.heap.size + 3 := (by simp : (W.alloc (.cells #[.int .i64 1, .int .i64 1] 112)).heap.size = W.heap.size + 1).trans (by omega)
  go_wp2
  go_region
  all_goals clear hc hk hD hr hc0 hc0' hd0 hd1 hk1 hk2 hW2 hB
  all_goals generalize (W.alloc (.cells #[.int .i64 1, .int .i64 1] 112)).drew = V at hkk hDD hcc hrr hww hzz ⊢
  all_goals (
    have a0 : V.cell? ⟨w.heap.size + 2, 0, none⟩ = some (.int .i64 1) := by rw [Lib.cell_of_heap hww]; rfl
    have a1 : V.cell? ⟨w.heap.size + 2, 1, none⟩ = some (.int .i64 1) := by rw [Lib.cell_of_heap hww]; rfl
    have HC := contains_calls (w := V) (k := w.heap.size + 1) (ps := ps) (by omega) hcc
    by_cases hlen : ps.length = 3
    rotate_left
    · rw [hos, if_pos (.inl hlen)] at ho
      have hle : decide ((ps.length : Int) = 3) = false := decide_eq_false (by omega)
      have hle2 : (ps.length : Int) ≠ 3 := by omega
      clear HC
      have n1 : (1 : Nat) ≠ w.heap.size := by have := h.env.low; omega
      have bad : V.drew.cell? ⟨1, 0, none⟩ = some (.iface bt bp) := hDD.env.bad
      obtain ⟨⟨c0, s0⟩, ⟨c1, s1⟩, ⟨c2, s2⟩, ⟨c3, s3⟩, fz0, fz1, fz2, fz3⟩ := zero_at hrr
      go_wp2
      go_region
      all_goals (go_wp2; refine bodyPost_ret (by simp [results, Tryz.results50, go_sem, c0, c1, c2, c3]; try rfl) rfl ?_; exact ⟨by rw [ho]; rfl, hkk.drew⟩)
    rw [hlen] at HC ⊢
    go_wp2_with (go_at_call 71; refine HC.mono ?_)
    rintro e w9 ⟨rfl, e9⟩
    rw [e9]
    clear e9
    clear HC
    by_cases hct : Lib.containsS ps emp = true
    · rw [hos, if_pos (.inr hct)] at ho
      rw [hct]
      have n1 : (1 : Nat) ≠ w.heap.size := by have := h.env.low; omega
      have bad : V.drew.cell? ⟨1, 0, none⟩ = some (.iface bt bp) := hDD.env.bad
      obtain ⟨⟨c0, s0⟩, ⟨c1, s1⟩, ⟨c2, s2⟩, ⟨c3, s3⟩, fz0, fz1, fz2, fz3⟩ := zero_at hrr
      go_wp2
      go_region
      all_goals (go_wp2; refine bodyPost_ret (by simp [results, Tryz.results50, go_sem, c0, c1, c2, c3]; try rfl) rfl ?_; exact ⟨by rw [ho]; rfl, hkk.drew⟩)
    rw [hos, if_neg (by rintro (h | h); exact h hlen; exact hct h)] at ho
    clear hos
    rw [Bool.not_eq_true] at hct
    rw [hct]
    have hS := So.new hkk hDD hcc hrr hww hzz p0
    have p0c : V.cell? ⟨w.heap.size + 1, 0, none⟩ = some (.string p0) := by rw [hcc 0 (by omega), hp0e]
    clear hcc hDD hkk hrr hww
    go_wp2
    clear a0 a1 p0c
    generalize (V.alloc (.cells #[.string p0, .int .i64 0, .int .i64 0, .string emp] 117)) = U at hS ⊢
    refine wp_loop_rounds 2 ?_
    have HN := num_calls (ps.getD 1 emp) (hps 1) hS.dk.env
    have pc := hS.pc 1 (by omega)
    generalize ps.getD 1 emp = q0 at HN pc ho
    rw [rounds_succ]
    go_wp2_with (go_at_call 72; refine HN.mono ?_)
    rintro e U0 ⟨rfl, hb⟩
    have hS0 := hS.below hb
    obtain ⟨⟨c0, s0⟩, ⟨c1, s1⟩, ⟨c2, s2⟩, ⟨c3, s3⟩, fz0, fz1, fz2, fz3⟩ := zero_at hS0.rz
    have oc : U0.cell? ⟨w.heap.size + 3, 1, none⟩ = some (.int .i64 0) := by rw [Lib.cell_of_heap hS0.oo]; rfl
    have of : U0.frozen? ⟨w.heap.size + 3, 1, none⟩ = false := Lib.frozen_of_heap hS0.oo 1
    clear HN pc hS
    cases hn : numF q0.data.toList with
    | none =>
      have ho' : ordF s = none := by rw [ho, hn]; rfl
      simp only [hn, numV]
      go_wp2
      refine bodyPost_ret (by simp [results, Tryz.results50, go_sem, c0, c1, c2, c3]; try rfl) rfl ?_
      exact ⟨by rw [ho']; rfl, hS0.bl⟩
    | some x0 =>
    simp only [hn, numV]
    rw [hn] at ho
    clear c0 s0 c1 s1 c2 s2 c3 s3 fz0 fz1 fz2 fz3
    go_wp2
    have hS := hS0.put h.d_lt h.mb_lt 1 (.int .i64 x0) h.env.low rfl
    clear hS0 oc of hb
    generalize (U0.setCell ⟨w.heap.size + 3, 1, none⟩ (.int .i64 x0)) = U at hS ⊢
    have b1 : U.cell? ⟨w.heap.size + 2, 1, none⟩ = some (.int .i64 1) := by rw [Lib.cell_of_heap hS.ww]; rfl
    have b0 : U.cell? ⟨w.heap.size + 2, 0, none⟩ = some (.int .i64 1) := by rw [Lib.cell_of_heap hS.ww]; rfl
    rw [rounds_succ]
    have pc := hS.pc 2 (by omega)
    have oc : U.cell? ⟨w.heap.size + 3, 3, none⟩ = some (.string ⟨#[]⟩) := by rw [Lib.cell_of_heap hS.oo]; rfl
    have of : U.frozen? ⟨w.heap.size + 3, 3, none⟩ = false := Lib.frozen_of_heap hS.oo 3
    generalize ps.getD 2 emp = qw at pc ho
    have hS2 := hS.put h.d_lt h.mb_lt 3 (.string qw) h.env.low rfl
    obtain ⟨⟨c0, s0⟩, ⟨c1, s1⟩, ⟨c2, s2⟩, ⟨c3, s3⟩, fz0, fz1, fz2, fz3⟩ := zero_at hS.rz
    obtain ⟨o0, o1, o2, o3⟩ := four_at hS.oo
    go_wp2
    clear oc of pc b1 b0 hS
    clear c0 s0 c1 s1 c2 s2 c3 s3 fz0 fz1 fz2 fz3 o0 o1 o2 o3
    have hS := hS2
    generalize (U.setCell ⟨w.heap.size + 3, 3, none⟩ (.string qw)) = U at hS ⊢
    obtain ⟨hX, hb⟩ := hS.done (.string p0) (.int .i64 x0) (.int .i64 0) (.string qw)
    generalize ((((U.setCell ⟨w.heap.size, 0, none⟩ (.string p0)).setCell ⟨w.heap.size, 1, none⟩ (.int .i64 x0)).setCell ⟨w.heap.size, 2, none⟩ (.int .i64 0)).setCell ⟨w.heap.size, 3, none⟩ (.string qw)) = X at hX hb ⊢
    obtain ⟨c0, c1, c2, c3⟩ := four_at hX
    refine bodyPost_ret (by simp [results, Tryz.results50, go_sem, c0, c1, c2, c3]; try rfl) rfl ?_
    exact ⟨by rw [ho]; rfl, hb⟩)
/-- What a line asks for. -/
theorem order_calls (s : ByteArray) (hs : s.size ≤ 3000) {w : World} {bv : Value} {d tb mb : Nat} (h : Dk w bv d tb mb) :
    Calls Tryz.prog 50 #[.pointer (some ⟨d, 0, none⟩), .string s] w fun e w' => e = .returned (ordV bv (ordF s)) ∧ Below w.heap.size w w' := by
  obtain ⟨bt, bp, rfl⟩ := h.env.isB
  rcases wantF_cases ((partsF s).getD 0 emp).data.toList with hw | hw | hw | hw | hw
  · exact order_no s hs h hw
  · exact order_10 s hs h hw
  · exact order_00 s hs h hw
  · exact order_20 s hs h hw
  · exact order_11 s hs h hw
end Rn
end Go.Proofs.YtdokgalidhmbbaaGreatDoor
