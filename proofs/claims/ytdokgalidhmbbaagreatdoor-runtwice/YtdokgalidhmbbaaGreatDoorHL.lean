/- What the laws of package run need. -/
import Derived.Test.YtdokgalidhmbbaaGreatDoorHLK
import Derived.Test.YtdokgalidhmbbaaGreatDoorHEB
import Derived.Deep.RegionLaw
import Derived.Laws.ResultCell
import Derived.Lib.SliceRun
set_option linter.unusedVariables false
set_option linter.unusedSimpArgs false
set_option maxRecDepth 100000
set_option maxHeartbeats 8000000
namespace Go.Proofs.YtdokgalidhmbbaaGreatDoor.Lk
open Go.RowKit Go.Lib Go.Sort

theorem mixed : Tryz.prog.follows .mixedOrders = true := by kernel_rfl
def Cells (w : World) (b off : Nat) (zs : List LR) : Prop := ∀ j, j < zs.length → w.cell? ⟨b, off + j * 2, none⟩ = some (.int .i64 (at' zs j).1) ∧ w.cell? ⟨b, off + j * 2 + 1, none⟩ = some (.string (at' zs j).2)
theorem Cells.below {w w' : World} {b off : Nat} {zs : List LR} (h : Cells w b off zs) (hb : b < w.heap.size) (bel : Below w.heap.size w w') : Cells w' b off zs := fun j hj =>
  ⟨(bel.cell (p := ⟨b, off + j * 2, none⟩) hb).trans (h j hj).1, (bel.cell (p := ⟨b, off + j * 2 + 1, none⟩) hb).trans (h j hj).2⟩
def encR (x : LR) : List Value := [.int .i64 x.1, .string x.2]
def flat (zs : List LR) : List Value := zs.flatMap encR
theorem flat_length (zs : List LR) : (flat zs).length = zs.length * 2 := by
  induction zs with
  | nil => rfl
  | cons r rs ih => simp only [flat, List.flatMap_cons, List.length_append] at *; rw [ih]; simp [encR]; omega
theorem flat_append (a b : List LR) : flat (a ++ b) = flat a ++ flat b := by simp [flat]
theorem flat_get : ∀ (zs : List LR) (j : Nat), j < zs.length → (flat zs)[j * 2]? = some (.int .i64 (at' zs j).1) ∧ (flat zs)[j * 2 + 1]? = some (.string (at' zs j).2)
  | [], j, h => by simp at h
  | r :: rs, 0, _ => by simp [flat, encR, at']
  | r :: rs, j + 1, h => by
    have i := flat_get rs j (by simpa using h)
    have e1 : (j + 1) * 2 = j * 2 + 1 + 1 := by omega
    have e2 : flat (r :: rs) = .int .i64 r.1 :: .string r.2 :: flat rs := rfl
    have e3 : at' (r :: rs) (j + 1) = at' rs j := by simp [at']
    rw [e1, e2, e3]
    simpa using i
theorem flat_one {zs : List LR} : ∀ u, u ∈ flat zs → u.oneCell' = true := by
  intro u hu
  simp only [flat, List.mem_flatMap] at hu
  obtain ⟨r, _, h⟩ := hu
  simp [encR] at h
  rcases h with rfl | rfl <;> rfl
theorem flat_cells {w : World} {b off : Nat} {zs : List LR} (h : Cells w b off zs) (j : Nat) (u : Value) (hu : (flat zs)[j]? = some u) : w.cell? ((⟨b, off, none⟩ : Addr).add j) = some u := by
  have hl : j < (flat zs).length := (List.getElem?_eq_some_iff.1 hu).1
  rw [flat_length] at hl
  have hq : j / 2 < zs.length := by omega
  have g := flat_get zs (j / 2) hq
  have c := h (j / 2) hq
  rcases (show j = j / 2 * 2 ∨ j = j / 2 * 2 + 1 by omega) with e | e
  · rw [e] at hu ⊢
    rw [g.1] at hu
    rw [Addr.add_lit, ← hu]; exact c.1
  · rw [e] at hu ⊢
    rw [g.2] at hu
    rw [Addr.add_lit, ← hu, ← Nat.add_assoc]; exact c.2
theorem infoR : (Tryz.prog.info? 212).map (fun i => (i.zero, i.size, i.bytes)) = some (some (.agg #[.int .i64 0, .string ⟨#[]⟩]), 2, 24) := by kernel_rfl
theorem cells_of_own {w : World} {T base g n m cap : Nat} {zs : List LR} (h : w.ownsRow base T 2 (.slice (some ⟨g, 0, none⟩) m cap) n (flat zs)) : Cells w g 0 zs := by
  intro j hj
  have f := flat_get zs j hj
  have c0 := h.cells (g := g) rfl _ _ f.1
  have c1 := h.cells (g := g) rfl _ _ f.2
  rw [Addr.add_lit] at c0 c1
  exact ⟨c0, by rw [← Nat.add_assoc] at c1; exact c1⟩
theorem below_drewN {B : Nat} {a w : World} (h : Below B a w) (q : Nat) : Below B a (w.drewN q) := ⟨h.os, h.tape, h.output, h.size, h.block⟩
theorem own_shape {w : World} {B e size n : Nat} {v : Value} {xs : List Value} (h : w.ownsRow B e size v n xs) (h0 : 0 < n) : ∃ g cap, v = .slice (some ⟨g, 0, none⟩) n cap := by
  rcases h.2 with ⟨_, e⟩ | ⟨g, cap, cur, e, _⟩
  · omega
  · exact ⟨g, cap, e⟩
theorem own_any {w : World} {B e size n : Nat} {v : Value} {xs : List Value} (h : w.ownsRow B e size v n xs) : ∃ a cap, v = .slice a n cap := by
  rcases h.2 with ⟨rfl, e⟩ | ⟨g, cap, cur, rfl, _⟩
  · exact ⟨none, 0, by rw [e]⟩
  · exact ⟨_, _, rfl⟩
theorem offSets {K : Nat → Prop} {g : Nat} (hK : K g) {w : World} : ∀ (vs : List Value) (o : Nat) {w' : World}, Off K w w' → Off K w (w'.setCells g o vs)
  | [], o, w', h => h
  | v :: vs, o, w', h => offSets hK vs (o + 1) (h.setCell (a := ⟨g, o, none⟩) hK v)
theorem cells_two_new (w : World) (q : Int) (n : ByteArray) (t : TypeId) : ∀ j u, (flat [(q, n)])[j]? = some u → (w.alloc (.cells #[.int .i64 q, .string n] t)).cell? ((⟨w.heap.size, 0, none⟩ : Addr).add j) = some u := by
  intro j u hj
  match j, hj with
  | 0, hj => simp [flat, encR] at hj; subst hj; simp [Addr.add]
  | 1, hj => simp [flat, encR] at hj; subst hj; simp [Addr.add]
  | j + 2, hj => simp [flat, encR] at hj
/-- append onto a slice of the caller's own, as one step of a region that draws. -/
theorem step_append_own {P : Program} {ops : Array Oper} {o : Oper} {a : Act} {w : World} {K : Act → World → Prop} {Q : Exit → Act → World → Prop} {E : Prop}
    (hg : o.guard = none) (s x : Operand) (t : TypeId) (hop : o.op = Op.call { callee := Callee.builtin Builtin.append, args := #[s, x], argTypes := #[t, t] })
    (base : Nat) (e : TypeId) (i : TypeInfo) (z : Value) (size bytes : Nat) (h1 : P.underlying t = some (.slice e)) (h2 : P.info? e = some i) (h3 : i.zero = some z) (h4 : i.size = size) (h5 : i.bytes = bytes) (h6 : z.cells.size = size) (h7 : 0 < size)
    (v : Value) (n : Nat) (xs : List Value) (hs : a.eval s = v) (hown : w.ownsRow base e size v n xs)
    (ad : Addr) (m c : Nat) (news : List Value) (hx : a.eval x = .slice (some ad) m c) (hn : news.length = m * size) (hc : ∀ j u, news[j]? = some u → w.cell? (ad.add j) = some u) (h1c : ∀ u ∈ news, u.oneCell' = true)
    (b1 : n + m ≤ maxLen) (b2 : (n + m) * bytes ≤ 140737488355328) (hbase : base ≤ w.heap.size)
    (hK : ∀ v' w', w'.ownsRow base e size v' (n + m) (xs ++ news) → w.grownBy w' v.ownBlock → (v'.ownBlock = v.ownBlock ∨ v'.ownBlock = some w.heap.size) → K (a.put o.dst v') w') :
    if Region.wanted o (yielded ops a.tmps) = true then Oper.wp P o a w K Q else E := by
  have hw : Region.wanted o (yielded ops a.tmps) = true := by simp [Region.wanted, hg]
  rw [if_pos hw]
  obtain ⟨v', w', hrun, r1, r2, _, r4⟩ := run_append_own_at (P := P) w base t o.type e i z size bytes h1 h2 h3 h4 h5 h6 h7 v n xs hown ad m c news hn hc h1c b1 b2 hbase
  unfold Oper.wp
  simp [execOp, hop, resolve, invoke, builtin, hs, hx, hrun, Result.andThen]
  exact hK v' w' r1 r2 r4

theorem cell_blk {w w' : World} {b i : Nat} (h : w'.heap[b]? = w.heap[b]?) : w'.cell? ⟨b, i, none⟩ = w.cell? ⟨b, i, none⟩ := by unfold World.cell?; rw [h]
def own (sb : Nat) (v : Value) (k : Nat) : Prop := k = sb ∨ v.ownBlock = some k
/-- The cell o of the block sb holds a slice of letters (of the type T), that is its own. -/
structure Lnk (Q : Nat → Option Value) (w : World) (T o B sb : Nat) (v : Value) (ls : List LR) : Prop where
  inv : Inv ls
  c : w.cell? ⟨sb, o, none⟩ = some v
  f : w.frozen? ⟨sb, o, none⟩ = false
  row : w.ownsRow B T 2 v ls.length (flat ls)
  hs : B ≤ sb
  nv : ∀ k, v.ownBlock = some k → k ≠ sb
  rs : ∀ i, i ≠ o → w.cell? ⟨sb, i, none⟩ = Q i
  rf : ∀ i, w.frozen? ⟨sb, i, none⟩ = false
section
variable {Q : Nat → Option Value}
variable {w w' w2 : World} {T o B sb : Nat} {v v' : Value} {ls ls' : List LR}
theorem Lnk.lt (h : Lnk Q w T o B sb v ls) {k : Nat} (hk : own sb v k) : k < w.heap.size := by
  rcases hk with rfl | hk
  · exact World.block_lt_of_cell? w _ h.c
  · exact (h.row.lt k hk).2
theorem Lnk.le (h : Lnk Q w T o B sb v ls) : B ≤ w.heap.size := by have := h.hs; have := h.lt (k := sb) (.inl rfl); omega
theorem Lnk.off {K : Nat → Prop} (h : Lnk Q w T o B sb v ls) (ho : Off K w w') (hK : ∀ k, own sb v k → ¬ K k) : Lnk Q w' T o B sb v ls :=
  have ks := hK sb (.inl rfl)
  ⟨h.inv, ho.cell h.c ks, (ho.frozen (p := ⟨sb, o, none⟩) (h.lt (.inl rfl)) ks).trans h.f, ho.row h.row (fun k e => hK k (.inr e)), h.hs, h.nv, fun i hi => (cell_blk (ho.block sb (h.lt (.inl rfl)) ks)).trans (h.rs i hi), fun i => (ho.frozen (p := ⟨sb, i, none⟩) (h.lt (.inl rfl)) ks).trans (h.rf i)⟩
theorem Lnk.below (h : Lnk Q w T o B sb v ls) (hb : Below w.heap.size w w') : Lnk Q w' T o B sb v ls := h.off (Off.of_below (K := fun _ => False) hb) (fun _ _ => id)
theorem Lnk.shape (h : Lnk Q w T o B sb v ls) : ∃ a c, v = .slice a ls.length c := own_any h.row
/-- The slice is put anew. -/
theorem Lnk.put (h : Lnk Q w T o B sb v ls) (ho : Off (fun k => v.ownBlock = some k) w w2) (hr : w2.ownsRow B T 2 v' ls'.length (flat ls')) (hv : ∀ k, v'.ownBlock = some k → v.ownBlock = some k ∨ w.heap.size ≤ k) (inv : Inv ls') : Lnk Q (w2.setCell ⟨sb, o, none⟩ v') T o B sb v' ls' := by
  have hsb := h.lt (k := sb) (.inl rfl)
  have ns1 : ¬ v.ownBlock = some sb := fun e => h.nv sb e rfl
  have nv : ∀ k, v'.ownBlock = some k → k ≠ sb := fun k hk => by
    rcases hv k hk with e | e
    · exact h.nv k e
    · omega
  have o2 : Off (fun k => k = sb) w2 (w2.setCell ⟨sb, o, none⟩ v') := (Off.refl _ _).setCell (K := fun k => k = sb) rfl _
  refine ⟨inv, ?_, ?_, o2.row hr (fun k hk => nv k hk), h.hs, nv, fun i hi => ?_, fun i => ?_⟩
  · exact World.cell?_setCell_same _ _ _ (ho.cell h.c ns1)
  · rw [World.frozen?_setCell]; exact (ho.frozen (p := ⟨sb, o, none⟩) hsb ns1).trans h.f
  · rw [World.cell?_setCell_other _ _ _ _ (fun e' => by injection e' with _ e' _; exact hi e'.symm)]
    exact (cell_blk (ho.block sb hsb ns1)).trans (h.rs i hi)
  · rw [World.frozen?_setCell]; exact (ho.frozen (p := ⟨sb, i, none⟩) hsb ns1).trans (h.rf i)
/-- Where the letters lie, if there are any. -/
theorem Lnk.rows {n cap : Nat} {a : Option Addr} (h : Lnk Q w T o B sb (.slice a n cap) ls) (h0 : 0 < ls.length) : ∃ g cur, a = some ⟨g, 0, none⟩ ∧ n = ls.length ∧ B ≤ g ∧ g < w.heap.size ∧ g ≠ sb ∧ w.heap[g]? = some (.cells cur T (0, 0)) ∧ ls.length ≤ cap ∧ cap ≤ maxLen ∧ cur.size = cap * 2 ∧ Cells w g 0 ls := by
  have hrow := h.row
  rcases h.row.2 with ⟨_, e⟩ | ⟨g, cap', cur, e, h1, h2, h3, h4, h5, _⟩
  · omega
  · injection e with e1 e2 e3
    subst e1; subst e2; subst e3
    exact ⟨g, cur, rfl, rfl, h1, (Array.getElem?_eq_some_iff.1 h2).1, h.nv g rfl, h2, h3, h4, h5, cells_of_own hrow⟩
end
/-- The letters in sb are now ls; all else is as it was. -/
def Turn (Q : Nat → Option Value) (w w' : World) (T o B sb : Nat) (v : Value) (ls : List LR) : Prop := ∃ v', Lnk Q w' T o B sb v' ls ∧ Off (own sb v) w w' ∧ ∀ k, v'.ownBlock = some k → v.ownBlock = some k ∨ w.heap.size ≤ k
variable {Q : Nat → Option Value}
theorem Turn.same {w : World} {T o B sb : Nat} {v : Value} {ls : List LR} (h : Lnk Q w T o B sb v ls) : Turn Q w w T o B sb v ls := ⟨v, h, Off.refl _ _, fun k hk => .inl hk⟩
/-- Behind more that is new. -/
theorem Turn.more {w w' w2 : World} {T o B sb : Nat} {v : Value} {ls : List LR} (h : Turn Q w w' T o B sb v ls) (hb : Below w'.heap.size w' w2) : Turn Q w w2 T o B sb v ls := by
  obtain ⟨v', h1, h2, h3⟩ := h
  exact ⟨v', h1.below hb, h2.trans (Off.of_below hb), h3⟩

set_option maxRecDepth 100000 in
set_option maxHeartbeats 2000000 in
theorem isEnd_calls (n : Int) (w : World) : Calls Tryz.prog 122 #[.int .i64 n] w fun e w' => e = .returned (.bool (endB n)) ∧ w' = w := by
  by_cases h1 : n = 0
  · subst h1
    go_enter Tryz.func122, Tryz.ntmps122
    go_wp2
    go_ret
    exact ⟨rfl, rfl⟩
  · go_enter Tryz.func122, Tryz.ntmps122
    go_wp2
    go_ret
    exact ⟨by by_cases h2 : n = 1 <;> simp [endB, h1, h2], rfl⟩
set_option maxRecDepth 100000 in
set_option maxHeartbeats 2000000 in
theorem count_calls {w : World} {B sb : Nat} {v : Value} {ls : List LR} (h : Lnk Q w 212 502 B sb v ls) : Calls Tryz.prog 97 #[.pointer (some ⟨sb, 502, none⟩)] w fun e w' => e = .returned (.int .i64 (ls.length : Int)) ∧ w' = w := by
  obtain ⟨a, c, rfl⟩ := h.shape
  have c0 := h.c
  clear h
  generalize ls.length = m at *
  go_enter Tryz.func97, Tryz.ntmps97
  go_wp2
  go_ret
  exact ⟨rfl, rfl⟩
set_option maxRecDepth 100000 in
set_option maxHeartbeats 2000000 in
theorem isOnWay_calls {w : World} {B sb : Nat} {v : Value} {ls : List LR} (h : Lnk Q w 212 502 B sb v ls) (i : Int) : Calls Tryz.prog 129 #[.pointer (some ⟨sb, 502, none⟩), .int .i64 i] w fun e w' => e = .returned (.bool (onB ls i)) ∧ w' = w := by
  obtain ⟨a, c, rfl⟩ := h.shape
  have c0 := h.c
  have e : Hid (onB ls i = decide (0 ≤ i ∧ i < (ls.length : Int))) := rfl
  clear h
  generalize ls.length = m at *
  by_cases h1 : 0 ≤ i
  · go_enter Tryz.func129, Tryz.ntmps129
    go_wp2
    go_ret
    exact ⟨by rw [e.out]; simp [h1], rfl⟩
  · go_enter Tryz.func129, Tryz.ntmps129
    go_wp2
    go_ret
    exact ⟨by rw [e.out]; simp; omega, rfl⟩


theorem str_nil {d : ByteArray} (h : d.size = 0) : d = { data := #[] } := by
  obtain ⟨⟨l⟩⟩ := d
  cases l with
  | nil => rfl
  | cons b l => exact absurd h (by show l.length + 1 ≠ 0; omega)
theorem infoB : (Tryz.prog.info? 5).map (fun i => (i.zero, i.size, i.bytes)) = some (some (.int .u8 0), 1, 1) := by kernel_rfl
set_option maxRecDepth 100000 in
set_option maxHeartbeats 2000000 in
theorem clonel_calls (s : ByteArray) (w : World) (hs : s.size ≤ 200) : Calls Tryz.prog 149 #[.string s] w fun e w' => e = .returned (.string s) ∧ Below w.heap.size w w' := by
  by_cases h0 : s.size = 0
  · obtain rfl := str_nil h0
    go_enter Tryz.func149, Tryz.ntmps149
    go_wp2
    go_ret
    exact ⟨rfl, Below.refl _ _⟩
  · obtain ⟨i0, hi, hz0, hz1, hz2⟩ := info_parts infoB
    have hinfo : (Tryz.prog.info? 5).map (·.size) = some 1 := by rw [hi]; simp [hz1]
    have hco : Tryz.prog.cellsOf 5 = 1 := by simp [Program.cellsOf, hi, hz1]
    -- the row that make lays, by a name of its own
    obtain ⟨M, hM⟩ : ∃ M, M = madeCells (Value.int .u8 0).cells (((s.size : Nat) : Int).toNat * i0.size) := ⟨_, rfl⟩
    have hMs : M.size = s.size := by rw [hM, size_madeCells, hz1]; simp
    have hmk : ∀ W : World, (Instr.makeSlice 37 (.int .i64 (s.size : Int)) (.int .i64 (s.size : Int))).run Tryz.prog W = .ok (.slice (some ⟨W.heap.size, 0, none⟩) s.size s.size) (W.alloc (.cells M 5)) := fun W => by
      have h := run_make (P := Tryz.prog) W 37 5 i0 (.int .u8 0) Tryz.underlying37 hi hz0 .i64 .i64 (s.size : Int) (s.size : Int) (by omega) (by omega) (by rw [hz2]; omega) (by omega)
      rw [← hM] at h
      simpa using h
    clear hM
    have hcp := Lib.run_copy_row_string (P := Tryz.prog) (w.alloc (.cells M 5)) 37 9 3 5 w.heap.size 0 s.size s.size s M 5 Tryz.underlying37 hinfo (heap_alloc_new w _) (Nat.le_refl _) (by omega)
    obtain ⟨Y, hY⟩ : ∃ Y, Y = (M.toList.take 0 ++ Lib.byteCells s.data.toList ++ M.toList.drop (0 + s.size)).toArray := ⟨_, rfl⟩
    rw [← hY] at hcp
    have hYl : Y.toList = Lib.byteCells s.data.toList := by
      rw [hY, List.toList_toArray, List.take_zero, List.nil_append, List.drop_of_length_le (by rw [Array.length_toList]; omega), List.append_nil]
    have hgY : ((w.alloc (.cells M 5)).setRow w.heap.size Y).heap[w.heap.size]? = some (.cells Y 5 (0, 0)) := setRow_heap _ _ M _ 5 (0, 0) (heap_alloc_new w _)
    have hne : s.data.toList ≠ [] := fun e => h0 (by rw [Lib.size_eq, e]; rfl)
    have hYs : Y.size = s.size := by rw [← Array.length_toList, hYl, Lib.byteCells_length, ← Lib.size_eq]
    have hUS := Lib.run_unsafeString_row (P := Tryz.prog) ((w.alloc (.cells M 5)).setRow w.heap.size Y) 80 3 9 5 Tryz.underlying80 hco w.heap.size Y.size (by unfold World.shape?; rw [hgY]) s.data.toList hne (by rw [← Lib.size_eq]; omega) (by rw [← Lib.size_eq]; omega)
      (fun j x hx => Lib.cells_of_row hgY Y.size j _ (by rw [List.take_of_length_le (by rw [Array.length_toList]; exact Nat.le_refl _), hYl]; simp [Lib.byteCells, hx]))
    rw [← Lib.size_eq] at hUS
    clear hY
    go_enter Tryz.func149, Tryz.ntmps149
    go_wp2
    go_ret
    have hb1 : Below w.heap.size w (w.alloc (.cells M 5)) := (Below.refl _ w).alloc (Nat.le_refl _) _
    have hb2 : Below w.heap.size (w.alloc (.cells M 5)) ((w.alloc (.cells M 5)).setRow w.heap.size Y) := ⟨rfl, rfl, rfl, by simp, fun k hk => setRow_other _ _ _ _ (by omega)⟩
    exact ⟨rfl, Lib.below_freeze (hb1.trans hb2) (p := ⟨w.heap.size, 0, none⟩) (Nat.le_refl _) _⟩
set_option maxRecDepth 100000 in
set_option maxHeartbeats 2000000 in
theorem clone_calls (s : ByteArray) (w : World) (hs : s.size ≤ 200) : Calls Tryz.prog 123 #[.string s] w fun e w' => e = .returned (.string s) ∧ Below w.heap.size w w' := by
  have HC := clonel_calls s w hs
  clear hs
  go_enter Tryz.func123, Tryz.ntmps123
  go_wp2_with (go_at_call 149; refine HC.mono ?_; rintro e w' ⟨rfl, hb1⟩)
  go_ret
  exact ⟨rfl, hb1⟩

set_option maxRecDepth 100000 in
set_option maxHeartbeats 2000000 in
theorem send_range {w : World} {B sb : Nat} {v : Value} {ls : List LR} (h : Lnk Q w 212 502 B sb v ls) (rcp : Int) (b : ByteArray) (hb : b.size ≤ 140737488351232) (hq : endB rcp = false) : Calls Tryz.prog 98 #[.pointer (some ⟨sb, 502, none⟩), .int .i64 rcp, .string b] w fun e w' => e = .returned (.iface 133 (.int .i64 1)) ∧ w' = w := by
  obtain ⟨a, c, rfl⟩ := h.shape
  have c0 := h.c
  clear h
  generalize ls.length = m at *
  generalize hz : b.size = z at *
  go_enter Tryz.func98, Tryz.ntmps98
  go_wp2_with (go_at_call 122; refine (isEnd_calls rcp _).mono ?_; rintro e w1 ⟨rfl, hw1⟩; rw [hq, hw1]; clear hw1 w1)
  go_ret
  exact ⟨rfl, rfl⟩

set_option maxRecDepth 100000 in
set_option maxHeartbeats 2000000 in
theorem send_full {w : World} {B sb : Nat} {v : Value} {ls : List LR} (h : Lnk Q w 212 502 B sb v ls) (rcp : Int) (b : ByteArray) (hb : b.size ≤ 140737488351232) (hq : endB rcp = true) (h1 : 40 ≤ (ls.length : Int)) : Calls Tryz.prog 98 #[.pointer (some ⟨sb, 502, none⟩), .int .i64 rcp, .string b] w fun e w' => e = .returned (.iface 133 (.int .i64 4)) ∧ w' = w := by
  obtain ⟨a, c, rfl⟩ := h.shape
  have c0 := h.c
  clear h
  generalize ls.length = m at *
  generalize hz : b.size = z at *
  go_enter Tryz.func98, Tryz.ntmps98
  go_wp2_with (go_at_call 122; refine (isEnd_calls rcp _).mono ?_; rintro e w1 ⟨rfl, hw1⟩; rw [hq, hw1]; clear hw1 w1)
  go_ret
  exact ⟨rfl, rfl⟩

set_option maxRecDepth 100000 in
set_option maxHeartbeats 2000000 in
theorem send_long {w : World} {B sb : Nat} {v : Value} {ls : List LR} (h : Lnk Q w 212 502 B sb v ls) (rcp : Int) (b : ByteArray) (hb : b.size ≤ 140737488351232) (hq : endB rcp = true) (h1 : (ls.length : Int) < 40) (h2 : 200 < (b.size : Int)) : Calls Tryz.prog 98 #[.pointer (some ⟨sb, 502, none⟩), .int .i64 rcp, .string b] w fun e w' => e = .returned (.iface 133 (.int .i64 4)) ∧ w' = w := by
  obtain ⟨a, c, rfl⟩ := h.shape
  have c0 := h.c
  clear h
  generalize ls.length = m at *
  generalize hz : b.size = z at *
  go_enter Tryz.func98, Tryz.ntmps98
  go_wp2_with (go_at_call 122; refine (isEnd_calls rcp _).mono ?_; rintro e w1 ⟨rfl, hw1⟩; rw [hq, hw1]; clear hw1 w1)
  go_ret
  exact ⟨rfl, rfl⟩

set_option maxRecDepth 100000 in
set_option maxHeartbeats 2000000 in
theorem send_yes {w : World} {B sb : Nat} {v : Value} {ls : List LR} (h : Lnk Q w 212 502 B sb v ls) (rcp : Int) (b : ByteArray) (hb : b.size ≤ 140737488351232) (hq : endB rcp = true) (h1 : ls.length < 40) (h2 : b.size ≤ 200) : Calls Tryz.prog 98 #[.pointer (some ⟨sb, 502, none⟩), .int .i64 rcp, .string b] w fun e w' => e = .returned .nilIface ∧ Turn Q w w' 212 502 B sb v (ls ++ [(rcp, b)]) := by
  obtain ⟨a, c, rfl⟩ := h.shape
  have c0 := h.c
  have hsb := h.lt (k := sb) (.inl rfl)
  have g1 : (ls.length : Int) < 40 := by omega
  have g2 : ¬ (200 : Int) < (b.size : Int) := by omega
  have HI : Hid (Inv (ls ++ [(rcp, b)])) := h.inv.add hq h1 h2
  have LSL : Hid ((ls ++ [(rcp, b)]).length = ls.length + 1) := by show (ls ++ [(rcp, b)]).length = ls.length + 1; simp
  have FL : Hid (flat (ls ++ [(rcp, b)]) = flat ls ++ flat [(rcp, b)]) := flat_append _ _
  have HCL := clone_calls b w.drew h2
  have HL : Hid (Lnk Q w 212 502 B sb (.slice a ls.length c) ls) := h
  have H1 : Hid (ls.length < 40) := h1
  clear h h1 h2
  obtain ⟨i0, hi0, hz0, hz1, hz2⟩ := info_parts infoR
  go_enter Tryz.func98, Tryz.ntmps98
  go_wp2_with (go_at_call 122; refine (isEnd_calls rcp _).mono ?_; rintro e w1 ⟨rfl, hw1⟩; rw [hq, hw1]; clear hw1 w1)
  go_region_law (first | (refine step_append_own rfl (.tmp 27) (.tmp 32) 91 rfl B 212 i0 _ 2 24 Tryz.underlying91 hi0 hz0 hz1 hz2 rfl (by decide) (.slice a ls.length c) ls.length (flat ls) (by simp [Act.eval, Act.put]) hrow ⟨w1.heap.size, 0, none⟩ 1 1 (flat [(rcp, b)]) (by simp [Act.eval, Act.put]) rfl (cells_two_new w1 _ _ _) (fun u hu => flat_one u hu) (by have := H1.out; unfold maxLen; omega) (by have := H1.out; omega) hL2.le ?_; intro v' w3 ho3 hg3 hl3; obtain ⟨g3, cap3, rfl⟩ := own_shape ho3 (by omega); have og := Off.of_grown (K := fun k => (Value.slice a ls.length c).ownBlock = some k) hg3 (fun k e => e); have d2 := og.cell hL2.c (fun e => hL2.nv sb e rfl); have df := (og.frozen (p := ⟨sb, 502, none⟩) (hL2.lt (.inl rfl)) (fun e => hL2.nv sb e rfl)).trans hL2.f) | (go_simp; go_wp2_with (go_at_call 123; refine HCL.mono ?_; rintro e w1 ⟨rfl, hb1⟩; have hbw : Below w.heap.size w w1 := (Below.refl _ w).drew.trans hb1; have hL1 := HL.out.below hbw; have c1 := hL1.c; have bd : Below w1.heap.size w1 (w1.alloc (.cells #[.int .i64 rcp, .string b] 212)) := (Below.refl _ _).alloc (Nat.le_refl _) _; have hL2 := hL1.below bd; have c2 := hL2.c; have hrow := hL2.row)))
  all_goals (try go_wp2_with fail)
  all_goals go_ret
  all_goals
    have ow : Off (fun k => (Value.slice a ls.length c).ownBlock = some k) w w3 := ((Off.of_below hbw).trans (Off.of_below bd)).trans og
    have hnew : ∀ k, (Value.slice (some ⟨g3, 0, none⟩) (ls.length + 1) cap3).ownBlock = some k → (Value.slice a ls.length c).ownBlock = some k ∨ w.heap.size ≤ k := fun k hk => by
      rcases hl3 with e | e
      · exact .inl (e.symm.trans hk)
      · right
        have e2 : k = (w1.alloc (.cells #[.int .i64 rcp, .string b] 212)).heap.size := Option.some.inj (hk.symm.trans e)
        have := hbw.size
        have := bd.size
        omega
    exact ⟨rfl, _, HL.out.put ow (v' := .slice (some ⟨g3, 0, none⟩) (ls.length + 1) cap3) (by rw [LSL.out, FL.out]; exact ho3) hnew HI.out, (ow.mono (fun k _ e => .inr e)).setCell (.inl rfl) _, hnew⟩
theorem send_calls {w : World} {B sb : Nat} {v : Value} {ls : List LR} (h : Lnk Q w 212 502 B sb v ls) (rcp : Int) (b : ByteArray) (hb : b.size ≤ 140737488351232) : Calls Tryz.prog 98 #[.pointer (some ⟨sb, 502, none⟩), .int .i64 rcp, .string b] w fun e w' => e = .returned (errV (sendF ls rcp b)) ∧ Turn Q w w' 212 502 B sb v (sendS ls rcp b) := by
  rcases sendF_cases ls rcp b with ⟨e, hq⟩ | ⟨e, hq, h1⟩ | ⟨e, hq, h1, h2⟩
  · rw [sendS_no (by rw [e]; decide), e, errV_f (by decide)]
    exact (send_range h rcp b hb hq).mono fun e w' ⟨h1, h2⟩ => ⟨h1, by rw [h2]; exact Turn.same h⟩
  · rw [sendS_no (by rw [e]; decide), e, errV_f (by decide)]
    rcases h1 with h1 | ⟨h1, h2⟩
    · exact (send_full h rcp b hb hq (by omega)).mono fun e w' ⟨h1, h2⟩ => ⟨h1, by rw [h2]; exact Turn.same h⟩
    · exact (send_long h rcp b hb hq (by omega) (by omega)).mono fun e w' ⟨h1, h2⟩ => ⟨h1, by rw [h2]; exact Turn.same h⟩
  · rw [sendS_yes e, e, errV_0]
    exact send_yes h rcp b hb hq h1 h2

theorem zeroLtr (w : World) : (zeroValue 212).run Tryz.prog w = .ok (.agg #[.int .i64 0, .string ⟨#[]⟩]) w := by kernel_rfl
/-- clear of a slice of one letter. -/
theorem clear_one (W : World) (ty : TypeId) (g o c : Nat) (h0 : (W.cell? ⟨g, o, none⟩).isSome = true) (h1 : (W.cell? ⟨g, o + 1, none⟩).isSome = true) (f0 : W.frozen? ⟨g, o, none⟩ = false) (f1 : W.frozen? ⟨g, o + 1, none⟩ = false) :
    (Builtin.clear_ #[91] ty #[.slice (some ⟨g, o, none⟩) 1 c]).run Tryz.prog W = .ok (.tuple #[]) (W.setCells g o [.int .i64 0, .string ⟨#[]⟩]) := by
  have hst := run_storeCells_cells (P := Tryz.prog) g o [.int .i64 0, .string ⟨#[]⟩] 0 W (fun j hj => by
      match j, hj with
      | 0, _ => exact h0
      | 1, _ => exact h1
      | j + 2, hj => simp at hj; omega) (fun j hj => by
      match j, hj with
      | 0, _ => exact f0
      | 1, _ => exact f1
      | j + 2, hj => simp at hj; omega) (by intro v hv; simp at hv; rcases hv with rfl | rfl <;> rfl)
  simp only [Nat.add_zero] at hst
  have hzc : (Builtin.zeroCells (Value.agg #[.int .i64 0, .string ⟨#[]⟩]).cells 1).toList = [.int .i64 0, .string ⟨#[]⟩] := by kernel_rfl
  simp [Builtin.clear_, run_underlying Tryz.underlying91, zeroLtr, hzc, hst]
/-- The cells behind the place p. -/
def moved (zs : List LR) (p : Nat) : List Value := flat (zs.drop (p + 1))
theorem moved_length {zs : List LR} {p : Nat} : (moved zs p).length = (zs.length - (p + 1)) * 2 := by rw [moved, flat_length, List.length_drop]
theorem heap_setCells {g : Nat} {e : TypeId} : ∀ (vs : List Value) (o : Nat) (w : World) (cur : Array Value), w.heap[g]? = some (.cells cur e (0, 0)) → ∃ cur', (w.setCells g o vs).heap[g]? = some (.cells cur' e (0, 0)) ∧ cur'.size = cur.size
  | [], o, w, cur, h => ⟨cur, h, rfl⟩
  | v :: vs, o, w, cur, h => by
    have h1 : ∃ cur', (w.setCell ⟨g, o, none⟩ v).heap[g]? = some (.cells cur' e (0, 0)) ∧ cur'.size = cur.size := by
      have hg := (Array.getElem?_eq_some_iff.1 h).1
      simp only [World.setCell, Array.getElem?_modify, h]
      simp
    obtain ⟨cur1, h2, h3⟩ := h1
    obtain ⟨cur2, h4, h5⟩ := heap_setCells vs (o + 1) (w.setCell ⟨g, o, none⟩ v) cur1 h2
    exact ⟨cur2, h4, h5.trans h3⟩
theorem own_of_cells {w : World} {B g n cap : Nat} {e : TypeId} {cur : Array Value} {xs : List Value} (hB : B ≤ g) (hg : w.heap[g]? = some (.cells cur e (0, 0))) (hnc : n ≤ cap) (hm : cap ≤ maxLen) (hs : cur.size = cap * 2) (hl : xs.length = n * 2)
    (hc : ∀ j u, xs[j]? = some u → w.cell? ⟨g, j, none⟩ = some u) : w.ownsRow B e 2 (.slice (some ⟨g, 0, none⟩) n cap) n xs := by
  refine ⟨hl, .inr ⟨g, cap, cur, rfl, hB, hg, hnc, hm, hs, ?_⟩⟩
  refine List.ext_getElem? fun j => ?_
  by_cases hj : j < n * 2
  · rw [List.getElem?_take_of_lt hj]
    have hx : xs[j]? = some xs[j] := List.getElem?_eq_getElem (by omega)
    have := hc j _ hx
    rw [hx]
    simpa [World.cell?, hg] using this
  · rw [List.getElem?_eq_none (by simp; omega), List.getElem?_eq_none (by omega)]
set_option maxRecDepth 100000 in
set_option maxHeartbeats 2000000 in
theorem delete_calls (g n cap p B : Nat) (cur : Array Value) (zs : List LR) (w : World) (hB : B ≤ g) (hg : w.heap[g]? = some (.cells cur 212 (0, 0))) (hnc : n ≤ cap) (hm : cap ≤ maxLen) (hs : cur.size = cap * 2) (hl : zs.length = n) (hc : Cells w g 0 zs) (hp : p < n) :
    Calls Tryz.prog 130 #[.slice (some ⟨g, 0, none⟩) n cap, .int .i64 (p : Int), .int .i64 ((p : Int) + 1)] w fun e w' => e = .returned (.slice (some ⟨g, 0, none⟩) (n - 1) cap) ∧ w'.ownsRow B 212 2 (.slice (some ⟨g, 0, none⟩) (n - 1) cap) (n - 1) (flat (cut1 zs p)) ∧ Off (fun k => k = g) w w' := by
  have hM : cap ≤ 9223372036854775807 := by unfold maxLen at hm; omega
  have hic : p ≤ cap := by omega
  have hp0 : (0 : Int) ≤ (p : Int) + 1 := by omega
  have hp1 : (p : Int) + 1 ≤ (n : Int) := by omega
  have hp2 : ((p : Int) + 1).toNat = p + 1 := by omega
  have hp3 : (p : Int) + 1 ≤ (cap : Int) := by omega
  have hp4 : ((p : Int) == (p : Int) + 1) = false := by simp <;> omega
  obtain ⟨m, hm1⟩ : ∃ m, n - (p + 1) = m := ⟨_, rfl⟩
  have HN : Hid (n = p + m + 1) := by show n = p + m + 1; omega
  have e2 : n - (p + m) = 1 := by omega
  have q0 : (0 : Int) ≤ (p : Int) + (m : Int) := by omega
  have q1 : (p : Int) + (m : Int) ≤ (n : Int) := by omega
  have q2 : ((p : Int) + (m : Int)).toNat = p + m := by omega
  have q3 : (n : Int) ≤ (cap : Int) := by omega
  have q4 : ¬ cap = p + m := by omega
  obtain ⟨i0, hi0, hz0, hz1, hz2⟩ := info_parts infoR
  obtain ⟨news, hnews⟩ : ∃ news, news = moved zs p := ⟨_, rfl⟩
  have hlen : news.length = m * 2 := by rw [hnews, moved_length, hl, hm1]
  have hget : ∀ (t : Nat) (u : Value), news[t]? = some u → (flat zs)[(p + 1) * 2 + t]? = some u := by
    intro t u hu
    have e : flat zs = flat (zs.take (p + 1)) ++ flat (zs.drop (p + 1)) := by rw [← flat_append, List.take_append_drop]
    rw [e, List.getElem?_append_right (by rw [flat_length, List.length_take]; omega), flat_length, List.length_take, show (p + 1) * 2 + t - min (p + 1) zs.length * 2 = t by omega]
    rw [hnews] at hu
    exact hu
  have hfl : ∀ (t : Nat) (u : Value), (flat zs)[t]? = some u → w.cell? ⟨g, t, none⟩ = some u := fun t u hu => by
    have := flat_cells hc t u hu
    rw [Addr.add_lit, Nat.zero_add] at this
    exact this
  have hfz : ∀ t, w.frozen? ⟨g, t, none⟩ = false := fun t => by simp [World.frozen?, hg]
  have hfs : ∀ t, t < n * 2 → ∃ u, (flat zs)[t]? = some u := fun t ht => ⟨_, List.getElem?_eq_getElem (by rw [flat_length]; omega)⟩
  obtain ⟨A, hA, hsrc⟩ : ∃ A : Addr, (if cap = p + 1 then some (⟨g, 0, none⟩ : Addr) else some ⟨g, (p + 1) * 2, none⟩) = some A ∧ Hid (∀ t u, news[t]? = some u → w.drew.cell? (A.add t) = some u) := by
    by_cases h : cap = p + 1
    · refine ⟨⟨g, 0, none⟩, by simp [h], fun t u hu => ?_⟩
      have h0 : news.length = 0 := by rw [hlen]; omega
      rw [List.length_eq_zero_iff.1 h0] at hu
      simp at hu
    · refine ⟨⟨g, (p + 1) * 2, none⟩, by simp [h], fun t u hu => ?_⟩
      rw [Addr.add_lit]
      exact hfl _ u (hget t u hu)
  have s1 : Hid (news.length = m * 2) := hlen
  have s2 : Hid (∀ u ∈ news, u.oneCell' = true) := by
    intro u hu
    rw [hnews] at hu
    exact flat_one u hu
  have s3 : Hid (∀ t, t < news.length → (w.drew.cell? ⟨g, 0 + p * 2 + t, none⟩).isSome = true ∧ w.drew.frozen? ⟨g, 0 + p * 2 + t, none⟩ = false) := by
    intro t ht
    rw [hlen] at ht
    rw [Nat.zero_add]
    obtain ⟨u, hu⟩ := hfs (p * 2 + t) (by omega)
    exact ⟨by show (w.cell? _).isSome = true; rw [hfl _ u hu]; rfl, hfz _⟩
  obtain ⟨W1, hW1⟩ : ∃ W1, W1 = w.drew.setCells g (0 + p * 2) news := ⟨_, rfl⟩
  have hW1c : ∀ t u, (flat (cut1 zs p))[t]? = some u → W1.cell? ⟨g, t, none⟩ = some u := by
    intro t u hu
    rw [cut1, flat_append] at hu
    have hl1 : (flat (zs.take p)).length = p * 2 := by rw [flat_length, List.length_take]; omega
    by_cases ht : t < p * 2
    · rw [List.getElem?_append_left (by omega)] at hu
      rw [hW1, World.cell?_setCells_out g _ _ _ _ (fun _ _ => by left; show t < _; omega)]
      show w.cell? _ = _
      refine hfl t u ?_
      have e : flat zs = flat (zs.take p) ++ flat (zs.drop p) := by rw [← flat_append, List.take_append_drop]
      rw [e, List.getElem?_append_left (by omega)]
      exact hu
    · rw [List.getElem?_append_right (by omega), hl1] at hu
      have hu' : news[t - p * 2]? = some u := by rw [hnews]; exact hu
      have hlt := (List.getElem?_eq_some_iff.1 hu').1
      have := World.cell?_setCells_in g news (0 + p * 2) w.drew (fun j hj => (s3.out j hj).1) (t - p * 2) hlt
      rw [show 0 + p * 2 + (t - p * 2) = t by omega] at this
      rw [hW1, this, ← hu', List.getElem?_eq_getElem hlt]
  have hW1s : ∀ t, t < n * 2 → (W1.cell? ⟨g, t, none⟩).isSome = true := by
    intro t ht
    by_cases h1 : t < 0 + p * 2 ∨ 0 + p * 2 + news.length ≤ t
    · rw [hW1, World.cell?_setCells_out g _ _ _ _ (fun _ _ => h1)]
      obtain ⟨u, hu⟩ := hfs t ht
      show (w.cell? _).isSome = true
      rw [hfl t u hu]; rfl
    · have hlt : t - p * 2 < news.length := by omega
      have := World.cell?_setCells_in g news (0 + p * 2) w.drew (fun j hj => (s3.out j hj).1) (t - p * 2) hlt
      rw [show 0 + p * 2 + (t - p * 2) = t by omega] at this
      rw [hW1, this]; rfl
  have hW1f : ∀ t, W1.frozen? ⟨g, t, none⟩ = false := fun t => by rw [hW1, World.frozen?_setCells]; exact hfz t
  have hcl : ∀ ty, (Builtin.clear_ #[91] ty #[.slice (some ⟨g, (p + m) * 2, none⟩) 1 (cap - (p + m))]).run Tryz.prog W1 = .ok (.tuple #[]) (W1.setCells g ((p + m) * 2) [.int .i64 0, .string ⟨#[]⟩]) :=
    fun ty => clear_one W1 ty g _ _ (hW1s _ (by omega)) (hW1s _ (by omega)) (hW1f _) (hW1f _)
  have HG : Hid (∃ cur', (W1.setCells g ((p + m) * 2) [.int .i64 0, .string ⟨#[]⟩]).heap[g]? = some (.cells cur' 212 (0, 0)) ∧ cur'.size = cap * 2) := by
    obtain ⟨c1, a1, a2⟩ := heap_setCells news (0 + p * 2) w.drew cur hg
    rw [← hW1] at a1
    obtain ⟨c2, b1, b2⟩ := heap_setCells [.int .i64 0, .string ⟨#[]⟩] ((p + m) * 2) W1 c1 a1
    exact ⟨c2, b1, by rw [b2, a2, hs]⟩
  have HO : Hid (Off (fun k => k = g) w (W1.setCells g ((p + m) * 2) [.int .i64 0, .string ⟨#[]⟩])) := by
    rw [hW1]
    show Off (fun k => k = g) w _
    exact offSets (K := fun k => k = g) rfl _ _ (offSets (K := fun k => k = g) rfl _ _ (Off.refl _ w).drew)
  have HC : Hid (∀ t u, (flat (cut1 zs p))[t]? = some u → (W1.setCells g ((p + m) * 2) [.int .i64 0, .string ⟨#[]⟩]).cell? ⟨g, t, none⟩ = some u) := by
    intro t u hu
    have hlt := (List.getElem?_eq_some_iff.1 hu).1
    rw [flat_length, cut1, List.length_append, List.length_take, List.length_drop] at hlt
    rw [World.cell?_setCells_out g _ _ _ _ (fun _ _ => by left; show t < _; omega)]
    exact hW1c t u hu
  have HW : Hid (W1 = w.drew.setCells g (0 + p * 2) news) := hW1
  have HL : Hid (zs.length = n) := hl
  clear hW1 hW1c hW1s hW1f hfl hfs hfz hget hnews hlen hg hc hl hs hz0 hz2
  go_enter Tryz.func130, Tryz.ntmps130
  go_wp2_with fail
  go_region_law (refine step_append_room rfl (.tmp 22) (.tmp 25) 91 rfl 212 i0 2 Tryz.underlying91 hi0 hz1 g 0 p cap (by simp [Act.eval, Act.put]) A m (cap - (p + 1)) news (by simp [Act.eval, Act.put, hm1]) s1.out hsrc.out s2.out (by omega) s3.out ?_; rw [← HW.out])
  go_wp2
  go_ret
  have e3 : p + m = n - 1 := by have := HN.out; omega
  obtain ⟨c2, b1, b2⟩ := HG.out
  refine ⟨by rw [e3]; rfl, own_of_cells hB b1 (by omega) hm b2 ?_ HC.out, HO.out⟩
  rw [flat_length, cut1, List.length_append, List.length_take, List.length_drop, HL.out]; omega


set_option maxRecDepth 100000 in
set_option maxHeartbeats 2000000 in
theorem give_no {w : World} {B sb : Nat} {v : Value} {ls : List LR} (h : Lnk Q w 212 502 B sb v ls) (i : Int) (hq : onB ls i = false) : Calls Tryz.prog 101 #[.pointer (some ⟨sb, 502, none⟩), .int .i64 i] w fun e w' => e = .returned (.tuple #[.int .i64 0, .string ⟨#[]⟩, .iface 133 (.int .i64 1)]) ∧ w' = w := by
  go_enter Tryz.func101, Tryz.ntmps101
  go_wp2_with (go_at_call 129; refine (isOnWay_calls h i).mono ?_; rintro e w1 ⟨rfl, hw1⟩; rw [hq, hw1]; clear hw1 w1)
  go_ret3
  exact ⟨rfl, rfl⟩
set_option maxRecDepth 100000 in
set_option maxHeartbeats 2000000 in
theorem give_yes {w : World} {B sb : Nat} {v : Value} {ls : List LR} (h : Lnk Q w 212 502 B sb v ls) (p : Nat) (hp : p < ls.length) (i : Int) (hi : i = (p : Int)) : Calls Tryz.prog 101 #[.pointer (some ⟨sb, 502, none⟩), .int .i64 i] w fun e w' => e = .returned (.tuple #[.int .i64 (at' ls p).1, .string (at' ls p).2, .nilIface]) ∧ Turn Q w w' 212 502 B sb v (cut1 ls p) := by
  obtain ⟨a, cap, rfl⟩ := h.shape
  obtain ⟨g, cur, rfl, _, hBg, hgl, hgs, hgg, hnc, hm, hcs, hcl⟩ := h.rows (by omega)
  have hq : onB ls i = true := by rw [hi]; exact onB_at hp
  have hon := isOnWay_calls h i
  rw [hq] at hon
  subst hi
  have hsb := h.lt (k := sb) (.inl rfl)
  have c0 := h.c
  obtain ⟨x0, x1⟩ := hcl p hp
  rw [Nat.zero_add] at x0 x1
  have hfew := h.inv.few
  have HI : Hid (Inv (cut1 ls p)) := h.inv.cut p
  have HL : Hid (Lnk Q w 212 502 B sb (.slice (some ⟨g, 0, none⟩) ls.length cap) ls) := h
  have HN : Hid ((cut1 ls p).length = ls.length - 1) := cut1_length hp
  have HDEL : ∀ w1, Below w.heap.size w w1 → Calls Tryz.prog 130 #[.slice (some ⟨g, 0, none⟩) ls.length cap, .int .i64 (p : Int), .int .i64 ((p : Int) + 1)] w1 fun e w' => e = .returned (.slice (some ⟨g, 0, none⟩) (ls.length - 1) cap) ∧ w'.ownsRow B 212 2 (.slice (some ⟨g, 0, none⟩) (ls.length - 1) cap) (ls.length - 1) (flat (cut1 ls p)) ∧ Off (fun k => k = g) w1 w' := fun w1 hb =>
    delete_calls g ls.length cap p B cur ls w1 hBg ((hb.block g hgl).trans hgg) hnc hm hcs rfl (hcl.below hgl hb) hp
  have hp' : (p : Int) < (ls.length : Int) := by omega
  have hp9 : (p : Int) ≤ 40 := by omega
  clear hq h hcl hgg hcs hm hnc hp hfew
  generalize (at' ls p).1 = y0 at *
  generalize (at' ls p).2 = y1 at *
  generalize ls.length = n at *
  go_enter Tryz.func101, Tryz.ntmps101
  go_upto_region 4 with (go_at_call 129; refine hon.mono ?_; rintro e w1 ⟨rfl, hw1⟩; rw [hw1]; clear hw1 w1)
  have ba : Below w.heap.size w (w.alloc (.cells #[.int .i64 y0, .string y1] 212)) := (Below.refl _ _).alloc (Nat.le_refl _) _
  have z0 : (w.alloc (.cells #[.int .i64 y0, .string y1] 212)).cell? ⟨w.heap.size, 0, none⟩ = some (.int .i64 y0) := by simp
  have z1 : (w.alloc (.cells #[.int .i64 y0, .string y1] 212)).cell? ⟨w.heap.size, 1, none⟩ = some (.string y1) := by simp
  have hYg : w.heap.size ≠ g := by omega
  have hlt : w.heap.size < (w.alloc (.cells #[.int .i64 y0, .string y1] 212)).heap.size := by simp
  have HY : Hid (w.heap.size ≠ sb) := by show w.heap.size ≠ sb; omega
  generalize hY : w.heap.size = Y at z0 z1 hYg hlt HY ⊢
  have HYS : Hid (w.heap.size = Y) := hY
  clear hY
  generalize w.alloc (.cells #[.int .i64 y0, .string y1] 212) = W at z0 z1 ba hlt ⊢
  have hLW := HL.out.below ba
  have k0 := hLW.c
  clear x0 x1 c0
  go_wp2_with (go_at_call 130; refine (HDEL W ba).mono ?_; rintro e w2 ⟨rfl, hr2, ho2⟩; have m2 := ho2.cell hLW.c (fun e => hgs e.symm); have mf := (ho2.frozen (p := ⟨sb, 502, none⟩) (hLW.lt (.inl rfl)) (fun e => hgs e.symm)).trans hLW.f; have y0' := ho2.cell z0 hYg; have y1' := ho2.cell z1 hYg)
  have b0 : (w2.setCell ⟨sb, 502, none⟩ (.slice (some ⟨g, 0, none⟩) (n - 1) cap)).cell? ⟨Y, 0, none⟩ = some (.int .i64 y0) := by
    rw [World.cell?_setCell_other _ _ _ _ (by intro e; injection e with e; exact HY.out e.symm)]; exact y0'
  have b1 : (w2.setCell ⟨sb, 502, none⟩ (.slice (some ⟨g, 0, none⟩) (n - 1) cap)).cell? ⟨Y, 1, none⟩ = some (.string y1) := by
    rw [World.cell?_setCell_other _ _ _ _ (by intro e; injection e with e; exact HY.out e.symm)]; exact y1'
  have ho3 : Off (fun k => (Value.slice (some ⟨g, 0, none⟩) n cap).ownBlock = some k) w w2 := (Off.of_below ba).trans (ho2.mono (fun k _ e => by rw [e]; rfl))
  have FIN : Hid (Turn Q w (w2.setCell ⟨sb, 502, none⟩ (.slice (some ⟨g, 0, none⟩) (n - 1) cap)) 212 502 B sb (.slice (some ⟨g, 0, none⟩) n cap) (cut1 ls p)) :=
    (show Turn Q w _ 212 502 B sb _ _ from ⟨_, HL.out.put ho3 (by rw [HN.out]; exact hr2) (fun k hk => .inl hk) HI.out, (ho3.mono (fun k _ e => .inr e)).setCell (.inl rfl) _, fun k hk => .inl hk⟩)
  clear m2 mf y0' y1' hr2 ho2 ho3 k0 z0 z1
  generalize w2.setCell ⟨sb, 502, none⟩ (.slice (some ⟨g, 0, none⟩) (n - 1) cap) = W3 at b0 b1 FIN ⊢
  go_quiet (fail)
  go_wp2_with fail
  go_ret3
  exact ⟨rfl, FIN.out.more (by repeat (first | exact Below.refl _ _ | exact below_drewN (Below.refl _ _) _ | refine Below.drew ?_))⟩
theorem give_calls {w : World} {B sb : Nat} {v : Value} {ls : List LR} (h : Lnk Q w 212 502 B sb v ls) (i : Int) : Calls Tryz.prog 101 #[.pointer (some ⟨sb, 502, none⟩), .int .i64 i] w fun e w' => e = .returned (.tuple #[.int .i64 (giveV ls i).1, .string (giveV ls i).2, errV (giveF ls i)]) ∧ Turn Q w w' 212 502 B sb v (giveS ls i) := by
  cases hq : onB ls i with
  | false =>
    rw [giveV_no hq, giveF_no hq, giveS_no hq, errV_f (by decide)]
    exact (give_no h i hq).mono fun e w' ⟨h1, h2⟩ => ⟨h1, by rw [h2]; exact Turn.same h⟩
  | true =>
    obtain ⟨p, e, hp⟩ := onB_yes hq
    rw [giveV_yes hq, giveF_yes hq, giveS_yes hq, errV_0]
    have e2 : i.toNat = p := by omega
    rw [e2]
    exact give_yes h p hp i e
set_option maxRecDepth 100000 in
set_option maxHeartbeats 2000000 in
theorem lose_calls {w : World} {B sb : Nat} {v : Value} {ls : List LR} (h : Lnk Q w 212 502 B sb v ls) (i : Int) : Calls Tryz.prog 103 #[.pointer (some ⟨sb, 502, none⟩), .int .i64 i] w fun e w' => e = .returned (errV (giveF ls i)) ∧ Turn Q w w' 212 502 B sb v (giveS ls i) := by
  have hg := give_calls h i
  generalize (giveV ls i).1 = y0 at hg
  generalize (giveV ls i).2 = y1 at hg
  generalize errV (giveF ls i) = er at hg ⊢
  go_enter Tryz.func103, Tryz.ntmps103
  go_wp2_with (go_at_call 101; refine hg.mono ?_; rintro e w1 ⟨rfl, ht1⟩)
  go_ret
  exact ⟨rfl, ht1⟩
set_option maxRecDepth 100000 in
set_option maxHeartbeats 2000000 in
theorem twice_no {w : World} {B sb : Nat} {v : Value} {ls : List LR} (h : Lnk Q w 212 502 B sb v ls) (i : Int) (hq : onB ls i = false) : Calls Tryz.prog 104 #[.pointer (some ⟨sb, 502, none⟩), .int .i64 i] w fun e w' => e = .returned (.iface 133 (.int .i64 1)) ∧ w' = w := by
  go_enter Tryz.func104, Tryz.ntmps104
  go_wp2_with (go_at_call 129; refine (isOnWay_calls h i).mono ?_; rintro e w1 ⟨rfl, hw1⟩; rw [hq, hw1]; clear hw1 w1)
  go_ret
  exact ⟨rfl, rfl⟩
set_option maxRecDepth 100000 in
set_option maxHeartbeats 2000000 in
theorem twice_yes {w : World} {B sb : Nat} {v : Value} {ls : List LR} (h : Lnk Q w 212 502 B sb v ls) (p : Nat) (hp : p < ls.length) (i : Int) (hi : i = (p : Int)) : Calls Tryz.prog 104 #[.pointer (some ⟨sb, 502, none⟩), .int .i64 i] w fun e w' => e = .returned (errV (twF ls (p : Int))) ∧ Turn Q w w' 212 502 B sb v (twS ls (p : Int)) := by
  obtain ⟨a, cap, rfl⟩ := h.shape
  obtain ⟨g, cur, rfl, _, hBg, hgl, hgs, hgg, hnc, hm, hcs, hcl⟩ := h.rows (by omega)
  have hq : onB ls i = true := by rw [hi]; exact onB_at hp
  have hon := isOnWay_calls h i
  rw [hq] at hon
  subst hi
  have c0 := h.c
  obtain ⟨x0, x1⟩ := hcl p hp
  rw [Nat.zero_add] at x0 x1
  have hfew := h.inv.few
  have hsz := (h.inv.ok _ (at_mem hp)).2
  have hsend := send_calls (h.below ((Below.refl _ w).drew)) (at' ls p).1 (at' ls p).2 (by omega)
  rw [(tw_send h.inv hp).1, (tw_send h.inv hp).2]
  have hp' : (p : Int) < (ls.length : Int) := by omega
  have hp9 : (p : Int) ≤ 40 := by omega
  have HL : Hid (Lnk Q w 212 502 B sb (.slice (some ⟨g, 0, none⟩) ls.length cap) ls) := h
  clear hq h hcl hgg hcs hm hnc hp hfew hsz
  generalize sendF ls (at' ls p).1 (at' ls p).2 = f at *
  generalize sendS ls (at' ls p).1 (at' ls p).2 = s at *
  generalize errV f = er at *
  generalize (at' ls p).1 = y0 at *
  generalize (at' ls p).2 = y1 at *
  generalize ls.length = n at *
  go_enter Tryz.func104, Tryz.ntmps104
  go_wp2_with (go_at_call 129; refine hon.mono ?_; rintro e w1 ⟨rfl, hw1⟩; rw [hw1]; clear hw1 w1)
  go_region_with (go_at_call 98; refine hsend.mono ?_; rintro e w1 ⟨rfl, ht1⟩)
  all_goals (try go_wp2_with fail)
  all_goals go_ret
  all_goals exact ⟨rfl, by
    obtain ⟨v', h1, h2, h3⟩ := ht1
    exact ⟨v', h1, ((Off.refl _ w).drew).trans h2, h3⟩⟩
theorem twice_calls {w : World} {B sb : Nat} {v : Value} {ls : List LR} (h : Lnk Q w 212 502 B sb v ls) (i : Int) : Calls Tryz.prog 104 #[.pointer (some ⟨sb, 502, none⟩), .int .i64 i] w fun e w' => e = .returned (errV (twF ls i)) ∧ Turn Q w w' 212 502 B sb v (twS ls i) := by
  cases hq : onB ls i with
  | false =>
    rw [twS_no (by rw [twF_no hq]; decide), twF_no hq, errV_f (by decide)]
    exact (twice_no h i hq).mono fun e w' ⟨h1, h2⟩ => ⟨h1, by rw [h2]; exact Turn.same h⟩
  | true =>
    obtain ⟨p, rfl, hp⟩ := onB_yes hq
    exact twice_yes h p hp (p : Int) rfl

/-- A block holds a letter, that may be written. -/
structure LBox (w : World) (b : Nat) (q : Int) (n : ByteArray) : Prop where
  lt : b < w.heap.size
  c0 : w.cell? ⟨b, 0, none⟩ = some (.int .i64 q)
  c1 : w.cell? ⟨b, 1, none⟩ = some (.string n)
  f0 : w.frozen? ⟨b, 0, none⟩ = false
  f1 : w.frozen? ⟨b, 1, none⟩ = false
set_option maxRecDepth 100000 in
set_option maxHeartbeats 2000000 in
theorem new_calls (w : World) : Calls Tryz.prog 46 #[] w fun e w' => e = .returned (.pointer (some ⟨w.heap.size, 0, none⟩)) ∧ w' = w.alloc (.cells #[.slice none 0 0] 93) := by
  have hz : ∀ W : World, (zeroValue 93).run Tryz.prog W = .ok (.agg #[.slice none 0 0]) W := fun W => by kernel_rfl
  go_enter Tryz.func46, Tryz.ntmps46
  go_wp2
  go_ret
  exact ⟨rfl, rfl⟩
end Go.Proofs.YtdokgalidhmbbaaGreatDoor.Lk
