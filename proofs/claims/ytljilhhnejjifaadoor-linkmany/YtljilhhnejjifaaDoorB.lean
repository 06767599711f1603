/- What a call leaves as it was; a slice of letters, and a link, as they lie in memory; isEnd, isOnWay, New, Count. -/
import Derived.Test.YtljilhhnejjifaaDoorA
import Derived.Test.YtljilhhnejjifaaDoorChecked
import Derived.WalkKit
import Derived.WalkSpells
import Derived.WalkLawsBesides
import Derived.LoopN
import Derived.Outline
import Derived.BigQuiet
import Derived.Deep.RegionWith
import Derived.Deep.RegionHeld3
import Derived.Deep.RegionLaw
import Derived.Shelf.SlSortCmp.QuietGrown
import Derived.Maps.AppendAt
import Derived.Laws.AppendOwnNone
import Derived.Laws.ResultCell
import Derived.Deep.LoopGhost
import Derived.Deep.DeepCutAuto
import Derived.KernelRfl
namespace Go.Proofs.YtljilhhnejjifaaDoor
open Go.RowKit Go.Lib Go.Sort
set_option linter.unusedVariables false
set_option linter.unusedSimpArgs false

/-- But for the blocks K and new ones the world is as it was. -/
structure Off (K : Nat → Prop) (w w' : World) : Prop where
  os : w'.os = w.os
  tape : w'.tape = w.tape
  output : w'.output = w.output
  size : w.heap.size ≤ w'.heap.size
  block : ∀ k, k < w.heap.size → ¬ K k → w'.heap[k]? = w.heap[k]?
theorem Off.refl (K : Nat → Prop) (w : World) : Off K w w := ⟨rfl, rfl, rfl, Nat.le_refl _, fun _ _ _ => rfl⟩
theorem Off.trans {K : Nat → Prop} {a b c : World} (h : Off K a b) (k : Off K b c) : Off K a c :=
  ⟨k.os.trans h.os, k.tape.trans h.tape, k.output.trans h.output, Nat.le_trans h.size k.size, fun i hi hk => (k.block i (Nat.lt_of_lt_of_le hi h.size) hk).trans (h.block i hi hk)⟩
theorem Off.mono {K K' : Nat → Prop} {w w' : World} (h : Off K w w') (hK : ∀ k, k < w.heap.size → K k → K' k) : Off K' w w' := ⟨h.os, h.tape, h.output, h.size, fun k hk hn => h.block k hk (fun e => hn (hK k hk e))⟩
theorem Off.of_below {K : Nat → Prop} {w w' : World} (h : Below w.heap.size w w') : Off K w w' := ⟨h.os, h.tape, h.output, h.size, fun k hk _ => h.block k hk⟩
theorem Off.below {K : Nat → Prop} {B : Nat} {w w' : World} (h : Off K w w') (hK : ∀ k, K k → B ≤ k) (hB : B ≤ w.heap.size) : Below B w w' :=
  ⟨h.os, h.tape, h.output, h.size, fun k hk => h.block k (by omega) (fun e => by have := hK k e; omega)⟩
theorem Off.of_grown {K : Nat → Prop} {w w' : World} {row : Option Nat} (h : w.grownBy w' row) (hK : ∀ k, row = some k → K k) : Off K w w' :=
  ⟨h.os, h.tape, h.output, h.size, fun k hk hn => h.block k hk (fun e => hn (hK k e.symm))⟩
theorem Off.setCell {K : Nat → Prop} {w w' : World} (h : Off K w w') {a : Addr} (hK : K a.block) (u : Value) : Off K w (w'.setCell a u) :=
  h.trans ⟨rfl, rfl, rfl, by simp [World.setCell], fun k _ hn => Below.heap_setCell _ _ _ _ (fun e => hn (e ▸ hK))⟩
theorem Off.alloc {K : Nat → Prop} {w w' : World} (h : Off K w w') (o : Go.Obj) : Off K w (w'.alloc o) := h.trans (Off.of_below ((Below.refl _ _).alloc (Nat.le_refl _) _))
theorem Off.drew {K : Nat → Prop} {w w' : World} (h : Off K w w') : Off K w w'.drew := ⟨h.os, h.tape, h.output, h.size, h.block⟩
theorem Off.cell {K : Nat → Prop} {w w' : World} (h : Off K w w') {p : Addr} {v : Value} (hc : w.cell? p = some v) (hn : ¬ K p.block) : w'.cell? p = some v :=
  (World.cell?_of_block (h.block p.block (World.block_lt_of_cell? w p hc) hn)).trans hc
theorem Off.frozen {K : Nat → Prop} {w w' : World} (h : Off K w w') {p : Addr} (hl : p.block < w.heap.size) (hn : ¬ K p.block) : w'.frozen? p = w.frozen? p :=
  World.frozen?_of_block (h.block p.block hl hn)
theorem Off.row {K : Nat → Prop} {w w' : World} (h : Off K w w') {B e size n : Nat} {v : Value} {xs : List Value} (ho : w.ownsRow B e size v n xs) (hn : ∀ k, v.ownBlock = some k → ¬ K k) : w'.ownsRow B e size v n xs := by
  refine ⟨ho.1, ?_⟩
  rcases ho.2 with h0 | ⟨g, cap, cur, rfl, hB, hgg, hr⟩
  · exact .inl h0
  · exact .inr ⟨g, cap, cur, rfl, hB, (h.block g (Array.getElem?_eq_some_iff.1 hgg).1 (hn g rfl)).trans hgg, hr⟩
def errV (f : Int) : Value := if f = 0 then .nilIface else .iface 53 (.int .i64 f)
theorem errV_0 : errV 0 = .nilIface := rfl
theorem errV_f {f : Int} (h : f ≠ 0) : errV f = .iface 53 (.int .i64 f) := if_neg h
theorem mixed : Tryd.prog.follows .mixedOrders = true := by kernel_rfl
def Cells (w : World) (b off : Nat) (zs : List LR) : Prop := ∀ j, j < zs.length → w.cell? ⟨b, off + j * 2, none⟩ = some (.int .i64 (at' zs j).1) ∧ w.cell? ⟨b, off + j * 2 + 1, none⟩ = some (.string (at' zs j).2)
theorem Cells.below {w w' : World} {b off : Nat} {zs : List LR} (h : Cells w b off zs) (hb : b < w.heap.size) (bel : Below w.heap.size w w') : Cells w' b off zs := fun j hj =>
  ⟨(bel.cell (p := ⟨b, off + j * 2, none⟩) hb).trans (h j hj).1, (bel.cell (p := ⟨b, off + j * 2 + 1, none⟩) hb).trans (h j hj).2⟩
def encR (x : LR) : List Value := [.int .i64 x.1, .string x.2]
def flat (zs : List LR) : List Value := zs.flatMap encR
theorem flat_length (zs : List LR) : (flat zs).length = zs.length * 2 := by
  induction zs with
  | nil => rfl
  | cons r rs ih => simp only [flat, List.flatMap_cons, List.length_append] at *; rw [ih]; simp [encR]; omega
theorem flat_append (a b : List LR) : flat (a ++ b) = flat a ++ flat b := by simp [flat]
theorem flat_get : ∀ (zs : List LR) (j : Nat), j < zs.length → (flat zs)[j * 2]? = some (.int .i64 (at' zs j).1) ∧ (flat zs)[j * 2 + 1]? = some (.string (at' zs j).2)
  | [], j, h => by simp at h
  | r :: rs, 0, _ => by simp [flat, encR, at']
  | r :: rs, j + 1, h => by
    have i := flat_get rs j (by simpa using h)
    have e1 : (j + 1) * 2 = j * 2 + 1 + 1 := by omega
    have e2 : flat (r :: rs) = .int .i64 r.1 :: .string r.2 :: flat rs := rfl
    have e3 : at' (r :: rs) (j + 1) = at' rs j := by simp [at']
    rw [e1, e2, e3]
    simpa using i
theorem flat_one {zs : List LR} : ∀ u, u ∈ flat zs → u.oneCell' = true := by
  intro u hu
  simp only [flat, List.mem_flatMap] at hu
  obtain ⟨r, _, h⟩ := hu
  simp [encR] at h
  rcases h with rfl | rfl <;> rfl
theorem flat_take {ls : List LR} (j : Nat) (i : Nat) (u : Value) (h : (flat (ls.take j))[i]? = some u) : (flat ls)[i]? = some u := by
  have hl := (List.getElem?_eq_some_iff.1 h).1
  rw [← List.take_append_drop j ls, flat_append, List.getElem?_append_left hl]
  exact h
theorem flat_drop {ls : List LR} {j : Nat} (hj : j ≤ ls.length) (i : Nat) (u : Value) (h : (flat (ls.drop j))[i]? = some u) : (flat ls)[j * 2 + i]? = some u := by
  have e : flat ls = flat (ls.take j) ++ flat (ls.drop j) := by rw [← flat_append, List.take_append_drop]
  have hl : (flat (ls.take j)).length = j * 2 := by rw [flat_length, List.length_take]; omega
  rw [e, List.getElem?_append_right (by omega), hl, Nat.add_sub_cancel_left]
  exact h
theorem flat_cells {w : World} {b off : Nat} {zs : List LR} (h : Cells w b off zs) (j : Nat) (u : Value) (hu : (flat zs)[j]? = some u) : w.cell? ((⟨b, off, none⟩ : Addr).add j) = some u := by
  have hl : j < (flat zs).length := (List.getElem?_eq_some_iff.1 hu).1
  rw [flat_length] at hl
  have hq : j / 2 < zs.length := by omega
  have g := flat_get zs (j / 2) hq
  have c := h (j / 2) hq
  rcases (show j = j / 2 * 2 ∨ j = j / 2 * 2 + 1 by omega) with e | e
  · rw [e] at hu ⊢
    rw [g.1] at hu
    rw [Addr.add_lit, ← hu]; exact c.1
  · rw [e] at hu ⊢
    rw [g.2] at hu
    rw [Addr.add_lit, ← hu, ← Nat.add_assoc]; exact c.2
theorem infoR : (Tryd.prog.info? 56).map (fun i => (i.zero, i.size, i.bytes)) = some (some (.agg #[.int .i64 0, .string ⟨#[]⟩]), 2, 24) := by kernel_rfl
theorem infoD : (Tryd.prog.info? 41).map (fun i => (i.zero, i.size, i.bytes)) = some (some (.agg #[.int .i64 0, .string ⟨#[]⟩]), 2, 24) := by kernel_rfl
theorem cells_of_own {w : World} {T base g n m cap : Nat} {zs : List LR} (h : w.ownsRow base T 2 (.slice (some ⟨g, 0, none⟩) m cap) n (flat zs)) : Cells w g 0 zs := by
  intro j hj
  have f := flat_get zs j hj
  have c0 := h.cells (g := g) rfl _ _ f.1
  have c1 := h.cells (g := g) rfl _ _ f.2
  rw [Addr.add_lit] at c0 c1
  exact ⟨c0, by rw [← Nat.add_assoc] at c1; exact c1⟩
theorem own_length {w : World} {T base n : Nat} {v : Value} {zs : List LR} (h : w.ownsRow base T 2 v n (flat zs)) : zs.length = n := by
  have := h.1; rw [flat_length] at this; omega
theorem own_below {w w' : World} {B e size n : Nat} {v : Value} {xs : List Value} (h : w.ownsRow B e size v n xs) (hb : Below w.heap.size w w') : w'.ownsRow B e size v n xs :=
  (Off.of_below (K := fun _ => False) hb).row h (fun _ _ => id)
theorem own_mono {w : World} {B B' e size n : Nat} {v : Value} {xs : List Value} (h : w.ownsRow B e size v n xs) (hb : B' ≤ B) : w.ownsRow B' e size v n xs := by
  refine ⟨h.1, ?_⟩
  rcases h.2 with hn | ⟨g, cap, cur, rfl, hB, hr⟩
  · exact .inl hn
  · exact .inr ⟨g, cap, cur, rfl, Nat.le_trans hb hB, hr⟩
theorem below_drewN {B : Nat} {a w : World} (h : Below B a w) (q : Nat) : Below B a (w.drewN q) := ⟨h.os, h.tape, h.output, h.size, h.block⟩
theorem own_shape {w : World} {B e size n : Nat} {v : Value} {xs : List Value} (h : w.ownsRow B e size v n xs) (h0 : 0 < n) : ∃ g cap, v = .slice (some ⟨g, 0, none⟩) n cap := by
  rcases h.2 with ⟨_, e⟩ | ⟨g, cap, cur, e, _⟩
  · omega
  · exact ⟨g, cap, e⟩
theorem own_any {w : World} {B e size n : Nat} {v : Value} {xs : List Value} (h : w.ownsRow B e size v n xs) : ∃ a cap, v = .slice a n cap := by
  rcases h.2 with ⟨rfl, e⟩ | ⟨g, cap, cur, rfl, _⟩
  · exact ⟨none, 0, by rw [e]⟩
  · exact ⟨_, _, rfl⟩
theorem Off.setNew {K : Nat → Prop} {w w' : World} (h : Off K w w') {a : Addr} (ha : w.heap.size ≤ a.block) (u : Value) : Off K w (w'.setCell a u) :=
  ⟨h.os, h.tape, h.output, by simpa using h.size, fun k hk hn => (Below.heap_setCell _ _ _ _ (by omega)).trans (h.block k hk hn)⟩
theorem Off.setCells {K : Nat → Prop} {g : Nat} (hK : K g) {w : World} : ∀ (vs : List Value) (o : Nat) {w' : World}, Off K w w' → Off K w (w'.setCells g o vs)
  | [], o, w', h => h
  | v :: vs, o, w', h => Off.setCells hK vs (o + 1) (h.setCell (a := ⟨g, o, none⟩) hK v)
theorem cells_two_new (w : World) (q : Int) (n : ByteArray) (t : TypeId) : ∀ j u, (flat [(q, n)])[j]? = some u → (w.alloc (.cells #[.int .i64 q, .string n] t)).cell? ((⟨w.heap.size, 0, none⟩ : Addr).add j) = some u := by
  intro j u hj
  match j, hj with
  | 0, hj => simp [flat, encR] at hj; subst hj; simp [Addr.add]
  | 1, hj => simp [flat, encR] at hj; subst hj; simp [Addr.add]
  | j + 2, hj => simp [flat, encR] at hj
/-- append onto a slice of the caller's own, as one step of a region that draws. -/
theorem step_append_own {P : Program} {ops : Array Oper} {o : Oper} {a : Act} {w : World} {K : Act → World → Prop} {Q : Exit → Act → World → Prop} {E : Prop}
    (hg : o.guard = none) (s x : Operand) (t : TypeId) (hop : o.op = Op.call { callee := Callee.builtin Builtin.append, args := #[s, x], argTypes := #[t, t] })
    (base : Nat) (e : TypeId) (i : TypeInfo) (z : Value) (size bytes : Nat) (h1 : P.underlying t = some (.slice e)) (h2 : P.info? e = some i) (h3 : i.zero = some z) (h4 : i.size = size) (h5 : i.bytes = bytes) (h6 : z.cells.size = size) (h7 : 0 < size)
    (v : Value) (n : Nat) (xs : List Value) (hs : a.eval s = v) (hown : w.ownsRow base e size v n xs)
    (ad : Addr) (m c : Nat) (news : List Value) (hx : a.eval x = .slice (some ad) m c) (hn : news.length = m * size) (hc : ∀ j u, news[j]? = some u → w.cell? (ad.add j) = some u) (h1c : ∀ u ∈ news, u.oneCell' = true)
    (b1 : n + m ≤ maxLen) (b2 : (n + m) * bytes ≤ 140737488355328) (hbase : base ≤ w.heap.size)
    (hK : ∀ v' w', w'.ownsRow base e size v' (n + m) (xs ++ news) → w.grownBy w' v.ownBlock → (v'.ownBlock = v.ownBlock ∨ v'.ownBlock = some w.heap.size) → K (a.put o.dst v') w') :
    if Region.wanted o (yielded ops a.tmps) = true then Oper.wp P o a w K Q else E := by
  have hw : Region.wanted o (yielded ops a.tmps) = true := by simp [Region.wanted, hg]
  rw [if_pos hw]
  obtain ⟨v', w', hrun, r1, r2, _, r4⟩ := run_append_own_at (P := P) w base t o.type e i z size bytes h1 h2 h3 h4 h5 h6 h7 v n xs hown ad m c news hn hc h1c b1 b2 hbase
  unfold Oper.wp
  simp [execOp, hop, resolve, invoke, builtin, hs, hx, hrun, Result.andThen]
  exact hK v' w' r1 r2 r4

def own (sb : Nat) (v : Value) (k : Nat) : Prop := k = sb ∨ v.ownBlock = some k
/-- The cell o of the block sb holds a slice of letters (of the type T), that is its own. -/
structure Lnk (w : World) (T o B sb : Nat) (v : Value) (ls : List LR) : Prop where
  inv : Inv ls
  c : w.cell? ⟨sb, o, none⟩ = some v
  f : w.frozen? ⟨sb, o, none⟩ = false
  row : w.ownsRow B T 2 v ls.length (flat ls)
  hs : B ≤ sb
  nv : ∀ k, v.ownBlock = some k → k ≠ sb
section
variable {w w' w2 : World} {T o B sb : Nat} {v v' : Value} {ls ls' : List LR}
theorem Lnk.lt (h : Lnk w T o B sb v ls) {k : Nat} (hk : own sb v k) : k < w.heap.size := by
  rcases hk with rfl | hk
  · exact World.block_lt_of_cell? w _ h.c
  · exact (h.row.lt k hk).2
theorem Lnk.ge (h : Lnk w T o B sb v ls) {k : Nat} (hk : own sb v k) : B ≤ k := by
  rcases hk with rfl | hk
  · exact h.hs
  · exact (h.row.lt k hk).1
theorem Lnk.le (h : Lnk w T o B sb v ls) : B ≤ w.heap.size := by have := h.hs; have := h.lt (k := sb) (.inl rfl); omega
theorem Lnk.off {K : Nat → Prop} (h : Lnk w T o B sb v ls) (ho : Off K w w') (hK : ∀ k, own sb v k → ¬ K k) : Lnk w' T o B sb v ls :=
  have ks := hK sb (.inl rfl)
  ⟨h.inv, ho.cell h.c ks, (ho.frozen (p := ⟨sb, o, none⟩) (h.lt (.inl rfl)) ks).trans h.f, ho.row h.row (fun k e => hK k (.inr e)), h.hs, h.nv⟩
theorem Lnk.below (h : Lnk w T o B sb v ls) (hb : Below w.heap.size w w') : Lnk w' T o B sb v ls := h.off (Off.of_below (K := fun _ => False) hb) (fun _ _ => id)
theorem Lnk.base {B' : Nat} (h : Lnk w T o B sb v ls) (hB : B' ≤ B) : Lnk w T o B' sb v ls := ⟨h.inv, h.c, h.f, own_mono h.row hB, Nat.le_trans hB h.hs, h.nv⟩
theorem Lnk.shape (h : Lnk w T o B sb v ls) : ∃ a c, v = .slice a ls.length c := own_any h.row
/-- The slice is put anew. -/
theorem Lnk.put (h : Lnk w T o B sb v ls) (ho : Off (fun k => v.ownBlock = some k) w w2) (hr : w2.ownsRow B T 2 v' ls'.length (flat ls')) (hv : ∀ k, v'.ownBlock = some k → v.ownBlock = some k ∨ w.heap.size ≤ k) (inv : Inv ls') : Lnk (w2.setCell ⟨sb, o, none⟩ v') T o B sb v' ls' := by
  have hsb := h.lt (k := sb) (.inl rfl)
  have ns1 : ¬ v.ownBlock = some sb := fun e => h.nv sb e rfl
  have nv : ∀ k, v'.ownBlock = some k → k ≠ sb := fun k hk => by
    rcases hv k hk with e | e
    · exact h.nv k e
    · omega
  have o2 : Off (fun k => k = sb) w2 (w2.setCell ⟨sb, o, none⟩ v') := (Off.refl _ _).setCell (K := fun k => k = sb) rfl _
  refine ⟨inv, ?_, ?_, o2.row hr (fun k hk => nv k hk), h.hs, nv⟩
  · exact World.cell?_setCell_same _ _ _ (ho.cell h.c ns1)
  · rw [World.frozen?_setCell]; exact (ho.frozen (p := ⟨sb, o, none⟩) hsb ns1).trans h.f
/-- Where the letters lie, if there are any. -/
theorem Lnk.rows {n cap : Nat} {a : Option Addr} (h : Lnk w T o B sb (.slice a n cap) ls) (h0 : 0 < ls.length) : ∃ g cur, a = some ⟨g, 0, none⟩ ∧ n = ls.length ∧ B ≤ g ∧ g < w.heap.size ∧ g ≠ sb ∧ w.heap[g]? = some (.cells cur T (0, 0)) ∧ ls.length ≤ cap ∧ cap ≤ maxLen ∧ cur.size = cap * 2 ∧ Cells w g 0 ls := by
  have hrow := h.row
  rcases h.row.2 with ⟨_, e⟩ | ⟨g, cap', cur, e, h1, h2, h3, h4, h5, _⟩
  · omega
  · injection e with e1 e2 e3
    subst e1; subst e2; subst e3
    exact ⟨g, cur, rfl, rfl, h1, (Array.getElem?_eq_some_iff.1 h2).1, h.nv g rfl, h2, h3, h4, h5, cells_of_own hrow⟩
end
/-- The letters in sb are now ls; all else is as it was. -/
def Turn (w w' : World) (T o B sb : Nat) (v : Value) (ls : List LR) : Prop := ∃ v', Lnk w' T o B sb v' ls ∧ Off (own sb v) w w' ∧ ∀ k, v'.ownBlock = some k → v.ownBlock = some k ∨ w.heap.size ≤ k
theorem Turn.same {w : World} {T o B sb : Nat} {v : Value} {ls : List LR} (h : Lnk w T o B sb v ls) : Turn w w T o B sb v ls := ⟨v, h, Off.refl _ _, fun k hk => .inl hk⟩
theorem Turn.below {w w' : World} {T o B sb : Nat} {v : Value} {ls : List LR} (h : Lnk w T o B sb v ls) (hb : Below w.heap.size w w') : Turn w w' T o B sb v ls := ⟨v, h.below hb, Off.of_below hb, fun k hk => .inl hk⟩
/-- Behind more that is new. -/
theorem Turn.more {w w' w2 : World} {T o B sb : Nat} {v : Value} {ls : List LR} (h : Turn w w' T o B sb v ls) (hb : Below w'.heap.size w' w2) : Turn w w2 T o B sb v ls := by
  obtain ⟨v', h1, h2, h3⟩ := h
  exact ⟨v', h1.below hb, h2.trans (Off.of_below hb), h3⟩

set_option maxRecDepth 100000 in
set_option maxHeartbeats 2000000 in
theorem isEnd_calls (n : Int) (w : World) : Calls Tryd.prog 14 #[.int .i64 n] w fun e w' => e = .returned (.bool (endB n)) ∧ w' = w := by
  by_cases h1 : n = 0
  · subst h1
    go_enter Tryd.func14, Tryd.ntmps14
    go_wp2
    go_ret
    exact ⟨rfl, rfl⟩
  · go_enter Tryd.func14, Tryd.ntmps14
    go_wp2
    go_ret
    exact ⟨by by_cases h2 : n = 1 <;> simp [endB, h1, h2], rfl⟩
set_option maxRecDepth 100000 in
set_option maxHeartbeats 2000000 in
theorem new_calls (w : World) : Calls Tryd.prog 5 #[] w fun e w' => e = .returned (.pointer (some ⟨w.heap.size, 0, none⟩)) ∧ Lnk w' 56 0 w.heap.size w.heap.size (.slice none 0 0) [] ∧ Below w.heap.size w w' := by
  have hO : Lnk (w.alloc (.cells #[.slice none 0 0] 51)) 56 0 w.heap.size w.heap.size (.slice none 0 0) [] := ⟨Inv.start, by simp, by simp, World.ownsRow_nil _ _ _ _, Nat.le_refl _, fun k hk => by simp [Value.ownBlock] at hk⟩
  have hz : ∀ W : World, (zeroValue 51).run Tryd.prog W = .ok (.agg #[.slice none 0 0]) W := fun W => by kernel_rfl
  go_enter Tryd.func5, Tryd.ntmps5
  go_wp2
  go_ret
  exact ⟨rfl, hO, (Below.refl _ _).alloc (Nat.le_refl _) _⟩
set_option maxRecDepth 100000 in
set_option maxHeartbeats 2000000 in
theorem count_calls {w : World} {B sb : Nat} {v : Value} {ls : List LR} (h : Lnk w 56 0 B sb v ls) : Calls Tryd.prog 6 #[.pointer (some ⟨sb, 0, none⟩)] w fun e w' => e = .returned (.int .i64 (ls.length : Int)) ∧ w' = w := by
  obtain ⟨a, c, rfl⟩ := h.shape
  have c0 := h.c
  clear h
  generalize ls.length = m at *
  go_enter Tryd.func6, Tryd.ntmps6
  go_wp2
  go_ret
  exact ⟨rfl, rfl⟩
set_option maxRecDepth 100000 in
set_option maxHeartbeats 2000000 in
theorem isOnWay_calls {w : World} {B sb : Nat} {v : Value} {ls : List LR} (h : Lnk w 56 0 B sb v ls) (i : Int) : Calls Tryd.prog 17 #[.pointer (some ⟨sb, 0, none⟩), .int .i64 i] w fun e w' => e = .returned (.bool (onB ls i)) ∧ w' = w := by
  obtain ⟨a, c, rfl⟩ := h.shape
  have c0 := h.c
  have e : Hid (onB ls i = decide (0 ≤ i ∧ i < (ls.length : Int))) := rfl
  clear h
  generalize ls.length = m at *
  by_cases h1 : 0 ≤ i
  · go_enter Tryd.func17, Tryd.ntmps17
    go_wp2
    go_ret
    exact ⟨by rw [e.out]; simp [h1], rfl⟩
  · go_enter Tryd.func17, Tryd.ntmps17
    go_wp2
    go_ret
    exact ⟨by rw [e.out]; simp; omega, rfl⟩
end Go.Proofs.YtljilhhnejjifaaDoor
