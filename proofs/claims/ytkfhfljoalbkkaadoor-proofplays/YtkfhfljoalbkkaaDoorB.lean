/- What a call leaves as it was; what is open, as it lies in memory; New, isPath, isNumber, isTime, isRight, Open. -/
import Derived.Test.YtkfhfljoalbkkaaDoorA
import Derived.Test.YtkfhfljoalbkkaaDoorChecked
import Derived.WalkKit
import Derived.WalkSpells
import Derived.WalkLawsBesides
import Derived.LoopN
import Derived.Outline
import Derived.BigQuiet
import Derived.Deep.RegionWith
import Derived.Deep.RegionHeld3
import Derived.Shelf.SlSortCmp.QuietGrown
import Derived.Maps.OwnSet
import Derived.Maps.AppendAt
import Derived.Laws.AppendOwnNone
import Derived.Deep.LoopGhost
import Derived.Deep.DeepCutAuto
import Derived.KernelRfl
namespace Go.Proofs.YtkfhfljoalbkkaaDoor
open Go.RowKit Go.Lib Go.Sort
set_option linter.unusedVariables false
set_option linter.unusedSimpArgs false

/-- But for the blocks K and new ones the world is as it was. -/
structure Off (K : Nat → Prop) (w w' : World) : Prop where
  os : w'.os = w.os
  tape : w'.tape = w.tape
  output : w'.output = w.output
  size : w.heap.size ≤ w'.heap.size
  block : ∀ k, k < w.heap.size → ¬ K k → w'.heap[k]? = w.heap[k]?
theorem Off.refl (K : Nat → Prop) (w : World) : Off K w w := ⟨rfl, rfl, rfl, Nat.le_refl _, fun _ _ _ => rfl⟩
theorem Off.trans {K : Nat → Prop} {a b c : World} (h : Off K a b) (k : Off K b c) : Off K a c :=
  ⟨k.os.trans h.os, k.tape.trans h.tape, k.output.trans h.output, Nat.le_trans h.size k.size, fun i hi hk => (k.block i (Nat.lt_of_lt_of_le hi h.size) hk).trans (h.block i hi hk)⟩
theorem Off.mono {K K' : Nat → Prop} {w w' : World} (h : Off K w w') (hK : ∀ k, k < w.heap.size → K k → K' k) : Off K' w w' := ⟨h.os, h.tape, h.output, h.size, fun k hk hn => h.block k hk (fun e => hn (hK k hk e))⟩
theorem Off.of_below {K : Nat → Prop} {w w' : World} (h : Below w.heap.size w w') : Off K w w' := ⟨h.os, h.tape, h.output, h.size, fun k hk _ => h.block k hk⟩
theorem Off.below {K : Nat → Prop} {B : Nat} {w w' : World} (h : Off K w w') (hK : ∀ k, K k → B ≤ k) (hB : B ≤ w.heap.size) : Below B w w' :=
  ⟨h.os, h.tape, h.output, h.size, fun k hk => h.block k (by omega) (fun e => by have := hK k e; omega)⟩
theorem Off.of_grown {K : Nat → Prop} {w w' : World} {row : Option Nat} (h : w.grownBy w' row) (hK : ∀ k, row = some k → K k) : Off K w w' :=
  ⟨h.os, h.tape, h.output, h.size, fun k hk hn => h.block k hk (fun e => hn (hK k e.symm))⟩
theorem Off.setCell {K : Nat → Prop} {w w' : World} (h : Off K w w') {a : Addr} (hK : K a.block) (u : Value) : Off K w (w'.setCell a u) :=
  h.trans ⟨rfl, rfl, rfl, by simp [World.setCell], fun k _ hn => Below.heap_setCell _ _ _ _ (fun e => hn (e ▸ hK))⟩
theorem Off.alloc {K : Nat → Prop} {w w' : World} (h : Off K w w') (o : Go.Obj) : Off K w (w'.alloc o) := h.trans (Off.of_below ((Below.refl _ _).alloc (Nat.le_refl _) _))
theorem Off.drew {K : Nat → Prop} {w w' : World} (h : Off K w w') : Off K w w'.drew := ⟨h.os, h.tape, h.output, h.size, h.block⟩
theorem Off.cell {K : Nat → Prop} {w w' : World} (h : Off K w w') {p : Addr} {v : Value} (hc : w.cell? p = some v) (hn : ¬ K p.block) : w'.cell? p = some v :=
  (World.cell?_of_block (h.block p.block (World.block_lt_of_cell? w p hc) hn)).trans hc
theorem Off.frozen {K : Nat → Prop} {w w' : World} (h : Off K w w') {p : Addr} (hl : p.block < w.heap.size) (hn : ¬ K p.block) : w'.frozen? p = w.frozen? p :=
  World.frozen?_of_block (h.block p.block hl hn)
theorem Off.row {K : Nat → Prop} {w w' : World} (h : Off K w w') {B e size n : Nat} {v : Value} {xs : List Value} (ho : w.ownsRow B e size v n xs) (hn : ∀ k, v.ownBlock = some k → ¬ K k) : w'.ownsRow B e size v n xs := by
  refine ⟨ho.1, ?_⟩
  rcases ho.2 with h0 | ⟨g, cap, cur, rfl, hB, hgg, hr⟩
  · exact .inl h0
  · exact .inr ⟨g, cap, cur, rfl, hB, (h.block g (Array.getElem?_eq_some_iff.1 hgg).1 (hn g rfl)).trans hgg, hr⟩
theorem Off.map {K : Nat → Prop} {w w' : World} (h : Off K w w') {P : Program} {k : TypeId} {R : Value → Option (DataW Unit × List MemPlace)} {b n : Nat} {D : DataW Unit} (ho : w.ownsMap P k R b n D) (hn : ¬ K b) : w'.ownsMap P k R b n D := by
  have hlt := ho.lt
  obtain ⟨es, clock, hb, F, hs, hD⟩ := ho
  exact ⟨es, clock, (h.block b hlt hn).trans hb, F, hs, hD⟩

theorem own_below {w w' : World} {B e size n : Nat} {v : Value} {xs : List Value} (h : w.ownsRow B e size v n xs) (hb : Below w.heap.size w w') : w'.ownsRow B e size v n xs :=
  (Off.of_below (K := fun _ => False) hb).row h (fun _ _ => id)
theorem own_mono {w : World} {B B' e size n : Nat} {v : Value} {xs : List Value} (h : w.ownsRow B e size v n xs) (hb : B' ≤ B) : w.ownsRow B' e size v n xs := by
  refine ⟨h.1, ?_⟩
  rcases h.2 with hn | ⟨g, cap, cur, rfl, hB, hr⟩
  · exact .inl hn
  · exact .inr ⟨g, cap, cur, rfl, Nat.le_trans hb hB, hr⟩
theorem below_drewN {B : Nat} {a w : World} (h : Below B a w) (q : Nat) : Below B a (w.drewN q) := ⟨h.os, h.tape, h.output, h.size, h.block⟩
theorem below_grow {B : Nat} {a w : World} (h : Below B a w) (hB : B ≤ w.heap.size) (os : Array Go.Obj) : Below B a (grow w os) := by
  refine ⟨h.os, h.tape, h.output, ?_, fun k hk => ?_⟩
  · have := h.size; show _ ≤ (w.heap ++ os).size; simp; omega
  · rw [← h.block k hk]; show (w.heap ++ os)[k]? = _; rw [Array.getElem?_append_left (by omega)]
theorem mixed : Tryd.prog.follows .mixedOrders = true := by kernel_rfl


theorem map_tight {P : Program} {k : TypeId} {R : Value → Option (DataW Unit × List MemPlace)} {w : World} {b n : Nat} {D : DataW Unit} (h : w.ownsMap P k R b n D) : w.ownsMap P k R b (Maps.size D) D := by
  obtain ⟨es, clock, hb, F, hs, rfl⟩ := h
  exact ⟨es, clock, hb, F, by simp [Maps.size, length_sorted], rfl⟩
def own (sb bm : Nat) (k : Nat) : Prop := k = sb ∨ k = bm
theorem lawI : Maps.Keyed Tryd.prog 3 := Maps.int_keyed Tryd.underlying3
theorem zeroA (w : World) : (zeroValue 50).run Tryd.prog w = .ok (.agg #[.int .i64 0, .int .i64 0]) w := by kernel_rfl
/-- The block sb holds what is open: by number, in the map bm. -/
structure Obj (w : World) (B sb bm : Nat) (ls : List T) : Prop where
  inv : Inv ls
  c0 : w.cell? ⟨sb, 0, none⟩ = some (.map (some bm))
  map : ∃ D : DataW Unit, w.ownsMap Tryd.prog 3 pairElem bm ls.length D ∧ Opn D ls
  hs : B ≤ sb
  hm : B ≤ bm
  ne : bm ≠ sb
section
variable {w w' : World} {B sb bm : Nat} {ls : List T}
theorem Obj.lt (h : Obj w B sb bm ls) {k : Nat} (hk : own sb bm k) : k < w.heap.size := by
  rcases hk with rfl | rfl
  · exact World.block_lt_of_cell? w _ h.c0
  · obtain ⟨D, hD, _⟩ := h.map; exact hD.lt
theorem Obj.ge (h : Obj w B sb bm ls) {k : Nat} (hk : own sb bm k) : B ≤ k := by
  rcases hk with rfl | rfl
  · exact h.hs
  · exact h.hm
theorem Obj.off {K : Nat → Prop} (h : Obj w B sb bm ls) (ho : Off K w w') (hK : ∀ k, own sb bm k → ¬ K k) : Obj w' B sb bm ls := by
  have ks := hK sb (.inl rfl)
  have km := hK bm (.inr rfl)
  obtain ⟨D, hD, hN⟩ := h.map
  exact ⟨h.inv, ho.cell h.c0 ks, ⟨D, ho.map hD km, hN⟩, h.hs, h.hm, h.ne⟩
theorem Obj.below (h : Obj w B sb bm ls) (hb : Below w.heap.size w w') : Obj w' B sb bm ls :=
  h.off (Off.of_below (K := fun _ => False) hb) (fun _ _ => id)
theorem Obj.le (h : Obj w B sb bm ls) : B ≤ w.heap.size := by have := h.hs; have := h.lt (k := sb) (.inl rfl); omega
theorem Obj.turn {ls' : List T} {D : DataW Unit} {m : Nat} (h : Obj w B sb bm ls) (ho : Off (fun k => k = bm) w w') (hD : w'.ownsMap Tryd.prog 3 pairElem bm m D) (hN : Opn D ls') (inv : Inv ls') : Obj w' B sb bm ls' :=
  ⟨inv, ho.cell h.c0 (fun e => h.ne e.symm), ⟨D, by rw [← hN.size]; exact map_tight hD, hN⟩, h.hs, h.hm, h.ne⟩
end
/-- 'v, ok := m[k]' at an element of two integers. -/
theorem wpList_lookup_pair {P : Program} (w : World) {ops : Array Oper} {rest : List Oper} {o : Oper} {a : Act} {Q : Exit → Act → World → Prop} (hg : o.guard = none) (m x : Operand) (t : TypeId) (hop : o.op = Op.lookup t m x true)
    (k e : TypeId) (K : Maps.Keyed P k) (ht : P.underlying t = some (.map k e)) (hz : (zeroValue e).run P w = .ok (.agg #[.int .i64 0, .int .i64 0]) w) (b n : Nat) (D : DataW Unit)
    (hm : a.eval m = .map (some b)) (hown : w.ownsMap P k pairElem b n D) (key : Value) (kl : Lit) (hx : a.eval x = key) (hkey : keyOf P k key = some kl)
    (hK : ∀ c d : Int, D.atKey kl zed = .agg [.lit (.int .i64 c), .lit (.int .i64 d)] → wpList P ops Q rest (a.put o.dst (.tuple #[.agg #[.int .i64 c, .int .i64 d], .bool (Maps.has D kl)])) w) :
    wpList P ops Q (o :: rest) a w :=
  wpList_lookup_own_ok w hg m x t hop k e K ht pairElem hz zed [] (pairElem_mk 0 0) b n D hm hown key kl hx hkey (fun v ps hv => by
    obtain ⟨c, d, rfl, hc⟩ := pairElem_inv hv
    exact hK c d (congrArg Prod.fst hc))
def errV (f : Int) : Value := if f = 0 then .nilIface else .iface 48 (.int .i64 f)
theorem errV_0 : errV 0 = .nilIface := rfl
theorem errV_f {f : Int} (h : f ≠ 0) : errV f = .iface 48 (.int .i64 f) := if_neg h

set_option maxRecDepth 100000 in
set_option maxHeartbeats 2000000 in
theorem isPath_calls (n : Int) (w : World) : Calls Tryd.prog 17 #[.int .i64 n] w fun e w' => e = .returned (.bool (pathB n)) ∧ w' = w := by
  by_cases h1 : 0 ≤ n
  · by_cases h2 : n < 4
    · go_enter Tryd.func17, Tryd.ntmps17
      go_wp2
      go_ret
      exact ⟨by simp [pathB] <;> omega, rfl⟩
    · go_enter Tryd.func17, Tryd.ntmps17
      go_wp2
      go_ret
      exact ⟨by simp [pathB] <;> omega, rfl⟩
  · go_enter Tryd.func17, Tryd.ntmps17
    go_wp2
    go_ret
    exact ⟨by simp [pathB] <;> omega, rfl⟩

set_option maxRecDepth 100000 in
set_option maxHeartbeats 2000000 in
theorem isNumber_calls (n : Int) (w : World) : Calls Tryd.prog 18 #[.int .i64 n] w fun e w' => e = .returned (.bool (numB n)) ∧ w' = w := by
  by_cases h1 : 0 ≤ n
  · by_cases h2 : n ≤ 1073741823
    · go_enter Tryd.func18, Tryd.ntmps18
      go_wp2
      go_ret
      exact ⟨by simp [numB] <;> omega, rfl⟩
    · go_enter Tryd.func18, Tryd.ntmps18
      go_wp2
      go_ret
      exact ⟨by simp [numB] <;> omega, rfl⟩
  · go_enter Tryd.func18, Tryd.ntmps18
    go_wp2
    go_ret
    exact ⟨by simp [numB] <;> omega, rfl⟩

set_option maxRecDepth 100000 in
set_option maxHeartbeats 2000000 in
theorem isTime_calls (n : Int) (w : World) : Calls Tryd.prog 14 #[.int .i64 n] w fun e w' => e = .returned (.bool (timeB n)) ∧ w' = w := by
  by_cases h1 : 0 ≤ n
  · by_cases h2 : n ≤ 100000
    · go_enter Tryd.func14, Tryd.ntmps14
      go_wp2
      go_ret
      exact ⟨by simp [timeB] <;> omega, rfl⟩
    · go_enter Tryd.func14, Tryd.ntmps14
      go_wp2
      go_ret
      exact ⟨by simp [timeB] <;> omega, rfl⟩
  · go_enter Tryd.func14, Tryd.ntmps14
    go_wp2
    go_ret
    exact ⟨by simp [timeB] <;> omega, rfl⟩

set_option maxRecDepth 100000 in
set_option maxHeartbeats 2000000 in
theorem may_calls (n : Int) (w : World) : Calls Tryd.prog 16 #[.int .i64 n] w fun e w' => e = .returned (.bool (numB n)) ∧ w' = w := by
  by_cases h1 : 0 ≤ n
  · by_cases h2 : n ≤ 1073741823
    · go_enter Tryd.func16, Tryd.ntmps16
      go_wp2
      go_ret
      exact ⟨by simp [numB] <;> omega, rfl⟩
    · go_enter Tryd.func16, Tryd.ntmps16
      go_wp2
      go_ret
      exact ⟨by simp [numB] <;> omega, rfl⟩
  · go_enter Tryd.func16, Tryd.ntmps16
    go_wp2
    go_ret
    exact ⟨by simp [numB] <;> omega, rfl⟩

set_option maxRecDepth 100000 in
set_option maxHeartbeats 2000000 in
theorem isRight_a (p n t : Int) (w : World) (h1 : pathB p = false) : Calls Tryd.prog 13 #[.int .i64 p, .int .i64 n, .int .i64 t] w fun e w' => e = .returned (.bool false) ∧ w' = w := by
  go_enter Tryd.func13, Tryd.ntmps13
  go_wp2_with (first | (go_at_call 17; refine (isPath_calls p _).mono ?_; rintro e w1 ⟨rfl, rfl⟩; rw [h1]))
  go_ret
  exact ⟨rfl, rfl⟩

set_option maxRecDepth 100000 in
set_option maxHeartbeats 2000000 in
theorem isRight_b (p n t : Int) (w : World) (h1 : pathB p = true) (h2 : numB n = false) : Calls Tryd.prog 13 #[.int .i64 p, .int .i64 n, .int .i64 t] w fun e w' => e = .returned (.bool false) ∧ w' = w := by
  go_enter Tryd.func13, Tryd.ntmps13
  go_wp2_with (first | (go_at_call 17; refine (isPath_calls p _).mono ?_; rintro e w1 ⟨rfl, rfl⟩; rw [h1]) | (go_at_call 18; refine (isNumber_calls n _).mono ?_; rintro e w1 ⟨rfl, rfl⟩; rw [h2]))
  go_ret
  exact ⟨rfl, rfl⟩

set_option maxRecDepth 100000 in
set_option maxHeartbeats 2000000 in
theorem isRight_c (p n t : Int) (w : World) (h1 : pathB p = true) (h2 : numB n = true) (h3 : timeB t = false) : Calls Tryd.prog 13 #[.int .i64 p, .int .i64 n, .int .i64 t] w fun e w' => e = .returned (.bool false) ∧ w' = w := by
  go_enter Tryd.func13, Tryd.ntmps13
  go_wp2_with (first | (go_at_call 17; refine (isPath_calls p _).mono ?_; rintro e w1 ⟨rfl, rfl⟩; rw [h1]) | (go_at_call 18; refine (isNumber_calls n _).mono ?_; rintro e w1 ⟨rfl, rfl⟩; rw [h2]) | (go_at_call 14; refine (isTime_calls t _).mono ?_; rintro e w1 ⟨rfl, rfl⟩; rw [h3]))
  go_ret
  exact ⟨rfl, rfl⟩

set_option maxRecDepth 100000 in
set_option maxHeartbeats 2000000 in
theorem isRight_d (p n t : Int) (w : World) (h1 : pathB p = true) (h2 : numB n = true) (h3 : timeB t = true) : Calls Tryd.prog 13 #[.int .i64 p, .int .i64 n, .int .i64 t] w fun e w' => e = .returned (.bool true) ∧ w' = w := by
  go_enter Tryd.func13, Tryd.ntmps13
  go_wp2_with (first | (go_at_call 17; refine (isPath_calls p _).mono ?_; rintro e w1 ⟨rfl, rfl⟩; rw [h1]) | (go_at_call 18; refine (isNumber_calls n _).mono ?_; rintro e w1 ⟨rfl, rfl⟩; rw [h2]) | (go_at_call 14; refine (isTime_calls t _).mono ?_; rintro e w1 ⟨rfl, rfl⟩; rw [h3]))
  go_ret
  exact ⟨rfl, rfl⟩

theorem isRight_calls (p n t : Int) (w : World) : Calls Tryd.prog 13 #[.int .i64 p, .int .i64 n, .int .i64 t] w fun e w' => e = .returned (.bool (rightB p n t)) ∧ w' = w := by
  cases h1 : pathB p with
  | false => rw [show rightB p n t = false by simp [rightB, h1]]; exact isRight_a p n t w h1
  | true =>
    cases h2 : numB n with
    | false => rw [show rightB p n t = false by simp [rightB, h2]]; exact isRight_b p n t w h1 h2
    | true =>
      cases h3 : timeB t with
      | false => rw [show rightB p n t = false by simp [rightB, h3]]; exact isRight_c p n t w h1 h2 h3
      | true => rw [show rightB p n t = true by simp [rightB, h1, h2, h3]]; exact isRight_d p n t w h1 h2 h3
theorem new_obj (w : World) : Obj ((w.alloc (.map #[] 0)).alloc (.cells #[.map (some w.heap.size)] 46)) w.heap.size (w.heap.size + 1) w.heap.size [] := by
  have hm : (w.alloc (.map #[] 0)).ownsMap Tryd.prog 3 pairElem w.heap.size 0 (.map []) := World.ownsMap_made w _ _ _
  have e : (w.alloc (.map #[] 0)).heap.size = w.heap.size + 1 := by simp
  refine ⟨Inv.start, ?_, ⟨.map [], hm.alloc _, Opn.start⟩, by omega, by omega, by omega⟩
  rw [← e]; simp
set_option maxRecDepth 100000 in
set_option maxHeartbeats 2000000 in
theorem new_calls' (w : World) : Calls Tryd.prog 6 #[] w fun e w' => e = .returned (.pointer (some ⟨w.heap.size + 1, 0, none⟩)) ∧ Obj w' w.heap.size (w.heap.size + 1) w.heap.size [] ∧ Below w.heap.size w w' := by
  have hmm := @run_makeMap Tryd.prog
  go_enter Tryd.func6, Tryd.ntmps6
  go_wp2_with fail
  go_ret
  exact ⟨by simp, new_obj _, ((Below.refl _ _).alloc (Nat.le_refl _) _).alloc (by simp) _⟩
theorem new_calls (w : World) : Calls Tryd.prog 6 #[] w fun e w' => ∃ sb bm, e = .returned (.pointer (some ⟨sb, 0, none⟩)) ∧ Obj w' w.heap.size sb bm [] ∧ Below w.heap.size w w' :=
  (new_calls' w).mono fun e w' ⟨h1, h2, h3⟩ => ⟨_, _, h1, h2, h3⟩
set_option maxRecDepth 100000 in
set_option maxHeartbeats 2000000 in
theorem open_calls {w : World} {B sb bm : Nat} {ls : List T} (h : Obj w B sb bm ls) : Calls Tryd.prog 9 #[.pointer (some ⟨sb, 0, none⟩)] w fun e w' => e = .returned (.int .i64 (ls.length : Int)) ∧ w' = w := by
  obtain ⟨inv, c0, ⟨D, hD, hN⟩, _⟩ := h
  go_enter Tryd.func9, Tryd.ntmps9
  go_wp2_with (at_len; refine wpList_len_own _ rfl _ 44 rfl 3 50 Tryd.underlying44 _ bm _ D rfl hD ?_; rw [hN.size])
  go_ret
  exact ⟨rfl, rfl⟩
end Go.Proofs.YtkfhfljoalbkkaaDoor
