/- What a call leaves as it was; a stream as it lies in memory; New, clashes, Put, Ready. -/
import Derived.Test.YtipmaphgkfegmaaDoorA
import Derived.Test.YtipmaphgkfegmaaDoorChecked
import Derived.WalkKit
import Derived.WalkSpells
import Derived.WalkLawsBesides
import Derived.LoopN
import Derived.Outline
import Derived.BigQuiet
import Derived.Deep.RegionWith
import Derived.Deep.RegionHeld3
import Derived.Shelf.SlSortCmp.QuietGrown
import Derived.Deep.LoopGhost
import Derived.Deep.DeepCutAuto
import Derived.KernelRfl
namespace Go.Proofs.YtipmaphgkfegmaaDoor
open Go.RowKit Go.Lib Go.Sort
set_option linter.unusedVariables false
set_option linter.unusedSimpArgs false

/-- But for the blocks K and new ones the world is as it was. -/
structure Off (K : Nat → Prop) (w w' : World) : Prop where
  os : w'.os = w.os
  tape : w'.tape = w.tape
  output : w'.output = w.output
  size : w.heap.size ≤ w'.heap.size
  block : ∀ k, k < w.heap.size → ¬ K k → w'.heap[k]? = w.heap[k]?
theorem Off.refl (K : Nat → Prop) (w : World) : Off K w w := ⟨rfl, rfl, rfl, Nat.le_refl _, fun _ _ _ => rfl⟩
theorem Off.trans {K : Nat → Prop} {a b c : World} (h : Off K a b) (k : Off K b c) : Off K a c :=
  ⟨k.os.trans h.os, k.tape.trans h.tape, k.output.trans h.output, Nat.le_trans h.size k.size, fun i hi hk => (k.block i (Nat.lt_of_lt_of_le hi h.size) hk).trans (h.block i hi hk)⟩
theorem Off.mono {K K' : Nat → Prop} {w w' : World} (h : Off K w w') (hK : ∀ k, k < w.heap.size → K k → K' k) : Off K' w w' := ⟨h.os, h.tape, h.output, h.size, fun k hk hn => h.block k hk (fun e => hn (hK k hk e))⟩
theorem Off.of_below {K : Nat → Prop} {w w' : World} (h : Below w.heap.size w w') : Off K w w' := ⟨h.os, h.tape, h.output, h.size, fun k hk _ => h.block k hk⟩
theorem Off.below {K : Nat → Prop} {B : Nat} {w w' : World} (h : Off K w w') (hK : ∀ k, K k → B ≤ k) (hB : B ≤ w.heap.size) : Below B w w' :=
  ⟨h.os, h.tape, h.output, h.size, fun k hk => h.block k (by omega) (fun e => by have := hK k e; omega)⟩
theorem Off.of_grown {K : Nat → Prop} {w w' : World} {row : Option Nat} (h : w.grownBy w' row) (hK : ∀ k, row = some k → K k) : Off K w w' :=
  ⟨h.os, h.tape, h.output, h.size, fun k hk hn => h.block k hk (fun e => hn (hK k e.symm))⟩
theorem Off.setCell {K : Nat → Prop} {w w' : World} (h : Off K w w') {a : Addr} (hK : K a.block) (u : Value) : Off K w (w'.setCell a u) :=
  h.trans ⟨rfl, rfl, rfl, by simp [World.setCell], fun k _ hn => Below.heap_setCell _ _ _ _ (fun e => hn (e ▸ hK))⟩
theorem Off.alloc {K : Nat → Prop} {w w' : World} (h : Off K w w') (o : Go.Obj) : Off K w (w'.alloc o) := h.trans (Off.of_below ((Below.refl _ _).alloc (Nat.le_refl _) _))
theorem Off.drew {K : Nat → Prop} {w w' : World} (h : Off K w w') : Off K w w'.drew := ⟨h.os, h.tape, h.output, h.size, h.block⟩
theorem Off.cell {K : Nat → Prop} {w w' : World} (h : Off K w w') {p : Addr} {v : Value} (hc : w.cell? p = some v) (hn : ¬ K p.block) : w'.cell? p = some v :=
  (World.cell?_of_block (h.block p.block (World.block_lt_of_cell? w p hc) hn)).trans hc
theorem Off.frozen {K : Nat → Prop} {w w' : World} (h : Off K w w') {p : Addr} (hl : p.block < w.heap.size) (hn : ¬ K p.block) : w'.frozen? p = w.frozen? p :=
  World.frozen?_of_block (h.block p.block hl hn)
theorem below_drewN {B : Nat} {a w : World} (h : Below B a w) (q : Nat) : Below B a (w.drewN q) := ⟨h.os, h.tape, h.output, h.size, h.block⟩
theorem mixed : Tryd.prog.follows .mixedOrders = true := by kernel_rfl
theorem wrap_small (n : Int) (h0 : -10000000000 ≤ n) (h1 : n ≤ 10000000000) : IntKind.i64.wrap n = n := by simp [IntKind.wrap, IntKind.bits, IntKind.signed]; omega
def errV (f : Int) : Value := if f = 0 then .nilIface else .iface 51 (.int .i64 f)
theorem errV_0 : errV 0 = .nilIface := rfl
theorem errV_f {f : Int} (h : f ≠ 0) : errV f = .iface 51 (.int .i64 f) := if_neg h
theorem index_at {d : ByteArray} {k : Nat} (h : k < d.size) (w : World) : (Instr.index 9 (.string d) (.int .i64 (k : Int))).run Tryd.prog w = .ok (.int .u8 (bat d k)) w := by
  rw [run_index_string w 9 d .i64 k (by kernel_rfl), dif_pos (by omega)]
  simp only [Int.toNat_natCast]
  rw [bat_get h]
theorem cell_next {w : World} {a b : Addr} {u v : Value} (h : w.cell? a = some v) (e : a.off ≠ b.off) : (w.setCell b u).cell? a = some v := by
  rw [World.cell?_setCell_other _ _ _ _ (by intro e'; subst e'; exact e rfl)]; exact h
/-- The program's stream, in the block sb, not below the block B. -/
structure Obj (w : World) (B sb : Nat) (s : St) : Prop where
  inv : Inv s
  cb : ∀ i, i < 60 → w.cell? ⟨sb, i, none⟩ = some (.int .u8 (s.byt i))
  cc : ∀ i, i < 60 → w.cell? ⟨sb, 60 + i, none⟩ = some (.bool (s.cm i))
  ct : w.cell? ⟨sb, 120, none⟩ = some (.int .i64 s.tk)
  fz : ∀ i, i < 121 → w.frozen? ⟨sb, i, none⟩ = false
  hs : B ≤ sb
section
variable {w w' : World} {B sb : Nat} {s : St}
theorem Obj.lt (h : Obj w B sb s) : sb < w.heap.size := World.block_lt_of_cell? w _ h.ct
theorem Obj.le (h : Obj w B sb s) : B ≤ w.heap.size := by have := h.hs; have := h.lt; omega
theorem Obj.off {K : Nat → Prop} (h : Obj w B sb s) (ho : Off K w w') (hK : ¬ K sb) : Obj w' B sb s :=
  ⟨h.inv, fun i hi => ho.cell (h.cb i hi) hK, fun i hi => ho.cell (h.cc i hi) hK, ho.cell h.ct hK, fun i hi => (ho.frozen (p := ⟨sb, i, none⟩) h.lt hK).trans (h.fz i hi), h.hs⟩
theorem Obj.below (h : Obj w B sb s) (hb : Below w.heap.size w w') : Obj w' B sb s := h.off (Off.of_below (K := fun _ => False) hb) id
theorem Obj.base (h : Obj w B sb s) {B' : Nat} (hb : B' ≤ B) : Obj w B' sb s := ⟨h.inv, h.cb, h.cc, h.ct, h.fz, Nat.le_trans hb h.hs⟩
/-- One byte of a piece, stored with its mark. -/
theorem Obj.up {a n : Nat} {d : ByteArray} (h : Obj w B sb (upS s a d n)) (hn : a + n < 60) :
    Obj ((w.setCell ⟨sb, a + n, none⟩ (.int .u8 (bat d n))).setCell ⟨sb, 60 + (a + n), none⟩ (.bool true)) B sb (upS s a d (n + 1)) := by
  refine ⟨?_, fun i hi => ?_, fun i hi => ?_, ?_, fun i hi => by simpa using h.fz i hi, h.hs⟩
  · refine ⟨h.inv.t, fun i => ?_⟩
    rw [upS_byt]
    by_cases e : i = a + n
    · simp only [e, if_true]; exact bat_range _ _
    · simp only [e, if_false]; exact h.inv.b i
  · rw [upS_byt]
    refine cell_next ?_ (by show i ≠ 60 + (a + n); omega)
    by_cases e : i = a + n
    · subst e
      simp only [if_true]
      exact World.cell?_setCell_same _ _ _ (h.cb _ hi)
    · simp only [e, if_false]
      exact cell_next (h.cb i hi) e
  · rw [upS_cm]
    by_cases e : i = a + n
    · subst e
      simp only [if_true]
      exact World.cell?_setCell_same _ _ _ (cell_next (h.cc _ hi) (by show 60 + (a + n) ≠ a + n; omega))
    · simp only [e, if_false]
      exact cell_next (cell_next (h.cc i hi) (by show 60 + i ≠ a + n; omega)) (by show 60 + i ≠ 60 + (a + n); omega)
  · exact cell_next (cell_next h.ct (by show 120 ≠ a + n; omega)) (by show 120 ≠ 60 + (a + n); omega)
/-- So many more were taken. -/
theorem Obj.take (h : Obj w B sb s) {n : Int} {z : Int} (hz : z = ((s.tk + takeN s n : Nat) : Int)) : Obj (w.setCell ⟨sb, 120, none⟩ (.int .i64 z)) B sb (takeS s n) := by
  subst hz
  exact ⟨h.inv.take n, fun i hi => cell_next (h.cb i hi) (by show i ≠ 120; omega), fun i hi => cell_next (h.cc i hi) (by show 60 + i ≠ 120; omega), World.cell?_setCell_same _ _ _ h.ct, fun i hi => by simpa using h.fz i hi, h.hs⟩
end
def zc : Array Value := Array.replicate 60 (.int .u8 0) ++ Array.replicate 60 (.bool false) ++ #[.int .i64 0]
theorem zc_b (i : Nat) (h : i < 60) : zc[i]? = some (.int .u8 0) := by simp [zc, Array.getElem?_append, h]
theorem zc_c (i : Nat) (h : i < 60) : zc[60 + i]? = some (.bool false) := by
  have a : ¬ 60 + i < 60 := by omega
  have b : 60 + i < 120 := by omega
  simp [zc, Array.getElem?_append, Array.getElem?_push, h, a, b]; omega
theorem zc_t : zc[120]? = some (.int .i64 0) := by simp [zc, Array.getElem?_append, Array.getElem_push]
theorem Obj.new (w : World) : Obj (w.alloc (.cells zc 49)) w.heap.size w.heap.size newS := by
  refine ⟨Inv.new, fun i hi => ?_, fun i hi => ?_, ?_, fun i hi => ?_, Nat.le_refl _⟩
  · simp [zc_b i hi, newS]
  · simp [zc_c i hi, newS]
  · simp [zc_t, newS]
  · simp
theorem zero_stream (w : World) : (zeroValue 49).run Tryd.prog w = .ok (.agg zc) w := by kernel_rfl
/-- The stream in sb is now s; all else is as it was. -/
def Turned (w w' : World) (B sb : Nat) (s : St) : Prop := Obj w' B sb s ∧ Off (fun k => k = sb) w w'
theorem Turned.same {w : World} {B sb : Nat} {s : St} (h : Obj w B sb s) : Turned w w B sb s := ⟨h, Off.refl _ _⟩
theorem Turned.below {w w' : World} {B sb : Nat} {s : St} (h : Obj w B sb s) (hb : Below w.heap.size w w') : Turned w w' B sb s := ⟨h.below hb, Off.of_below hb⟩
theorem Turned.trans {w w1 w2 : World} {B sb : Nat} {s s' : St} (h : Turned w w1 B sb s) (k : Turned w1 w2 B sb s') : Turned w w2 B sb s' := ⟨k.1, h.2.trans k.2⟩

set_option maxRecDepth 100000 in
set_option maxHeartbeats 2000000 in
theorem isPlace_calls (n : Int) (w : World) : Calls Tryd.prog 17 #[.int .i64 n] w fun e w' => e = .returned (.bool (placeB n)) ∧ w' = w := by
  by_cases h1 : 0 ≤ n
  · by_cases h2 : n ≤ 60
    · go_enter Tryd.func17, Tryd.ntmps17
      go_wp2
      go_ret
      exact ⟨by simp [placeB] <;> omega, rfl⟩
    · go_enter Tryd.func17, Tryd.ntmps17
      go_wp2
      go_ret
      exact ⟨by simp [placeB] <;> omega, rfl⟩
  · go_enter Tryd.func17, Tryd.ntmps17
    go_wp2
    go_ret
    exact ⟨by simp [placeB] <;> omega, rfl⟩

set_option maxRecDepth 100000 in
set_option maxHeartbeats 2000000 in
theorem new_calls (w : World) : Calls Tryd.prog 5 #[] w fun e w' => e = .returned (.pointer (some ⟨w.heap.size, 0, none⟩)) ∧ Obj w' w.heap.size w.heap.size newS ∧ Below w.heap.size w w' := by
  have hO := Obj.new w
  have hz := zero_stream
  generalize zc = z at hO hz
  go_enter Tryd.func5, Tryd.ntmps5
  go_wp2_with fail
  go_ret
  exact ⟨rfl, hO, (Below.refl _ _).alloc (Nat.le_refl _) _⟩
theorem box_cells (w : World) (p : Int) (d : ByteArray) : (w.alloc (.cells #[.int .i64 p, .string d] 29)).cell? ⟨w.heap.size, 0, none⟩ = some (.int .i64 p) ∧ (w.alloc (.cells #[.int .i64 p, .string d] 29)).cell? ⟨w.heap.size, 1, none⟩ = some (.string d) := by simp
set_option maxRecDepth 100000 in
set_option maxHeartbeats 2000000 in
theorem clashes_calls {w : World} {B sb : Nat} {s : St} (h : Obj w B sb s) (a : Nat) (d : ByteArray) (hd : a + d.size ≤ 60) : Calls Tryd.prog 18 #[.pointer (some ⟨sb, 0, none⟩), .agg #[.int .i64 a, .string d]] w fun e w' => e = .returned (.bool (clB s a d)) ∧ Below w.heap.size w w' := by
  have hb0 : Below w.heap.size w (w.alloc (.cells #[.int .i64 a, .string d] 29)) := (Below.refl _ _).alloc (Nat.le_refl _) _
  have HO : Hid (Obj (w.alloc (.cells #[.int .i64 a, .string d] 29)) B sb s) := h.below hb0
  have HB : Hid (Below w.heap.size w (w.alloc (.cells #[.int .i64 a, .string d] 29))) := hb0
  have HQ : Hid (w.heap.size < (w.alloc (.cells #[.int .i64 a, .string d] 29)).heap.size) := by show _ < _; simp
  obtain ⟨q0, q1⟩ := box_cells w a d
  clear h hb0
  go_enter Tryd.func18, Tryd.ntmps18
  go_wp2_with fail
  generalize w.alloc (.cells #[.int .i64 a, .string d] 29) = W at HO HB HQ q0 q1 ⊢
  go_loopg [9] d.size (fun gk s9 wr => ∃ k : Nat, gk + k = d.size ∧ s9 = .int .i64 k ∧ Hid (∀ i, i < k → cl s a d i = false) ∧ Below W.heap.size W wr)
  case atStart => exact ⟨0, rfl, rfl, (show ∀ i, i < 0 → cl s a d i = false from fun i hi => by omega), Below.refl _ _⟩
  case round =>
    obtain ⟨k, hk, rfl, hE, hW⟩ := hrel
    have HK : Hid (gk + k = d.size) := hk
    clear hk
    have p0 := (hW.cell (p := ⟨w.heap.size, 0, none⟩) HQ.out).trans q0
    have p1 := (hW.cell (p := ⟨w.heap.size, 1, none⟩) HQ.out).trans q1
    by_cases g : (k : Int) < (d.size : Int)
    · have x0 := (HO.out.below hW).cb (a + k) (by omega)
      have x1 := (HO.out.below hW).cc (a + k) (by omega)
      have hix := fun w => index_at (d := d) (k := k) (by omega) w
      have u1 := wrap_small ((a : Int) + (k : Int)) (by omega) (by omega)
      have HN : Hid (cl s a d k = false → ∀ i, i < k + 1 → cl s a d i = false) := by
        show _ → _
        intro hc i hi
        by_cases e : i = k
        · rw [e]; exact hc
        · exact hE.out i (by omega)
      have HY : Hid (cl s a d k = true → clB s a d = true) := fun hc => clB_yes (by omega) hc
      have HC : Hid (cl s a d k = (s.cm (a + k) && (s.byt (a + k) != bat d k))) := rfl
      clear hE
      generalize s.cm (a + k) = c at x1 HC
      generalize s.byt (a + k) = y at x0 HC
      generalize bat d k = z at hix HC
      cases c with
      | false =>
        have hc : cl s a d k = false := by rw [HC.out]; rfl
        have HM : Hid (∀ i, i < k + 1 → cl s a d i = false) := HN.out hc
        clear HN HY HC hc
        go_wp2_with fail
        go_quiet (fail)
        go_wp2_with fail
        go_roundg (d.size - (k + 1))
        case measure => have := HK.out; omega
        case rel => exact ⟨k + 1, by have := HK.out; omega, by go_num, HM, below_drewN hW _⟩
      | true =>
        by_cases e : y = z
        · subst e
          have hc : cl s a d k = false := by rw [HC.out]; simp
          have HM : Hid (∀ i, i < k + 1 → cl s a d i = false) := HN.out hc
          clear HN HY HC hc
          go_wp2_with fail
          go_quiet (fail)
          go_wp2_with fail
          go_roundg (d.size - (k + 1))
          case measure => have := HK.out; omega
          case rel => exact ⟨k + 1, by have := HK.out; omega, by go_num, HM, below_drewN hW _⟩
        · have hc : cl s a d k = true := by rw [HC.out]; simp [e]
          have HM : Hid (clB s a d = true) := HY.out hc
          clear HN HY HC hc
          go_wp2_with fail
          go_quiet (fail)
          go_wp2_with fail
          go_ret
          exact ⟨by rw [HM.out]; rfl, HB.out.trans ((below_drewN hW _).mono (Nat.le_of_lt HQ.out))⟩
    · have HM : Hid (clB s a d = false) := clB_no fun i hi => hE.out i (by omega)
      go_wp2_with fail
      go_ret
      exact ⟨by rw [HM.out]; rfl, HB.out.trans (hW.mono (Nat.le_of_lt HQ.out))⟩
end Go.Proofs.YtipmaphgkfegmaaDoor
