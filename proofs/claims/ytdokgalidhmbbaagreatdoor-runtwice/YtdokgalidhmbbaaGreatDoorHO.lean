/- What the laws of package run need. -/
import Derived.Test.YtdokgalidhmbbaaGreatDoorHR
set_option linter.unusedVariables false
set_option linter.unusedSimpArgs false
set_option maxRecDepth 100000
set_option maxHeartbeats 8000000
namespace Go.Proofs.YtdokgalidhmbbaaGreatDoor
open Go.RowKit Go.Lib Go.Sort

/-- But for the blocks K and new ones the world is as it was. -/
structure Off (K : Nat → Prop) (w w' : World) : Prop where
  os : w'.os = w.os
  tape : w'.tape = w.tape
  output : w'.output = w.output
  size : w.heap.size ≤ w'.heap.size
  block : ∀ k, k < w.heap.size → ¬ K k → w'.heap[k]? = w.heap[k]?
theorem Off.refl (K : Nat → Prop) (w : World) : Off K w w := ⟨rfl, rfl, rfl, Nat.le_refl _, fun _ _ _ => rfl⟩
theorem Off.trans {K : Nat → Prop} {a b c : World} (h : Off K a b) (k : Off K b c) : Off K a c :=
  ⟨k.os.trans h.os, k.tape.trans h.tape, k.output.trans h.output, Nat.le_trans h.size k.size, fun i hi hk => (k.block i (Nat.lt_of_lt_of_le hi h.size) hk).trans (h.block i hi hk)⟩
theorem Off.mono {K K' : Nat → Prop} {w w' : World} (h : Off K w w') (hK : ∀ k, k < w.heap.size → K k → K' k) : Off K' w w' := ⟨h.os, h.tape, h.output, h.size, fun k hk hn => h.block k hk (fun e => hn (hK k hk e))⟩
theorem Off.of_below {K : Nat → Prop} {w w' : World} (h : Below w.heap.size w w') : Off K w w' := ⟨h.os, h.tape, h.output, h.size, fun k hk _ => h.block k hk⟩
theorem Off.below {K : Nat → Prop} {B : Nat} {w w' : World} (h : Off K w w') (hK : ∀ k, K k → B ≤ k) (hB : B ≤ w.heap.size) : Below B w w' :=
  ⟨h.os, h.tape, h.output, h.size, fun k hk => h.block k (by omega) (fun e => by have := hK k e; omega)⟩
theorem Off.of_grown {K : Nat → Prop} {w w' : World} {row : Option Nat} (h : w.grownBy w' row) (hK : ∀ k, row = some k → K k) : Off K w w' :=
  ⟨h.os, h.tape, h.output, h.size, fun k hk hn => h.block k hk (fun e => hn (hK k e.symm))⟩
theorem Off.setCell {K : Nat → Prop} {w w' : World} (h : Off K w w') {a : Addr} (hK : K a.block) (u : Value) : Off K w (w'.setCell a u) :=
  h.trans ⟨rfl, rfl, rfl, by simp [World.setCell], fun k _ hn => Below.heap_setCell _ _ _ _ (fun e => hn (e ▸ hK))⟩
theorem Off.alloc {K : Nat → Prop} {w w' : World} (h : Off K w w') (o : Go.Obj) : Off K w (w'.alloc o) := h.trans (Off.of_below ((Below.refl _ _).alloc (Nat.le_refl _) _))
theorem Off.drew {K : Nat → Prop} {w w' : World} (h : Off K w w') : Off K w w'.drew := ⟨h.os, h.tape, h.output, h.size, h.block⟩
theorem Off.cell {K : Nat → Prop} {w w' : World} (h : Off K w w') {p : Addr} {v : Value} (hc : w.cell? p = some v) (hn : ¬ K p.block) : w'.cell? p = some v :=
  (World.cell?_of_block (h.block p.block (World.block_lt_of_cell? w p hc) hn)).trans hc
theorem Off.frozen {K : Nat → Prop} {w w' : World} (h : Off K w w') {p : Addr} (hl : p.block < w.heap.size) (hn : ¬ K p.block) : w'.frozen? p = w.frozen? p :=
  World.frozen?_of_block (h.block p.block hl hn)
theorem errV_0 : errV 0 = .nilIface := rfl
theorem errV_f {f : Int} (h : f ≠ 0) : errV f = .iface 133 (.int .i64 f) := if_neg h
end Go.Proofs.YtdokgalidhmbbaaGreatDoor
