/- What the laws of package run need. -/
import Derived.Test.YtdokgalidhmbbaaGreatDoorHEB
set_option linter.unusedVariables false
set_option linter.unusedSimpArgs false
set_option maxRecDepth 100000
set_option maxHeartbeats 8000000
namespace Go.Proofs.YtdokgalidhmbbaaGreatDoor.Ez
open Go.RowKit Go.Lib Go.Sort


open Sx (bat)
variable {pz : Nat} {Qz : Nat → Option Value}

theorem cell_blk {w w' : World} {b i : Nat} (h : w'.heap[b]? = w.heap[b]?) : w'.cell? ⟨b, i, none⟩ = w.cell? ⟨b, i, none⟩ := by unfold World.cell?; rw [h]
/-- An End from the place pz of the block eb on, its loads in vl, what came in vc, all else of the block as Qz has it; none of them below the block B. -/
structure EP (pz : Nat) (Qz : Nat → Option Value) (w : World) (B eb : Nat) (vl vc : Value) (e : En) : Prop where
  inv : EInv e
  cl : ∀ i, i < 251 → w.cell? ⟨eb, pz + i, none⟩ = some (ecell e vl vc i)
  fz : ∀ i, w.frozen? ⟨eb, i, none⟩ = false
  rs : ∀ i, (i < pz ∨ pz + 251 ≤ i) → w.cell? ⟨eb, i, none⟩ = Qz i
  hs : B ≤ eb
  ld : w.ownsRow B 241 62 vl e.ls.length (lds e.ls)
  cm : w.ownsRow B 143 2 vc e.cm.length (flat e.cm)
  ap : vl.ownBlock ≠ some eb ∧ vc.ownBlock ≠ some eb
section
variable {w w' : World} {B eb : Nat} {vl vc : Value} {e : En}
theorem EP.lt (h : EP pz Qz w B eb vl vc e) : eb < w.heap.size := World.block_lt_of_cell? w _ (h.cl 60 (by omega))
theorem EP.own_lt (h : EP pz Qz w B eb vl vc e) {k : Nat} (hk : OwnE eb vl vc k) : B ≤ k ∧ k < w.heap.size := by
  rcases hk with rfl | hk | hk
  · exact ⟨h.hs, h.lt⟩
  · exact h.ld.lt k hk
  · exact h.cm.lt k hk
theorem EP.le (h : EP pz Qz w B eb vl vc e) : B ≤ w.heap.size := by have := h.hs; have := h.lt; omega
theorem EP.off {K : Nat → Prop} (h : EP pz Qz w B eb vl vc e) (ho : Off K w w') (hK : ∀ k, OwnE eb vl vc k → ¬ K k) : EP pz Qz w' B eb vl vc e :=
  ⟨h.inv, fun i hi => ho.cell (h.cl i hi) (hK eb (.inl rfl)), fun i => (ho.frozen (p := ⟨eb, i, none⟩) h.lt (hK eb (.inl rfl))).trans (h.fz i), fun i hi => (cell_blk (ho.block eb h.lt (hK eb (.inl rfl)))).trans (h.rs i hi), h.hs,
    ho.row h.ld fun k hk => hK k (.inr (.inl hk)), ho.row h.cm fun k hk => hK k (.inr (.inr hk)), h.ap⟩
theorem EP.below (h : EP pz Qz w B eb vl vc e) (hb : Below w.heap.size w w') : EP pz Qz w' B eb vl vc e := h.off (Off.of_below (K := fun _ => False) hb) fun _ _ => id
theorem EP.told (h : EP pz Qz w B eb vl vc e) (i : Nat) (hi : i < 60) : w.cell? ⟨eb, pz + 61 + i, none⟩ = some (.bool (decide (i < e.t))) := by rw [Nat.add_assoc, h.cl _ (by omega), ecell_told hi]
theorem EP.out (h : EP pz Qz w B eb vl vc e) (i : Nat) (hi : i < 60) : w.cell? ⟨eb, pz + i, none⟩ = some (.int .u8 (bat e.d i)) := by rw [h.cl _ (by omega), ecell_out hi]
theorem EP.crow (h : EP pz Qz w B eb vl vc e) : Row w vc e.cm := row_of_own h.cm (by
  have := ((chk_ok e.cm).1 h.inv.cm).1
  omega)
theorem EP.ones (h : EP pz Qz w B eb vl vc e) : vl.oneCell' = true ∧ vc.oneCell' = true := by
  constructor
  · rcases h.ld.2 with ⟨e, _⟩ | ⟨g, cap, cur, e, _⟩ <;> rw [e] <;> rfl
  · rcases h.cm.2 with ⟨e, _⟩ | ⟨g, cap, cur, e, _⟩ <;> rw [e] <;> rfl
end
set_option maxRecDepth 100000 in
set_option maxHeartbeats 4000000 in
theorem limit_calls {w : World} {B eb : Nat} {vl vc : Value} {e : En} (h : EP pz Qz w B eb vl vc e) : Calls Tryz.prog 154 #[.pointer (some ⟨eb, pz + 246, none⟩)] w fun ex w' => ex = .returned (.int .i64 e.c.lim) ∧ w' = w := by
  have c1 : w.cell? ⟨eb, pz + 246 + 1, none⟩ = some (.int .i64 e.c.lim) := h.cl 247 (by omega)
  generalize e.c.lim = z at c1 ⊢
  go_enter Tryz.func154, Tryz.ntmps154
  go_wp2_with fail
  go_ret
  exact ⟨rfl, rfl⟩
/-- What a call leaves of an End, and all else. -/
def TurnP (pz : Nat) (Qz : Nat → Option Value) (w w' : World) (B eb : Nat) (vl vc : Value) (e : En) : Prop :=
  ∃ vl' vc', EP pz Qz w' B eb vl' vc' e ∧ Off (OwnE eb vl vc) w w' ∧ ∀ k, OwnE eb vl' vc' k → OwnE eb vl vc k ∨ w.heap.size ≤ k
theorem TurnP.below {w w' : World} {B eb : Nat} {vl vc : Value} {e : En} (h : EP pz Qz w B eb vl vc e) (hb : Below w.heap.size w w') : TurnP pz Qz w w' B eb vl vc e := ⟨vl, vc, h.below hb, Off.of_below hb, fun _ hk => .inl hk⟩
theorem TurnP.same {w : World} {B eb : Nat} {vl vc : Value} {e : En} (h : EP pz Qz w B eb vl vc e) : TurnP pz Qz w w B eb vl vc e := ⟨vl, vc, h, Off.refl _ _, fun _ hk => .inl hk⟩
theorem TurnP.trans {w w1 w2 : World} {B eb : Nat} {vl vc vl1 vc1 : Value} {e e' : En} (h1 : EP pz Qz w1 B eb vl1 vc1 e) (ho : Off (OwnE eb vl vc) w w1) (hk : ∀ k, OwnE eb vl1 vc1 k → OwnE eb vl vc k ∨ w.heap.size ≤ k) (h2 : TurnP pz Qz w1 w2 B eb vl1 vc1 e') : TurnP pz Qz w w2 B eb vl vc e' := by
  obtain ⟨vl2, vc2, o2, f2, k2⟩ := h2
  refine ⟨vl2, vc2, o2, ?_, fun k h => ?_⟩
  · refine ⟨f2.os.trans ho.os, f2.tape.trans ho.tape, f2.output.trans ho.output, Nat.le_trans ho.size f2.size, fun k hl hn => ?_⟩
    rw [f2.block k (Nat.lt_of_lt_of_le hl ho.size) (fun e => ?_), ho.block k hl hn]
    rcases hk k e with h | h
    · exact hn h
    · omega
  · rcases k2 k h with h | h
    · exact hk k h
    · exact .inr (Nat.le_trans ho.size h)
/-- Where a slice of the bytes that were written lies. -/
def offP (p T : Nat) : Nat := if 60 = T then p else p + T
end Go.Proofs.YtdokgalidhmbbaaGreatDoor.Ez
