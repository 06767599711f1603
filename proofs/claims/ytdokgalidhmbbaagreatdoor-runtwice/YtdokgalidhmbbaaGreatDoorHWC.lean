/- What the laws of package run need. -/
import Derived.Test.YtdokgalidhmbbaaGreatDoorHWA
import Derived.Test.YtdokgalidhmbbaaGreatDoorHRS
import Derived.WalkSmall
import Derived.Laws.Strings
set_option linter.unusedVariables false
set_option linter.unusedSimpArgs false
set_option maxRecDepth 100000
set_option maxHeartbeats 8000000
namespace Go.Proofs.YtdokgalidhmbbaaGreatDoor
namespace Rn
open Go.RowKit

/-- What package run reads beside its arguments: its error, and the library's variables. -/
structure Env (w : World) (bv : Value) : Prop where
  low : 18 ≤ w.heap.size
  bad : w.cell? ⟨1, 0, none⟩ = some bv
  isB : ∃ t p, bv = .iface t p
  tab : Lib.TabIs Tryz.prog w "internal/strconv.uint64pow10" .u64 Lib.pow10Tab
  syn : ∃ t p, w.var? Tryz.prog "strconv.ErrSyntax" = some #[.iface t p]
  rng : ∃ t p, w.var? Tryz.prog "strconv.ErrRange" = some #[.iface t p]
theorem gTab : Tryz.prog.globalNamed "internal/strconv.uint64pow10" = some 6 := by kernel_rfl
theorem gSyn : Tryz.prog.globalNamed "strconv.ErrSyntax" = some 4 := by kernel_rfl
theorem gRng : Tryz.prog.globalNamed "strconv.ErrRange" = some 5 := by kernel_rfl
theorem Env.below {w w' : World} {bv : Value} {B : Nat} (h : Env w bv) (hb : Below B w w') (hB : 18 ≤ B) : Env w' bv where
  low := Nat.le_trans h.low hb.size
  bad := (hb.cell (p := ⟨1, 0, none⟩) (show 1 < B by omega)).trans h.bad
  isB := h.isB
  tab := var?_below hb gTab (by omega) h.tab
  syn := by obtain ⟨t, p, e⟩ := h.syn; exact ⟨t, p, var?_below hb gSyn (by omega) e⟩
  rng := by obtain ⟨t, p, e⟩ := h.rng; exact ⟨t, p, var?_below hb gRng (by omega) e⟩

/-- What a number of a line tells. -/
def numF (l : List UInt8) : Option Int :=
  match Lib.atoiAll l with
  | .ok v => if v < 0 ∨ 9999 < v ∨ Lib.itoa v ≠ l then none else some v
  | _ => none
def numV (bv : Value) : Option Int → Value
  | some n => .tuple #[.int .i64 n, .nilIface]
  | none => .tuple #[.int .i64 0, bv]
theorem below_grow (w : World) (k : Nat) (os : Array Go.Obj) : Below w.heap.size w (Go.Sort.grow (w.drewN k) os) :=
  (below_drewN (Below.refl _ w) k).trans ⟨rfl, rfl, rfl, by simp [Go.Sort.grow], fun i hi => by
    simp only [Go.Sort.grow]
    exact Array.getElem?_append_left hi⟩
theorem below_bytes (w : World) (t : TypeId) (x : ByteArray) : Below w.heap.size w (Lib.bytesWorld w t x) := by
  have h : Below w.heap.size w (w.drew.alloc (.cells (Lib.bytesCells w t x) t)) := (Below.refl _ w).drew.alloc (Nat.le_refl _) _
  refine h.trans ⟨rfl, rfl, rfl, ?_, fun i hi => ?_⟩
  · simp [Lib.bytesWorld, World.freeze]
  · simp [Lib.bytesWorld, World.freeze, Array.getElem?_modify]
    omega
theorem atoi_calls (s : ByteArray) (hs : s.size ≤ 3000) {w : World} {bv : Value} (h : Env w bv) : Calls Tryz.prog 94 #[.string s] w fun e w' =>
    ∃ v er, e = .returned (.tuple #[.int .i64 v, er]) ∧ ((er = .nilIface ∧ Lib.atoiAll s.data.toList = .ok v) ∨ ((∃ t p, er = .iface t p) ∧ ∀ v, Lib.atoiAll s.data.toList ≠ .ok v)) ∧ Below w.heap.size w w' := by
  obtain ⟨r, hr⟩ : ∃ r, Lib.atoiAll s.data.toList = r := ⟨_, rfl⟩
  rw [hr]
  rcases r with v | _ | _
  · refine (Tryz.strconv_Atoi_ok s (by omega) v hr w).mono ?_
    rintro e w' ⟨rfl, rfl | ⟨t, rfl⟩⟩
    · exact ⟨v, _, rfl, .inl ⟨rfl, rfl⟩, Below.refl _ _⟩
    · exact ⟨v, _, rfl, .inl ⟨rfl, rfl⟩, below_bytes _ _ _⟩
  · obtain ⟨t, p, e0⟩ := h.syn
    refine (Tryz.strconv_Atoi_bad_var s (by omega) hr t p w e0).mono ?_
    rintro e w' ⟨N, rfl, _, _, hb⟩
    exact ⟨_, _, rfl, .inr ⟨⟨_, _, rfl⟩, fun v hv => by cases hv⟩, hb⟩
  · obtain ⟨t, p, e0⟩ := h.rng
    refine (Tryz.strconv_Atoi_range_var s (by omega) hr t p w e0).mono ?_
    rintro e w' ⟨N, rfl, _, _, hb⟩
    exact ⟨_, _, rfl, .inr ⟨⟨_, _, rfl⟩, fun v hv => by cases hv⟩, hb⟩
theorem toList_data (b : ByteArray) : b.toList = b.data.toList := ByteArray.toList_eq b
theorem bytes_ext {a b : ByteArray} (h : a.data.toList = b.data.toList) : a = b := by
  cases a; cases b
  congr 1
  exact Array.toList_inj.1 h
theorem itoa_calls (v : Int) (h0 : 0 ≤ v) (h1 : v ≤ 1000000000) {w : World} {bv : Value} (h : Env w bv) : Calls Tryz.prog 79 #[.int .i64 v] w fun e w' =>
    ∃ b : ByteArray, e = .returned (.string b) ∧ b.data.toList = Lib.itoa v ∧ Below w.heap.size w w' := by
  refine (Tryz.strconv_Itoa v (by omega) (by omega) w h.tab).mono ?_
  rintro e w2 ⟨rfl, k, os, rfl⟩
  exact ⟨_, rfl, rfl, below_grow w k os⟩
set_option maxRecDepth 100000 in
set_option maxHeartbeats 2000000 in
theorem num_calls (s : ByteArray) (hs : s.size ≤ 3000) {w : World} {bv : Value} (h : Env w bv) : Calls Tryz.prog 72 #[.string s] w fun e w' => e = .returned (numV bv (numF s.data.toList)) ∧ Below w.heap.size w w' := by
  obtain ⟨bt, bp, rfl⟩ := h.isB
  have HA := atoi_calls s hs h
  go_enter Tryz.func72, Tryz.ntmps72
  go_wp2_with (go_at_call 94; refine HA.mono ?_)
  rintro e w1 ⟨v, er, rfl, hc, hb⟩
  have h1 := h.below hb h.low
  have bad1 := h1.bad
  clear HA
  rcases hc with ⟨rfl, hr⟩ | ⟨⟨t, p, rfl⟩, hr⟩
  · have hv : numF s.data.toList = if v < 0 ∨ 9999 < v ∨ Lib.itoa v ≠ s.data.toList then none else some v := by unfold numF; rw [hr]
    by_cases h0 : v < 0
    · rw [if_pos (.inl h0)] at hv
      go_wp2
      have bad3 : w1.drew.cell? ⟨1, 0, none⟩ = some (.iface bt bp) := bad1
      go_region
      all_goals (go_wp2; go_ret2; exact ⟨by rw [hv]; rfl, hb.drew⟩)
    by_cases h9 : 9999 < v
    · rw [if_pos (.inr (.inl h9))] at hv
      go_wp2
      have bad3 : w1.drew.cell? ⟨1, 0, none⟩ = some (.iface bt bp) := bad1
      go_region
      all_goals (go_wp2; go_ret2; exact ⟨by rw [hv]; rfl, hb.drew⟩)
    have HI := itoa_calls v (by omega) (by omega) h1
    have d0 : decide (v < 0) = false := decide_eq_false h0
    have d9 : decide (9999 < v) = false := decide_eq_false h9
    go_wp2_with (go_at_call 79; refine HI.mono ?_)
    rintro e w2 ⟨b, rfl, hl, hb2⟩
    have bad2 := (h1.below hb2 h1.low).bad
    have hbb := hb.trans (hb2.mono hb.size)
    by_cases hi : b = s
    · subst hi
      rw [if_neg (by rintro (h | h | h) <;> first | exact absurd h (by omega) | exact h hl.symm)] at hv
      go_wp2
      go_ret2
      exact ⟨by rw [hv]; rfl, hbb⟩
    · have hn : Lib.itoa v ≠ s.data.toList := fun e => hi (bytes_ext (hl.trans e))
      have hv2 : numF s.data.toList = none := hv.trans (if_pos (.inr (.inr hn)))
      have hne : (b.toList == s.toList) = false := by
        rw [beq_eq_false_iff_ne]
        intro e
        rw [toList_data, toList_data] at e
        exact hi (bytes_ext e)
      go_wp2
      have bad3 : w2.drew.cell? ⟨1, 0, none⟩ = some (.iface bt bp) := bad2
      go_region
      all_goals (go_wp2; go_ret2; exact ⟨by rw [hv2]; rfl, hbb.drew⟩)
  · have hv : numF s.data.toList = none := by
      unfold numF
      split
      · rename_i v' e'
        exact absurd e' (hr v')
      · rfl
    go_wp2
    have bad3 : w1.drew.cell? ⟨1, 0, none⟩ = some (.iface bt bp) := bad1
    go_region
    all_goals (go_wp2; go_ret2; exact ⟨by rw [hv]; rfl, hb.drew⟩)
end Rn
end Go.Proofs.YtdokgalidhmbbaaGreatDoor
