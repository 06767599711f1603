/- Whether a number is in any of the ranges: has, by slices.ContainsFunc over a closure. -/
import Derived.Test.YtegelodkopommaaGreatDoorGR
import Derived.Shelf.SlicesQ.IndexFunc
import Derived.Shelf.SlGeneric
import Derived.Ground.SlgfProg
namespace Go.Proofs
open Go.Shelf
def Tryz.lh_ren : Go.Shelf.Ren := ⟨fun | 8 => 75 | 6 => 96 | n => n, fun | 22 => 41 | 23 => 66 | 25 => 128 | 4 => 4 | 3 => 3 | 0 => 0 | n => n, fun | n => n⟩
theorem Tryz.lh : Go.Proofs.SlLaysH0.n8 Tryz.prog Tryz.lh_ren := {
  mixed := by kernel_rfl
  f6 := ⟨Tryz.f96.name, by decide, Tryz.func96.trans (congrArg some (by kernel_rfl))⟩
  f8 := ⟨Tryz.f75.name, by decide, Tryz.func75.trans (congrArg some (by kernel_rfl))⟩
  t0 := Tryz.underlying0
  a0 := Tryz.isAgg0
  z0 := Tryz.sizeOf0
  v0 := Tryz.zeroValue0
  t3 := Tryz.underlying3
  a3 := Tryz.isAgg3
  z3 := Tryz.sizeOf3
  v3 := Tryz.zeroValue3
  t4 := Tryz.underlying4
  a4 := Tryz.isAgg4
  z4 := Tryz.sizeOf4
  v4 := Tryz.zeroValue4
  t22 := Tryz.underlying41
  a22 := Tryz.isAgg41
  z22 := Tryz.sizeOf41
  v22 := Tryz.zeroValue41
  t25 := Tryz.underlying128
  a25 := Tryz.isAgg128
  z25 := Tryz.sizeOf128
  v25 := Tryz.zeroValue128 }
end Go.Proofs
namespace Go.Proofs.YtegelodkopommaaGreatDoor
open Go.RowKit Go.Lib Go.Sort Go.Shelf
set_option linter.unusedVariables false
set_option linter.unusedSimpArgs false


set_option maxRecDepth 100000 in
set_option maxHeartbeats 2000000 in
theorem has_closure (lo hi n : Int) (B : Nat) (W : World) (hc : W.cell? ⟨B, 0, none⟩ = some (.int .i64 n)) :
    Calls Tryz.prog 76 #[.agg #[.int .i64 lo, .int .i64 hi], .pointer (some ⟨B, 0, none⟩)] W fun e w' => e = .returned (.bool (inB (lo, hi) n)) ∧ Below W.heap.size W w' := by
  have hB : B < W.heap.size := by
    by_cases hp : B < W.heap.size
    · exact hp
    · exfalso; simp [World.cell?, Array.getElem?_eq_none (show W.heap.size ≤ B by omega)] at hc
  have hc1 : (W.alloc (.cells #[.int .i64 lo, .int .i64 hi] 66)).cell? ⟨B, 0, none⟩ = some (.int .i64 n) := (Below.cell (((Below.refl W.heap.size W).alloc (Nat.le_refl _) _)) (by exact hB)).trans hc
  by_cases h1 : lo ≤ n
  · by_cases h2 : n ≤ hi
    · go_enter Tryz.func76, Tryz.ntmps76
      go_wp2
      go_ret
      exact ⟨by simp [inB, h1, h2], (Below.refl _ _).alloc (Nat.le_refl _) _⟩
    · go_enter Tryz.func76, Tryz.ntmps76
      go_wp2
      go_ret
      exact ⟨by rw [show inB (lo, hi) n = false by simp [inB]; omega]; rfl, (Below.refl _ _).alloc (Nat.le_refl _) _⟩
  · go_enter Tryz.func76, Tryz.ntmps76
    go_wp2
    go_ret
    exact ⟨by rw [show inB (lo, hi) n = false by simp [inB]; omega]; rfl, (Below.refl _ _).alloc (Nat.le_refl _) _⟩

set_option maxRecDepth 100000 in
set_option maxHeartbeats 2000000 in
theorem has_some (b off c : Nat) (zs : List R) (n : Int) (w : World) (hl : zs.length ≤ 9223372036854775807) (hb : b < w.heap.size) (hc : Cells w b off zs) :
    Calls Tryz.prog 48 #[.slice (some ⟨b, off, none⟩) zs.length c, .int .i64 n] w fun e w' => e = .returned (.bool (memB zs n)) ∧ Below w.heap.size w w' := by
  have eg : ∀ args w, (callFunc 76 args).run Tryz.prog w = .ok (.enter 76 args) w := enters_of Tryz.func76 (by kernel_rfl) rfl
  have bel : Below w.heap.size w (w.alloc (.cells #[.int .i64 n] 3)) := (Below.refl _ _).alloc (Nat.le_refl _) _
  have hc' := hc.below hb bel
  have hcon := AnyQ.slices_ContainsFunc Tryz.lh 2 Tryz.isAgg66 Tryz.sizeOf66 encR (fun _ => rfl) (fun r => inB r n) 76 #[.pointer (some ⟨w.heap.size, 0, none⟩)] eg b off zs.length c zs (w.alloc (.cells #[.int .i64 n] 3))
    (fun W r hb' => (has_closure r.1 r.2 n w.heap.size W ((hb'.cell (p := ⟨w.heap.size, 0, none⟩) (by simp)).trans (by simp))).mono fun _ _ ⟨he, h2⟩ => ⟨he, hb'.trans (h2.mono hb'.size)⟩)
    (Nat.le_refl _) (by omega) (by simp; omega) (fun j hj i v hv => by
      have h := hc' j hj
      have e : zs[j]! = at' zs j := by simp [at', hj]
      rw [e] at hv
      match i, hv with
      | 0, hv => simp [encR] at hv; subst hv; exact h.1
      | 1, hv => simp [encR] at hv; subst hv; exact h.2
      | i + 2, hv => simp [encR] at hv)
  change Calls Tryz.prog 75 _ _ _ at hcon
  rw [List.take_length] at hcon
  have hbb : (zs.any fun r => inB r n) = memB zs n := rfl
  rw [hbb] at hcon
  clear hc hc' hbb
  generalize memB zs n = res at hcon ⊢
  generalize zs.length = len at *
  go_enter Tryz.func48, Tryz.ntmps48
  go_wp2_with (go_at_call 75; refine hcon.mono ?_; rintro e w' ⟨rfl, hb1⟩)
  go_ret
  exact ⟨rfl, bel.trans (hb1.mono bel.size)⟩

set_option maxRecDepth 100000 in
set_option maxHeartbeats 2000000 in
theorem has_none (ao : Option Addr) (c : Nat) (n : Int) (w : World) :
    Calls Tryz.prog 48 #[.slice ao 0 c, .int .i64 n] w fun e w' => e = .returned (.bool false) ∧ Below w.heap.size w w' := by
  go_enter Tryz.func48, Tryz.ntmps48
  go_wp2
  refine wp_loop_rounds 1 ?_
  rw [rounds_succ]
  go_wp2
  go_ret
  exact ⟨rfl, (Below.refl _ _).alloc (Nat.le_refl _) _⟩

theorem has_calls (v : Value) (zs : List R) (n : Int) (w : World) (h : Row w v zs) :
    Calls Tryz.prog 48 #[v, .int .i64 n] w fun e w' => e = .returned (.bool (memB zs n)) ∧ Below w.heap.size w w' := by
  obtain ⟨ao, c, rfl, hl, hn, h⟩ := h
  rcases h with rfl | ⟨b, off, rfl, hb, hc⟩
  · exact has_none ao c n w
  · exact has_some b off c zs n w hl hb hc
end Go.Proofs.YtegelodkopommaaGreatDoor
