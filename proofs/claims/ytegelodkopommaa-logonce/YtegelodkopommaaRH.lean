/- Whether a number is in any of the ranges: has, by slices.ContainsFunc over a closure. -/
import Derived.Test.YtegelodkopommaaJ
import Derived.Shelf.SlicesQ.IndexFunc
import Derived.Shelf.SlGeneric
import Derived.Ground.SlgfProg
namespace Go.Proofs
open Go.Shelf
def Try.lh_ren : Go.Shelf.Ren := ⟨fun | 8 => 20 | 6 => 27 | n => n, fun | 22 => 31 | 23 => 43 | 25 => 55 | 4 => 4 | 3 => 3 | 0 => 0 | n => n, fun | n => n⟩
theorem Try.lh : Go.Proofs.SlLaysH0.n8 Try.prog Try.lh_ren := {
  mixed := by kernel_rfl
  f6 := ⟨Try.f27.name, by decide, Try.func27.trans (congrArg some (by kernel_rfl))⟩
  f8 := ⟨Try.f20.name, by decide, Try.func20.trans (congrArg some (by kernel_rfl))⟩
  t0 := Try.underlying0
  a0 := Try.isAgg0
  z0 := Try.sizeOf0
  v0 := Try.zeroValue0
  t3 := Try.underlying3
  a3 := Try.isAgg3
  z3 := Try.sizeOf3
  v3 := Try.zeroValue3
  t4 := Try.underlying4
  a4 := Try.isAgg4
  z4 := Try.sizeOf4
  v4 := Try.zeroValue4
  t22 := Try.underlying31
  a22 := Try.isAgg31
  z22 := Try.sizeOf31
  v22 := Try.zeroValue31
  t25 := Try.underlying55
  a25 := Try.isAgg55
  z25 := Try.sizeOf55
  v25 := Try.zeroValue55 }
end Go.Proofs
namespace Go.Proofs.Ytegelodkopommaa
open Go.RowKit Go.Lib Go.Sort Go.Shelf
set_option linter.unusedVariables false
set_option linter.unusedSimpArgs false


set_option maxRecDepth 100000 in
set_option maxHeartbeats 2000000 in
theorem has_closure (lo hi n : Int) (B : Nat) (W : World) (hc : W.cell? ⟨B, 0, none⟩ = some (.int .i64 n)) :
    Calls Try.prog 21 #[.agg #[.int .i64 lo, .int .i64 hi], .pointer (some ⟨B, 0, none⟩)] W fun e w' => e = .returned (.bool (inB (lo, hi) n)) ∧ Below W.heap.size W w' := by
  have hB : B < W.heap.size := by
    by_cases hp : B < W.heap.size
    · exact hp
    · exfalso; simp [World.cell?, Array.getElem?_eq_none (show W.heap.size ≤ B by omega)] at hc
  have hc1 : (W.alloc (.cells #[.int .i64 lo, .int .i64 hi] 43)).cell? ⟨B, 0, none⟩ = some (.int .i64 n) := (Below.cell (((Below.refl W.heap.size W).alloc (Nat.le_refl _) _)) (by exact hB)).trans hc
  by_cases h1 : lo ≤ n
  · by_cases h2 : n ≤ hi
    · go_enter Try.func21, Try.ntmps21
      go_wp2
      go_ret
      exact ⟨by simp [inB, h1, h2], (Below.refl _ _).alloc (Nat.le_refl _) _⟩
    · go_enter Try.func21, Try.ntmps21
      go_wp2
      go_ret
      exact ⟨by rw [show inB (lo, hi) n = false by simp [inB]; omega]; rfl, (Below.refl _ _).alloc (Nat.le_refl _) _⟩
  · go_enter Try.func21, Try.ntmps21
    go_wp2
    go_ret
    exact ⟨by rw [show inB (lo, hi) n = false by simp [inB]; omega]; rfl, (Below.refl _ _).alloc (Nat.le_refl _) _⟩

set_option maxRecDepth 100000 in
set_option maxHeartbeats 2000000 in
theorem has_some (b off c : Nat) (zs : List R) (n : Int) (w : World) (hl : zs.length ≤ 9223372036854775807) (hb : b < w.heap.size) (hc : Cells w b off zs) :
    Calls Try.prog 13 #[.slice (some ⟨b, off, none⟩) zs.length c, .int .i64 n] w fun e w' => e = .returned (.bool (memB zs n)) ∧ Below w.heap.size w w' := by
  have eg : ∀ args w, (callFunc 21 args).run Try.prog w = .ok (.enter 21 args) w := enters_of Try.func21 (by kernel_rfl) rfl
  have bel : Below w.heap.size w (w.alloc (.cells #[.int .i64 n] 3)) := (Below.refl _ _).alloc (Nat.le_refl _) _
  have hc' := hc.below hb bel
  have hcon := AnyQ.slices_ContainsFunc Try.lh 2 Try.isAgg43 Try.sizeOf43 encR (fun _ => rfl) (fun r => inB r n) 21 #[.pointer (some ⟨w.heap.size, 0, none⟩)] eg b off zs.length c zs (w.alloc (.cells #[.int .i64 n] 3))
    (fun W r hb' => (has_closure r.1 r.2 n w.heap.size W ((hb'.cell (p := ⟨w.heap.size, 0, none⟩) (by simp)).trans (by simp))).mono fun _ _ ⟨he, h2⟩ => ⟨he, hb'.trans (h2.mono hb'.size)⟩)
    (Nat.le_refl _) (by omega) (by simp; omega) (fun j hj i v hv => by
      have h := hc' j hj
      have e : zs[j]! = at' zs j := by simp [at', hj]
      rw [e] at hv
      match i, hv with
      | 0, hv => simp [encR] at hv; subst hv; exact h.1
      | 1, hv => simp [encR] at hv; subst hv; exact h.2
      | i + 2, hv => simp [encR] at hv)
  change Calls Try.prog 20 _ _ _ at hcon
  rw [List.take_length] at hcon
  have hbb : (zs.any fun r => inB r n) = memB zs n := rfl
  rw [hbb] at hcon
  clear hc hc' hbb
  generalize memB zs n = res at hcon ⊢
  generalize zs.length = len at *
  go_enter Try.func13, Try.ntmps13
  go_wp2_with (go_at_call 20; refine hcon.mono ?_; rintro e w' ⟨rfl, hb1⟩)
  go_ret
  exact ⟨rfl, bel.trans (hb1.mono bel.size)⟩

set_option maxRecDepth 100000 in
set_option maxHeartbeats 2000000 in
theorem has_none (ao : Option Addr) (c : Nat) (n : Int) (w : World) :
    Calls Try.prog 13 #[.slice ao 0 c, .int .i64 n] w fun e w' => e = .returned (.bool false) ∧ Below w.heap.size w w' := by
  go_enter Try.func13, Try.ntmps13
  go_wp2
  refine wp_loop_rounds 1 ?_
  rw [rounds_succ]
  go_wp2
  go_ret
  exact ⟨rfl, (Below.refl _ _).alloc (Nat.le_refl _) _⟩

theorem has_calls (v : Value) (zs : List R) (n : Int) (w : World) (h : Row w v zs) :
    Calls Try.prog 13 #[v, .int .i64 n] w fun e w' => e = .returned (.bool (memB zs n)) ∧ Below w.heap.size w w' := by
  obtain ⟨ao, c, rfl, hl, hn, h⟩ := h
  rcases h with rfl | ⟨b, off, rfl, hb, hc⟩
  · exact has_none ao c n w
  · exact has_some b off c zs n w hl hb hc
end Go.Proofs.Ytegelodkopommaa
