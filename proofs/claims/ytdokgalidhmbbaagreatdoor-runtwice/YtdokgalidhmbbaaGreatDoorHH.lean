/- What the laws of package run need. -/
import Derived.Test.YtdokgalidhmbbaaGreatDoorHR
import Derived.Shelf.SlicesQ.IndexFunc
import Derived.Shelf.SlGeneric
import Derived.Ground.SlgfProg
import Derived.Shelf.Spec.SlicesGrow
import Derived.Shelf.SlSortCmp.WholeK
import Derived.Shelf.SlSortCmp.NoneTotal
import Derived.Ground.SlsfProg
import Derived.Ground.Names8Prog
import Derived.Laws.OwnMore
import Derived.Deep.AppendLies
import Derived.Laws.StructEq
set_option linter.unusedVariables false
set_option linter.unusedSimpArgs false
set_option maxRecDepth 100000
set_option maxHeartbeats 8000000
namespace Go.Proofs
open Go.Shelf
def Tryz.lh_ren : Go.Shelf.Ren := ⟨fun | 8 => 181 | 6 => 210 | n => n, fun | 22 => 88 | 23 => 143 | 25 => 265 | 4 => 4 | 3 => 3 | 0 => 0 | n => n, fun | n => n⟩
theorem Tryz.lh : Go.Proofs.SlLaysH0.n8 Tryz.prog Tryz.lh_ren := {
  mixed := by kernel_rfl
  f6 := ⟨Tryz.f210.name, by decide, Tryz.func210.trans (congrArg some (by kernel_rfl))⟩
  f8 := ⟨Tryz.f181.name, by decide, Tryz.func181.trans (congrArg some (by kernel_rfl))⟩
  t0 := Tryz.underlying0
  a0 := Tryz.isAgg0
  z0 := Tryz.sizeOf0
  v0 := Tryz.zeroValue0
  t3 := Tryz.underlying3
  a3 := Tryz.isAgg3
  z3 := Tryz.sizeOf3
  v3 := Tryz.zeroValue3
  t4 := Tryz.underlying4
  a4 := Tryz.isAgg4
  z4 := Tryz.sizeOf4
  v4 := Tryz.zeroValue4
  t22 := Tryz.underlying88
  a22 := Tryz.isAgg88
  z22 := Tryz.sizeOf88
  v22 := Tryz.zeroValue88
  t25 := Tryz.underlying265
  a25 := Tryz.isAgg265
  z25 := Tryz.sizeOf265
  v25 := Tryz.zeroValue265 }
end Go.Proofs
namespace Go.Proofs.YtdokgalidhmbbaaGreatDoor
open Go.RowKit Go.Lib Go.Sort Go.Shelf


set_option maxRecDepth 100000 in
set_option maxHeartbeats 2000000 in
theorem has_closure (lo hi n : Int) (B : Nat) (W : World) (hc : W.cell? ⟨B, 0, none⟩ = some (.int .i64 n)) :
    Calls Tryz.prog 182 #[.agg #[.int .i64 lo, .int .i64 hi], .pointer (some ⟨B, 0, none⟩)] W fun e w' => e = .returned (.bool (inB (lo, hi) n)) ∧ Below W.heap.size W w' := by
  have hB : B < W.heap.size := by
    by_cases hp : B < W.heap.size
    · exact hp
    · exfalso; simp [World.cell?, Array.getElem?_eq_none (show W.heap.size ≤ B by omega)] at hc
  have hc1 : (W.alloc (.cells #[.int .i64 lo, .int .i64 hi] 143)).cell? ⟨B, 0, none⟩ = some (.int .i64 n) := (Below.cell (((Below.refl W.heap.size W).alloc (Nat.le_refl _) _)) (by exact hB)).trans hc
  by_cases h1 : lo ≤ n
  · by_cases h2 : n ≤ hi
    · go_enter Tryz.func182, Tryz.ntmps182
      go_wp2
      go_ret
      exact ⟨by simp [inB, h1, h2], (Below.refl _ _).alloc (Nat.le_refl _) _⟩
    · go_enter Tryz.func182, Tryz.ntmps182
      go_wp2
      go_ret
      exact ⟨by rw [show inB (lo, hi) n = false by simp [inB]; omega]; rfl, (Below.refl _ _).alloc (Nat.le_refl _) _⟩
  · go_enter Tryz.func182, Tryz.ntmps182
    go_wp2
    go_ret
    exact ⟨by rw [show inB (lo, hi) n = false by simp [inB]; omega]; rfl, (Below.refl _ _).alloc (Nat.le_refl _) _⟩

set_option maxRecDepth 100000 in
set_option maxHeartbeats 2000000 in
theorem has_some (b off c : Nat) (zs : List R) (n : Int) (w : World) (hl : zs.length ≤ 9223372036854775807) (hb : b < w.heap.size) (hc : Cells w b off zs) :
    Calls Tryz.prog 159 #[.slice (some ⟨b, off, none⟩) zs.length c, .int .i64 n] w fun e w' => e = .returned (.bool (memB zs n)) ∧ Below w.heap.size w w' := by
  have eg : ∀ args w, (callFunc 182 args).run Tryz.prog w = .ok (.enter 182 args) w := enters_of Tryz.func182 (by kernel_rfl) rfl
  have bel : Below w.heap.size w (w.alloc (.cells #[.int .i64 n] 3)) := (Below.refl _ _).alloc (Nat.le_refl _) _
  have hc' := hc.below hb bel
  have hcon := AnyQ.slices_ContainsFunc Tryz.lh 2 Tryz.isAgg143 Tryz.sizeOf143 encR (fun _ => rfl) (fun r => inB r n) 182 #[.pointer (some ⟨w.heap.size, 0, none⟩)] eg b off zs.length c zs (w.alloc (.cells #[.int .i64 n] 3))
    (fun W r hb' => (has_closure r.1 r.2 n w.heap.size W ((hb'.cell (p := ⟨w.heap.size, 0, none⟩) (by simp)).trans (by simp))).mono fun _ _ ⟨he, h2⟩ => ⟨he, hb'.trans (h2.mono hb'.size)⟩)
    (Nat.le_refl _) (by omega) (by simp; omega) (fun j hj i v hv => by
      have h := hc' j hj
      have e : zs[j]! = at' zs j := by simp [at', hj]
      rw [e] at hv
      match i, hv with
      | 0, hv => simp [encR] at hv; subst hv; exact h.1
      | 1, hv => simp [encR] at hv; subst hv; exact h.2
      | i + 2, hv => simp [encR] at hv)
  change Calls Tryz.prog 181 _ _ _ at hcon
  rw [List.take_length] at hcon
  have hbb : (zs.any fun r => inB r n) = memB zs n := rfl
  rw [hbb] at hcon
  clear hc hc' hbb
  generalize memB zs n = res at hcon ⊢
  generalize zs.length = len at *
  go_enter Tryz.func159, Tryz.ntmps159
  go_wp2_with (go_at_call 181; refine hcon.mono ?_; rintro e w' ⟨rfl, hb1⟩)
  go_ret
  exact ⟨rfl, bel.trans (hb1.mono bel.size)⟩

set_option maxRecDepth 100000 in
set_option maxHeartbeats 2000000 in
theorem has_none (ao : Option Addr) (c : Nat) (n : Int) (w : World) :
    Calls Tryz.prog 159 #[.slice ao 0 c, .int .i64 n] w fun e w' => e = .returned (.bool false) ∧ Below w.heap.size w w' := by
  go_enter Tryz.func159, Tryz.ntmps159
  go_wp2
  refine wp_loop_rounds 1 ?_
  rw [rounds_succ]
  go_wp2
  go_ret
  exact ⟨rfl, (Below.refl _ _).alloc (Nat.le_refl _) _⟩

theorem has_calls (v : Value) (zs : List R) (n : Int) (w : World) (h : Row w v zs) :
    Calls Tryz.prog 159 #[v, .int .i64 n] w fun e w' => e = .returned (.bool (memB zs n)) ∧ Below w.heap.size w w' := by
  obtain ⟨ao, c, rfl, hl, hn, h⟩ := h
  rcases h with rfl | ⟨b, off, rfl, hb, hc⟩
  · exact has_none ao c n w
  · exact has_some b off c zs n w hl hb hc
end Go.Proofs.YtdokgalidhmbbaaGreatDoor
namespace Go.Proofs
open Go.Shelf
def Tryz.lg_ren : Go.Shelf.Ren := ⟨fun | 4 => 214 | n => n, fun | 22 => 88 | 25 => 143 | 3 => 3 | 4 => 4 | 9 => 9 | 20 => 20 | 0 => 0 | 2 => 3 | n => n, fun | n => n⟩
theorem Tryz.lg : Go.Proofs.Lays8.n4 Tryz.prog Tryz.lg_ren := {
  mixed := by kernel_rfl
  f4 := ⟨Tryz.f214.name, by decide, Tryz.func214.trans (congrArg some (by kernel_rfl))⟩
  t0 := Tryz.underlying0
  a0 := Tryz.isAgg0
  z0 := Tryz.sizeOf0
  v0 := Tryz.zeroValue0
  t3 := Tryz.underlying3
  a3 := Tryz.isAgg3
  z3 := Tryz.sizeOf3
  v3 := Tryz.zeroValue3
  t4 := Tryz.underlying4
  a4 := Tryz.isAgg4
  z4 := Tryz.sizeOf4
  v4 := Tryz.zeroValue4
  t9 := Tryz.underlying9
  a9 := Tryz.isAgg9
  z9 := Tryz.sizeOf9
  v9 := Tryz.zeroValue9
  t20 := Tryz.underlying20
  a20 := Tryz.isAgg20
  z20 := Tryz.sizeOf20
  v20 := Tryz.zeroValue20
  t22 := Tryz.underlying88
  a22 := Tryz.isAgg88
  z22 := Tryz.sizeOf88
  v22 := Tryz.zeroValue88 }
def Tryz.ls_ren : Go.Shelf.Ren := ⟨fun | 6 => 188 | 15 => 216 | 14 => 215 | 28 => 237 | 29 => 196 | 20 => 229 | 21 => 230 | 22 => 231 | 23 => 232 | 24 => 233 | 25 => 234 | 26 => 235 | 27 => 236 | 46 => 241 | 47 => 242 | 48 => 243 | 49 => 244 | 50 => 245 | 57 => 247 | n => n, fun | 22 => 88 | 24 => 143 | 25 => 272 | 3 => 3 | 39 => 200 | 0 => 0 | 53 => 275 | 55 => 250 | 4 => 4 | 46 => 310 | 45 => 309 | 50 => 55 | 5 => 5 | 9 => 9 | 66 => 320 | 70 => 324 | 76 => 328 | 77 => 329 | n => n, fun | n => n⟩
theorem Tryz.ls : Go.Proofs.SlLaysF0.n6 Tryz.prog Tryz.ls_ren := {
  mixed := by kernel_rfl
  f6 := ⟨Tryz.f188.name, by decide, Tryz.func188.trans (congrArg some (by kernel_rfl))⟩
  f14 := ⟨Tryz.f215.name, by decide, Tryz.func215.trans (congrArg some (by kernel_rfl))⟩
  f15 := Tryz.func216.trans (congrArg some (by kernel_rfl))
  f20 := ⟨Tryz.f229.name, by decide, Tryz.func229.trans (congrArg some (by kernel_rfl))⟩
  f21 := ⟨Tryz.f230.name, by decide, Tryz.func230.trans (congrArg some (by kernel_rfl))⟩
  f22 := ⟨Tryz.f231.name, by decide, Tryz.func231.trans (congrArg some (by kernel_rfl))⟩
  f23 := ⟨Tryz.f232.name, by decide, Tryz.func232.trans (congrArg some (by kernel_rfl))⟩
  f24 := ⟨Tryz.f233.name, by decide, Tryz.func233.trans (congrArg some (by kernel_rfl))⟩
  f25 := ⟨Tryz.f234.name, by decide, Tryz.func234.trans (congrArg some (by kernel_rfl))⟩
  f26 := ⟨Tryz.f235.name, by decide, Tryz.func235.trans (congrArg some (by kernel_rfl))⟩
  f27 := ⟨Tryz.f236.name, by decide, Tryz.func236.trans (congrArg some (by kernel_rfl))⟩
  f28 := Tryz.func237.trans (congrArg some (by kernel_rfl))
  f29 := Tryz.func196.trans (congrArg some (by kernel_rfl))
  f46 := ⟨Tryz.f241.name, by decide, Tryz.func241.trans (congrArg some (by kernel_rfl))⟩
  f47 := Tryz.func242.trans (congrArg some (by kernel_rfl))
  f48 := Tryz.func243.trans (congrArg some (by kernel_rfl))
  f49 := ⟨Tryz.f244.name, by decide, Tryz.func244.trans (congrArg some (by kernel_rfl))⟩
  f50 := ⟨Tryz.f245.name, by decide, Tryz.func245.trans (congrArg some (by kernel_rfl))⟩
  f57 := ⟨Tryz.f247.name, by decide, Tryz.func247.trans (congrArg some (by kernel_rfl))⟩
  t0 := Tryz.underlying0
  a0 := Tryz.isAgg0
  z0 := Tryz.sizeOf0
  v0 := Tryz.zeroValue0
  t3 := Tryz.underlying3
  a3 := Tryz.isAgg3
  z3 := Tryz.sizeOf3
  v3 := Tryz.zeroValue3
  t4 := Tryz.underlying4
  a4 := Tryz.isAgg4
  z4 := Tryz.sizeOf4
  v4 := Tryz.zeroValue4
  t5 := Tryz.underlying5
  a5 := Tryz.isAgg5
  z5 := Tryz.sizeOf5
  v5 := Tryz.zeroValue5
  t9 := Tryz.underlying9
  a9 := Tryz.isAgg9
  z9 := Tryz.sizeOf9
  v9 := Tryz.zeroValue9
  t22 := Tryz.underlying88
  a22 := Tryz.isAgg88
  z22 := Tryz.sizeOf88
  v22 := Tryz.zeroValue88
  t25 := Tryz.underlying272
  a25 := Tryz.isAgg272
  z25 := Tryz.sizeOf272
  v25 := Tryz.zeroValue272
  t39 := Tryz.underlying200
  a39 := Tryz.isAgg200
  z39 := Tryz.sizeOf200
  v39 := Tryz.zeroValue200
  t45 := Tryz.underlying309
  a45 := Tryz.isAgg309
  z45 := Tryz.sizeOf309
  v45 := Tryz.zeroValue309
  t46 := Tryz.underlying310
  a46 := Tryz.isAgg310
  z46 := Tryz.sizeOf310
  v46 := Tryz.zeroValue310
  t50 := Tryz.underlying55
  a50 := Tryz.isAgg55
  z50 := Tryz.sizeOf55
  v50 := Tryz.zeroValue55
  t53 := Tryz.underlying275
  a53 := Tryz.isAgg275
  z53 := Tryz.sizeOf275
  v53 := Tryz.zeroValue275
  t55 := Tryz.underlying250
  a55 := Tryz.isAgg250
  z55 := Tryz.sizeOf250
  v55 := Tryz.zeroValue250
  t66 := Tryz.underlying320
  a66 := Tryz.isAgg320
  z66 := Tryz.sizeOf320
  v66 := Tryz.zeroValue320
  t70 := Tryz.underlying324
  a70 := Tryz.isAgg324
  z70 := Tryz.sizeOf324
  v70 := Tryz.zeroValue324
  t76 := Tryz.underlying328
  a76 := Tryz.isAgg328
  z76 := Tryz.sizeOf328
  v76 := Tryz.zeroValue328
  t77 := Tryz.underlying329
  a77 := Tryz.isAgg329
  z77 := Tryz.sizeOf329
  v77 := Tryz.zeroValue329 }
end Go.Proofs
namespace Go.Proofs.YtdokgalidhmbbaaGreatDoor
open Go.RowKit Go.Lib Go.Sort Go.Shelf

theorem grow_none (w : World) : Calls Tryz.prog 214 #[.slice none 0 0, .int .i64 0] w fun e w' => e = .returned (.slice none 0 0) ∧ w' = w := by
  have h := Any8.slices_Grow_room Tryz.lg none 0 0 0 w (by omega) (by omega) (by omega) (by omega)
  change Calls Tryz.prog 214 _ _ _ at h
  exact h
theorem grow_some (n : Nat) (w : World) (h0 : 0 < n) (h1 : n ≤ 1000000) : Calls Tryz.prog 214 #[.slice none 0 0, .int .i64 n] w fun e w' => ∃ v, e = .returned v ∧ w'.ownsRow w.heap.size 143 2 v 0 (flat []) ∧ Below w.heap.size w w' := by
  obtain ⟨i0, hi, hz0, hz1, hz2⟩ := info_parts infoR
  have h := Any8.slices_Grow_grow Tryz.lg i0 _ hi hz0 (by omega) none 0 0 n [] w (by omega) (by omega) (by rw [hz2]; omega) (by omega) (by simp) (fun _ => rfl) (fun a ha => by cases ha)
  change Calls Tryz.prog 214 _ _ _ at h
  refine h.mono fun e w' ⟨he, hw⟩ => ⟨_, he, ?_, ?_⟩
  · rw [hw]
    have gg := grownCap_ge w n 0 (Tryz.lg_ren.t 25)
    have gm := grownCap_le_maxLen w (0 + n) 0 143 (by unfold maxLen; omega)
    exact World.ownsRow_made w.drew _ _ (Nat.le_refl _) gm (by simp only [Array.size_append, size_zeroCells]; simp [Value.cells]; omega)
  · rw [hw]; exact (Below.refl w.heap.size w).drew.alloc (Nat.le_refl _) _
theorem grow_any (n : Nat) (w : World) (h1 : n ≤ 1000000) : Calls Tryz.prog 214 #[.slice none 0 0, .int .i64 n] w fun e w' => ∃ v, e = .returned v ∧ w'.ownsRow w.heap.size 143 2 v 0 (flat []) ∧ Below w.heap.size w w' := by
  by_cases h0 : n = 0
  · subst h0
    exact (grow_none w).mono fun e w' ⟨he, hw⟩ => ⟨_, he, World.ownsRow_nil _ _ _ _, hw ▸ Below.refl _ _⟩
  · exact grow_some n w (by omega) h1

set_option maxRecDepth 100000 in
set_option maxHeartbeats 2000000 in
theorem concat_calls (S : Nat) (va vb : Value) (xs ys : List R) (w : World) (hS : S < w.heap.size) (ha : w.cell? ⟨S, 0, none⟩ = some va) (hb : w.cell? ⟨S, 1, none⟩ = some vb) (hra : Row w va xs) (hrb : Row w vb ys) (hx : xs.length ≤ 1000) (hy : ys.length ≤ 1000) :
    Calls Tryz.prog 187 #[.slice (some ⟨S, 0, none⟩) 2 2] w fun e w' => ∃ v, e = .returned v ∧ w'.ownsRow w.heap.size 143 2 v (xs.length + ys.length) (flat (xs ++ ys)) ∧ Below w.heap.size w w' := by
  have HA : Hid (Row w va xs) := hra
  have HB : Hid (Row w vb ys) := hrb
  obtain ⟨aa, ca, rfl, la, na, za⟩ := hra
  obtain ⟨ab, cb, rfl, lb, nb, zb⟩ := hrb
  clear za zb na nb
  have hg := grow_any (xs.length + ys.length) w (by omega)
  rw [Int.natCast_add] at hg
  go_enter Tryz.func187, Tryz.ntmps187
  go_wp2_with fail
  refine wp_loop_rounds 3 ?_
  rw [rounds_succ]
  go_wp2_with fail
  rw [rounds_succ]
  go_wp2_with fail
  rw [rounds_succ]
  go_wp2_with fail
  refine hg.mono ?_
  rintro e w1 ⟨v, rfl, hown, hB1⟩
  have ha1 := (hB1.cell (p := ⟨S, 0, none⟩) hS).trans ha
  have hb1 := (hB1.cell (p := ⟨S, 1, none⟩) hS).trans hb
  clear ha hb
  go_wp2_with fail
  refine wp_loop_rounds 3 ?_
  rw [rounds_succ]
  go_wp2_with (at_builtin; refine append_row rfl (.tmp 31) (.tmp 32) rfl w.heap.size v 0 (flat []) rfl hown _ xs rfl (HA.out.below hB1) (by omega) hB1.size ?_; intro v2 w2 hown2 hb2)
  have hB2 := hB1.trans hb2
  have hb2' := (hb2.cell (p := ⟨S, 1, none⟩) hS).trans hb1
  rw [rounds_succ]
  go_wp2_with (at_builtin; refine append_row rfl (.tmp 31) (.tmp 32) rfl w.heap.size v2 _ _ rfl hown2 _ ys rfl (HB.out.below hB2) (by omega) hB2.size ?_; intro v3 w3 hown3 hb3)
  have hB3 := hB2.trans hb3
  rw [rounds_succ]
  go_wp2_with fail
  go_ret
  refine ⟨v3, rfl, ?_, hB3⟩
  have e1 : 0 + xs.length + ys.length = xs.length + ys.length := by omega
  have e2 : flat [] ++ flat xs ++ flat ys = flat (xs ++ ys) := by rw [flat_append]; rfl
  rw [e1, e2] at hown3
  exact hown3

def cmpF (x y : R) : Int := if y.2 < x.2 then -1 else if x.2 < y.2 then 1 else 0
theorem ltF (x y : R) : ltOf cmpF x y = decide (y.2 < x.2) := by
  unfold ltOf cmpF
  by_cases h1 : y.2 < x.2
  · simp [h1]
  · by_cases h2 : x.2 < y.2 <;> simp [h1, h2]
theorem swoF : SWO (ltOf cmpF) where
  irrefl x := by rw [ltF]; simp
  trans x y z h1 h2 := by rw [ltF] at *; simp at *; omega
  ntrans x y z h1 h2 := by rw [ltF] at *; simp at *; omega

set_option maxRecDepth 100000 in
set_option maxHeartbeats 2000000 in
theorem cmp_calls (x y : Int) (w : World) : Calls Tryz.prog 190 #[.int .i64 x, .int .i64 y] w fun e w' => e = .returned (.int .i64 (if x < y then -1 else if y < x then 1 else 0)) ∧ w' = w := by
  by_cases h1 : x < y
  · rw [if_pos h1]
    go_enter Tryz.func190, Tryz.ntmps190
    go_wp2
    go_ret
    exact ⟨rfl, rfl⟩
  · rw [if_neg h1]
    by_cases h2 : y < x
    · rw [if_pos h2]
      go_enter Tryz.func190, Tryz.ntmps190
      go_wp2
      go_ret
      exact ⟨rfl, rfl⟩
    · rw [if_neg h2]
      go_enter Tryz.func190, Tryz.ntmps190
      go_wp2
      go_ret
      exact ⟨rfl, rfl⟩

set_option maxRecDepth 100000 in
set_option maxHeartbeats 2000000 in
theorem sort_closure (x y : R) (W : World) : Calls Tryz.prog 189 #[.agg #[.int .i64 x.1, .int .i64 x.2], .agg #[.int .i64 y.1, .int .i64 y.2]] W fun e w' => e = .returned (.int .i64 (cmpF x y)) ∧ ∃ q os', w' = grow (W.drewN q) os' := by
  have hcon := fun W' => cmp_calls y.2 x.2 W'
  have e : (if y.2 < x.2 then (-1 : Int) else if x.2 < y.2 then 1 else 0) = cmpF x y := rfl
  rw [e] at hcon
  generalize cmpF x y = r at hcon ⊢
  clear e
  go_enter Tryz.func189, Tryz.ntmps189
  go_wp2_with (go_at_call 190; refine (hcon _).mono ?_; rintro e w' ⟨rfl, rfl⟩)
  go_ret
  exact ⟨rfl, 0, _, by rw [alloc_eq_grow, alloc_eq_grow, grow_grow]; rfl⟩

theorem heap_put {α : Type} [Inhabited α] (enc : α → List Value) (k : Nat) (w : World) (m blk off : Nat) (d : Array α) (j : Nat) (hj : j ≠ blk) : (putRowK enc k (Sort.ahead w m) blk off d).heap[j]? = w.heap[j]? := by
  unfold putRowK putRow mapBlock
  show (w.heap.modify blk _)[j]? = _
  rw [Array.getElem?_modify, if_neg (fun e => hj e.symm)]
theorem below_sort {α : Type} [Inhabited α] {B : Nat} (enc : α → List Value) (k : Nat) (w : World) (m blk off : Nat) (d : Array α) (os : Array Obj) (hB : B ≤ blk) (hw : B ≤ w.heap.size) : Below B w (sortWorldK enc k w blk off m d os) := by
  unfold sortWorldK
  have hsz : (putRowK enc k (Sort.ahead w m) blk off d).heap.size = w.heap.size := by unfold putRowK; rw [Go.Sort.size_putRow]; rfl
  have h1 : Below B w (putRowK enc k (Sort.ahead w m) blk off d) := ⟨rfl, rfl, rfl, Nat.le_of_eq hsz.symm, fun j hj => heap_put enc k w m blk off d j (by omega)⟩
  exact below_grow h1 (by rw [hsz]; exact hw) os
theorem holdsK_of_own {w : World} {base g n cap : Nat} {zs : List R} (h : w.ownsRow base 143 2 (.slice (some ⟨g, 0, none⟩) n cap) n (flat zs)) : HoldsK encR 2 w g 0 zs.toArray := by
  intro t ht
  rw [size_flatK] at ht
  have ht' : t < zs.length * 2 := by simpa using ht
  have hc := cells_of_own h (t / 2) (by omega)
  rw [get_flatK _ _ _ _ ht]
  have e : zs.toArray[t / 2]! = at' zs (t / 2) := by simp [at', show t / 2 < zs.length by omega]
  rw [e]
  rcases h.2 with ⟨e0, _⟩ | ⟨g', cap', cur, e0, hb, hg, hr⟩
  · cases e0
  injection e0 with e1 _ _
  injection e1 with e1
  injection e1 with e1
  subst e1
  refine ⟨?_, by simp [World.frozen?, hg]⟩
  rcases (show t = t / 2 * 2 ∨ t = t / 2 * 2 + 1 by omega) with q | q
  · have q2 : t % 2 = 0 := by omega
    rw [q2]
    show w.cell? ⟨g, 0 + t, none⟩ = some (.int .i64 (at' zs (t / 2)).1)
    rw [← hc.1]; congr 2; omega
  · have q2 : t % 2 = 1 := by omega
    rw [q2]
    show w.cell? ⟨g, 0 + t, none⟩ = some (.int .i64 (at' zs (t / 2)).2)
    rw [← hc.2]; congr 2; omega
theorem cells_of_holds {w : World} {g : Nat} {d : Array R} (h : HoldsK encR 2 w g 0 d) : Cells w g 0 d.toList := by
  intro j hj
  have hj' : j < d.size := by simpa using hj
  have a := (h.cell (i := j) (c := 0) hj' (by omega)).1
  have b := (h.cell (i := j) (c := 1) hj' (by omega)).1
  have e : d[j]! = at' d.toList j := by simp [at', hj']
  rw [e] at a b
  exact ⟨a, b⟩
theorem desc_of : ∀ (l : List R), (∀ i j, i < j → j < l.length → (at' l j).2 ≤ (at' l i).2) → Desc l
  | [], _ => trivial
  | r :: rs, h => ⟨fun s hs => by
      obtain ⟨j, hj, e⟩ := List.getElem_of_mem hs
      have := h 0 (j + 1) (by omega) (by simpa using hj)
      simp [at', hj] at this
      rw [e] at this
      exact this, desc_of rs fun i j a b => by
      have := h (i + 1) (j + 1) (by omega) (by simpa using b)
      simpa [at'] using this⟩

/-- slices.SortFunc of a slice that the caller made: from above, and the same ranges. -/
theorem sort_calls (v : Value) (zs : List R) (n B : Nat) (w : World) (hown : w.ownsRow B 143 2 v n (flat zs)) (hl : zs.length ≤ 1000000) (hB : B ≤ w.heap.size) :
    Calls Tryz.prog 188 #[v, .func (.func 189) #[] #[]] w fun e w' => e = .returned (.tuple #[]) ∧ (∃ s : List R, s.Perm zs ∧ Desc s ∧ Row w' v s) ∧ Below B w w' := by
  have hn := own_length hown
  rcases hown.2 with ⟨rfl, h0⟩ | ⟨g, cap, cur, rfl, hb, hg, hr⟩
  · have h := AnyF.slices_SortFunc_none Tryz.ls none 0 (.func (.func 189) #[] #[]) w
    change Calls Tryz.prog 188 _ _ _ at h
    have e0 : zs = [] := List.eq_nil_of_length_eq_zero (by omega)
    subst e0
    exact h.mono fun e w' ⟨he, hw⟩ => ⟨he, ⟨[], .refl _, trivial, Row.nil _⟩, hw ▸ Below.refl _ _⟩
  · have eg : ∀ args w, (callFunc 189 args).run Tryz.prog w = .ok (.enter 189 args) w := enters_of Tryz.func189 (by kernel_rfl) rfl
    have hH := holdsK_of_own hown
    have hlt := (own_lt hown).2
    have hcon := AnyQ.slices_SortFunc Tryz.ls 2 Tryz.isAgg143 Tryz.sizeOf143 encR (fun _ => rfl) (fun x v hv => by simp [encR] at hv; rcases hv with rfl | rfl <;> rfl) cmpF swoF 189 #[] g 0 cap zs.toArray w eg (fun _ _ _ _ x y => sort_closure x y _) hH hlt (by simp; omega)
    change Calls Tryz.prog 188 _ _ _ at hcon
    have e1 : zs.toArray.size = n := by simpa using hn
    rw [e1] at hcon
    refine hcon.mono fun e w' ⟨he, d', m, os, hp, hs, hw⟩ => ⟨he, ⟨d'.toList, ?_, ?_, ?_⟩, ?_⟩
    · have := hp.2.2
      have a1 : d'.size = n := by rw [hp.1]; exact e1
      have a2 : d'.extract 0 n = d' := by rw [← a1]; simp
      have a3 : zs.toArray.extract 0 n = zs.toArray := by rw [← e1]; simp
      rw [a2, a3] at this
      exact this
    · refine desc_of _ fun i j hij hj => ?_
      have a1 : d'.size = n := by rw [hp.1]; exact e1
      have hj' : j < d'.size := by simpa using hj
      have := hs i j (Nat.zero_le _) hij (by omega)
      rw [ltF] at this
      simp [hj', show i < d'.size by omega] at this
      simp [at', hj', show i < d'.size by omega]
      omega
    · have a1 : d'.size = n := by rw [hp.1]; exact e1
      rw [hw]
      have hK := holdsK_sortWorldK encR 2 w g 0 m zs.toArray d' os hlt hH (by rw [a1, e1])
      refine ⟨some ⟨g, 0, none⟩, cap, by simp [a1], by simp [a1]; omega, (fun x => by cases x), .inr ⟨g, 0, rfl, ?_, cells_of_holds hK⟩⟩
      exact Nat.lt_of_lt_of_le hlt (below_sort (B := 0) encR 2 w m g 0 d' os (by omega) (by omega)).size
    · rw [hw]; exact below_sort encR 2 w m g 0 d' os hb hB

/-- What lies in out when the ranges ahead of k have been taken. -/
def Part (s : List R) (k : Nat) (o : List R) : Prop := (k = 0 ∧ o = []) ∨ ∃ front cur, o = front ++ [cur] ∧ join s = front ++ mrg cur (s.drop k)
theorem part_first {s : List R} (h : 0 < s.length) : Part s 1 [at' s 0] := by
  match s, h with
  | r :: rs, _ => exact .inr ⟨[], r, rfl, rfl⟩
theorem part_in {s front : List R} {cur : R} {k : Nat} (h : join s = front ++ mrg cur (s.drop k)) (hk : k < s.length) (ht : cur.1 ≤ (at' s k).2 + 1) : Part s (k + 1) (front ++ [(min cur.1 (at' s k).1, cur.2)]) := by
  refine .inr ⟨front, _, rfl, ?_⟩
  rw [h, drop_at hk, mrg, if_pos ht]
theorem part_next {s front : List R} {cur : R} {k : Nat} (h : join s = front ++ mrg cur (s.drop k)) (hk : k < s.length) (ht : ¬ cur.1 ≤ (at' s k).2 + 1) : Part s (k + 1) (front ++ [cur] ++ [at' s k]) := by
  refine .inr ⟨front ++ [cur], _, rfl, ?_⟩
  rw [h, drop_at hk, mrg, if_neg ht, List.append_assoc]; rfl
theorem part_done {s o : List R} (h : Part s s.length o) : o = join s := by
  rcases h with ⟨h0, rfl⟩ | ⟨front, cur, rfl, h⟩
  · rw [List.eq_nil_of_length_eq_zero h0]; rfl
  · rw [h, List.drop_length]; rfl
theorem rpart_length {s o : List R} {k : Nat} (h : Part s k o) : o.length ≤ s.length := by
  rcases h with ⟨_, rfl⟩ | ⟨front, cur, rfl, h⟩
  · simp
  · have a := join_length s
    rw [h, List.length_append] at a
    have : 0 < (mrg cur (s.drop k)).length := by
      generalize s.drop k = l
      clear h a
      induction l generalizing cur with
      | nil => simp [mrg]
      | cons r rs ih => rw [mrg]; split; exact ih _; simp
    simp only [List.length_append, List.length_cons, List.length_nil]
    omega
theorem flat_set (front : List R) (cur : R) (x : Int) : (flat (front ++ [cur])).set (front.length * 2) (.int .i64 x) = flat (front ++ [(x, cur.2)]) := by
  rw [flat_append, flat_append, List.set_append, flat_length]
  simp [flat, encR]
theorem flat_last (front : List R) (cur : R) : (flat (front ++ [cur]))[front.length * 2]? = some (.int .i64 cur.1) ∧ (flat (front ++ [cur]))[front.length * 2 + 1]? = some (.int .i64 cur.2) := by
  have h := flat_get (front ++ [cur]) front.length (by simp)
  have e : at' (front ++ [cur]) front.length = cur := by simp [at']
  rw [e] at h
  exact h

set_option maxRecDepth 100000 in
set_option maxHeartbeats 4000000 in
theorem joined_calls (va vb : Value) (xs ys : List R) (w : World) (hra : Row w va xs) (hrb : Row w vb ys) (hx : xs.length ≤ 1000) (hy : ys.length ≤ 1000)
    (gx : ∀ r, r ∈ xs ++ ys → 0 ≤ r.1 ∧ r.1 ≤ r.2 ∧ r.2 ≤ 1073741823) :
    Calls Tryz.prog 162 #[va, vb] w fun e w' => ∃ v zs, e = .returned v ∧ w'.ownsRow w.heap.size 143 2 v zs.length (flat zs) ∧ Norm zs ∧ (∀ n, Mem zs n ↔ Mem xs n ∨ Mem ys n) ∧ zs.length ≤ xs.length + ys.length ∧ Below w.heap.size w w' := by
  have HA : Hid (Row w va xs) := hra
  have HB : Hid (Row w vb ys) := hrb
  have HG : Hid (∀ r, r ∈ xs ++ ys → 0 ≤ r.1 ∧ r.1 ≤ r.2 ∧ r.2 ≤ 1073741823) := gx
  clear gx
  obtain ⟨aa, ca, rfl, la, na, za⟩ := hra
  obtain ⟨ab, cb, rfl, lb, nb, zb⟩ := hrb
  clear za zb na nb
  go_enter Tryz.func162, Tryz.ntmps162
  go_wp2_with fail
  have bel0 := (Below.refl w.heap.size w).alloc (Nat.le_refl _) (.cells #[.slice aa xs.length ca, .slice ab ys.length cb] 88)
  refine (concat_calls w.heap.size (.slice aa xs.length ca) (.slice ab ys.length cb) xs ys _ (by simp) (by simp) (by simp) (HA.out.below bel0) (HB.out.below bel0) hx hy).mono ?_
  rintro e w1 ⟨v1, rfl, hown1, hB1⟩
  have hBa := bel0.trans (hB1.mono bel0.size)
  go_wp2_with fail
  refine (sort_calls v1 (xs ++ ys) (xs.length + ys.length) w.heap.size w1 (own_mono hown1 (by simp)) (by simp; omega) hBa.size).mono ?_
  rintro e w2 ⟨rfl, ⟨s, hp, hd, hrs⟩, hB2⟩
  have hBb := hBa.trans hB2
  have HS : Hid (s.Perm (xs ++ ys) ∧ Desc s) := ⟨hp, hd⟩
  have hsl : s.length = xs.length + ys.length := by rw [hp.length_eq]; simp
  have hG : Hid (∀ j, j < s.length → 0 ≤ (at' s j).1 ∧ (at' s j).1 ≤ (at' s j).2 ∧ (at' s j).2 ≤ 1073741823) := fun j hj => HG.out _ (hp.mem_iff.1 (at_mem hj))
  clear hp hd
  have HR : Hid (Row w2 v1 s) := hrs
  obtain ⟨aS, cS, rfl, ls, ns, zs'⟩ := hrs
  clear ns
  have HZ : Hid (s = [] ∨ ∃ b off, aS = some ⟨b, off, none⟩ ∧ b < w2.heap.size ∧ Cells w2 b off s) := zs'
  clear zs' hown1 hB1 hB2
  have hlen : Hid (s.length = xs.length + ys.length) := hsl
  have hsl' : s.length ≤ 2000 := by omega
  clear hsl
  generalize hL : s.length = len at *
  have HL : Hid (s.length = len) := hL
  clear hL
  go_wp2_with fail
  go_loopw [6, 18] (fun o i wr => ∃ (k : Nat) (os : List R), k ≤ len ∧ i = .int .i64 k ∧ Hid (Part s k os) ∧ wr.ownsRow w2.heap.size 143 2 o os.length (flat os) ∧ Below w2.heap.size w2 wr) (fun _ i _ => len - (intOf i).toNat)
  case atStart => exact ⟨0, [], Nat.zero_le _, rfl, .inl ⟨rfl, rfl⟩, World.ownsRow_nil _ _ _ _, Below.refl _ _⟩
  case round =>
    obtain ⟨k, os, hk, rfl, hP, hown, hB⟩ := hrel
    have hos : os.length ≤ 2000 := by have := rpart_length hP.out; have := HL.out; omega
    by_cases hlt : k < len
    · have g1 : (k : Int) < (len : Int) := by omega
      have hkl : k < s.length := by have := HL.out; omega
      obtain ⟨b, off, rfl, hb, hC⟩ : ∃ b off, aS = some ⟨b, off, none⟩ ∧ b < w2.heap.size ∧ Cells w2 b off s := by
        rcases HZ.out with h | h
        · rw [h] at hkl; simp at hkl
        · exact h
      have c0 := (hC.below hb hB k hkl).1
      have c1 := (hC.below hb hB k hkl).2
      have bd := hG.out k hlt
      clear hC
      have HK : Hid (k < s.length) := hkl
      clear hkl
      generalize hr : at' s k = r at c0 c1 bd
      obtain ⟨lo, hi⟩ := r
      have HRr : Hid (at' s k = (lo, hi)) := hr
      clear hr
      simp only at c0 c1 bd
      have hBs := hB.size
      have bel1 := (Below.refl wr.heap.size wr).alloc (Nat.le_refl _) (.cells #[.int .i64 lo, .int .i64 hi] 143)
      have own1 := hown.alloc (.cells #[.int .i64 lo, .int .i64 hi] 143)
      have hBr := hB.alloc hBs (.cells #[.int .i64 lo, .int .i64 hi] 143)
      rcases hP.out with ⟨h0, h1⟩ | ⟨front, cur, h1, hj⟩
      · subst h0
        subst h1
        have hu : ∃ ao c, u6 = .slice ao 0 c := by
          rcases hown.2 with ⟨e, _⟩ | ⟨g, cap, cur, e, _⟩
          · exact ⟨_, _, e⟩
          · exact ⟨_, _, e⟩
        obtain ⟨ao, c, rfl⟩ := hu
        simp only [Nat.zero_mul, Nat.add_zero] at c0 c1
        go_wp2_with fail
        go_quiet (fail)
        have f0 : ((wr.alloc (.cells #[.int .i64 lo, .int .i64 hi] 143)).drewN nq).cell? ⟨wr.heap.size, 0, none⟩ = some (.int .i64 lo) := by simp
        have f1 : ((wr.alloc (.cells #[.int .i64 lo, .int .i64 hi] 143)).drewN nq).cell? ⟨wr.heap.size, 1, none⟩ = some (.int .i64 hi) := by simp
        have ownW : ((wr.alloc (.cells #[.int .i64 lo, .int .i64 hi] 143)).drewN nq).ownsRow w2.heap.size 143 2 (.slice ao 0 c) 0 (flat []) := own1
        have hBW := below_drewN hBr nq
        generalize (wr.alloc (.cells #[.int .i64 lo, .int .i64 hi] 143)).drewN nq = W1 at *
        clear c0 c1 own1 hBr bel1 hown
        go_wp2_with (at_builtin; refine append_row rfl (.tmp 47) (.tmp 49) rfl w2.heap.size _ _ _ rfl (ownW.alloc _) _ [(lo, hi)] rfl (row_new _ lo hi) (by simp only [List.length_append, List.length_cons, List.length_nil] at *; omega) (by simp; have := hBW.size; omega) ?_; intro v3 w3 hown3 hb3)
        have hB3 : Below w2.heap.size w2 w3 := (hBW.alloc hBW.size _).trans hb3
        exact ⟨⟨1, [(lo, hi)], by omega, by go_num, (show Hid (Part s 1 [(lo, hi)]) from (HRr.out ▸ part_first HK.out)), by simpa [flat] using hown3, hB3⟩, by simp [intOf]; omega⟩
      · subst h1
        obtain ⟨cl, ch⟩ := cur
        have HJ : Hid (join s = front ++ mrg (cl, ch) (s.drop k)) := hj
        clear hj hP
        obtain ⟨g, cap, rfl, hg1, hg2⟩ := hown.form (by simp)
        have hF : front.length + 1 ≤ 2000 := by simp at hos; omega
        have cl0 := hown.cellAt (front.length * 2) (by simp <;> omega)
        have cl1 := hown.cellAt (front.length * 2 + 1) (by simp <;> omega)
        rw [(flat_last front (cl, ch)).1] at cl0
        rw [(flat_last front (cl, ch)).2] at cl1
        have hw1 : IntKind.i64.wrap (front.length : Int) = (front.length : Int) := by simp [IntKind.wrap, IntKind.bits, IntKind.signed]; omega
        simp only [List.length_append, List.length_cons, List.length_nil] at hown own1 ⊢
        generalize hm : front.length = m at *
        have HM : Hid (front.length = m) := hm
        clear hm
        have gm : (0 : Int) ≤ (m : Int) := by omega
        have gm1 : (m : Int) < ((m + 1 : Nat) : Int) := by omega
        have HT : Hid (at' s k = (lo, hi)) := HRr
        by_cases h4 : cl ≤ hi + 1
        · have HP1 : Hid (Part s (k + 1) (front ++ [(min cl lo, ch)])) := by
            show _
            have := part_in HJ.out HK.out (by rw [HRr.out]; exact h4)
            rw [HRr.out] at this
            exact this
          go_wp2_with fail
          have bel1 := (Below.refl wr.heap.size wr).alloc (Nat.le_refl _) (.cells #[.int .i64 lo, .int .i64 hi] 143)
          generalize hW : wr.alloc (.cells #[.int .i64 lo, .int .i64 hi] 143) = W1 at *
          have gW : wr.heap.size < W1.heap.size := by rw [← hW]; simp
          have e0 : ∀ n os, (grow (W1.drewN n) os).cell? ⟨wr.heap.size, 0, none⟩ = some (.int .i64 lo) := cell_grown gW (by rw [← hW]; simp)
          have e1 : ∀ n os, (grow (W1.drewN n) os).cell? ⟨wr.heap.size, 1, none⟩ = some (.int .i64 hi) := cell_grown gW (by rw [← hW]; simp)
          have e2 : ∀ n os, (grow (W1.drewN n) os).cell? ⟨g, m * 2, none⟩ = some (.int .i64 cl) := cell_grown (by show g < _; omega) ((bel1.cell (by exact hg2)).trans cl0)
          have e3 : ∀ n os, (grow (W1.drewN n) os).cell? ⟨g, m * 2 + 1, none⟩ = some (.int .i64 ch) := cell_grown (by show g < _; omega) ((bel1.cell (by exact hg2)).trans cl1)
          clear hW c0 c1 cl0 cl1 hown
          have mx := mixed
          generalize hn : m + 1 = n at *
          have HN : Hid (m + 1 = n) := hn
          clear hn
          go_quiet_grown (first | (go_at_call 180; refine Calls.grown_of (touches_grow lo hi cl ch _ (by omega) bd.2.2)))
          have f0 := e0 nq osq
          have f1 := e1 nq osq
          have f2 := e2 nq osq
          have f3 := e3 nq osq
          have bg := below_grow (below_drewN (Below.refl W1.heap.size W1) nq) (Nat.le_refl _) osq
          have ownW := own_below own1 bg
          have hBW : Below w2.heap.size w2 (grow (W1.drewN nq) osq) := hBr.trans (bg.mono hBr.size)
          generalize grow (W1.drewN nq) osq = W2 at *
          clear e0 e1 e2 e3 own1 hBr bel1 bg
          have fz := ownW.frozenAt (m * 2)
          go_wp2_with fail
          go_region
          go_wp2_with fail
          have hst := (ownW.stored (m * 2) (.int .i64 (min cl lo))).1
          have hst2 : ((W2.setCell ⟨g, m * 2, none⟩ (.int .i64 (min cl lo))).drew).ownsRow w2.heap.size 143 2 (.slice (some ⟨g, 0, none⟩) n cap) (front ++ [(min cl lo, ch)]).length (flat (front ++ [(min cl lo, ch)])) := by
            have e1 : (front ++ [(min cl lo, ch)]).length = n := by have := HM.out; have := HN.out; simp; omega
            have e2 := flat_set front (cl, ch) (min cl lo)
            rw [HM.out] at e2
            rw [e1, ← e2]
            exact hst
          exact ⟨⟨k + 1, front ++ [(min cl lo, ch)], by omega, by go_num, HP1, hst2, (hBW.setCell (p := ⟨g, m * 2, none⟩) hg1 _).drew⟩, by simp [intOf]; omega⟩
        · have HP1 : Hid (Part s (k + 1) (front ++ [(cl, ch)] ++ [(lo, hi)])) := by
            show _
            have := part_next HJ.out HK.out (by rw [HRr.out]; exact h4)
            rw [HRr.out] at this
            exact this
          go_wp2_with fail
          have bel1 := (Below.refl wr.heap.size wr).alloc (Nat.le_refl _) (.cells #[.int .i64 lo, .int .i64 hi] 143)
          generalize hW : wr.alloc (.cells #[.int .i64 lo, .int .i64 hi] 143) = W1 at *
          have gW : wr.heap.size < W1.heap.size := by rw [← hW]; simp
          have e0 : ∀ n os, (grow (W1.drewN n) os).cell? ⟨wr.heap.size, 0, none⟩ = some (.int .i64 lo) := cell_grown gW (by rw [← hW]; simp)
          have e1 : ∀ n os, (grow (W1.drewN n) os).cell? ⟨wr.heap.size, 1, none⟩ = some (.int .i64 hi) := cell_grown gW (by rw [← hW]; simp)
          have e2 : ∀ n os, (grow (W1.drewN n) os).cell? ⟨g, m * 2, none⟩ = some (.int .i64 cl) := cell_grown (by show g < _; omega) ((bel1.cell (by exact hg2)).trans cl0)
          have e3 : ∀ n os, (grow (W1.drewN n) os).cell? ⟨g, m * 2 + 1, none⟩ = some (.int .i64 ch) := cell_grown (by show g < _; omega) ((bel1.cell (by exact hg2)).trans cl1)
          clear hW c0 c1 cl0 cl1 hown
          have mx := mixed
          generalize hn : m + 1 = n at *
          have HN : Hid (m + 1 = n) := hn
          clear hn
          go_quiet_grown (first | (go_at_call 180; refine Calls.grown_of (touches_grow lo hi cl ch _ (by omega) bd.2.2)))
          have f0 := e0 nq osq
          have f1 := e1 nq osq
          have f2 := e2 nq osq
          have f3 := e3 nq osq
          have bg := below_grow (below_drewN (Below.refl W1.heap.size W1) nq) (Nat.le_refl _) osq
          have ownW := own_below own1 bg
          have hBW : Below w2.heap.size w2 (grow (W1.drewN nq) osq) := hBr.trans (bg.mono hBr.size)
          generalize grow (W1.drewN nq) osq = W2 at *
          clear e0 e1 e2 e3 own1 hBr bel1 bg
          go_wp2_with (at_builtin; refine append_row rfl (.tmp 47) (.tmp 49) rfl w2.heap.size _ _ _ rfl (ownW.alloc _) _ [(lo, hi)] rfl (row_new _ lo hi) (by simp only [List.length_append, List.length_cons, List.length_nil] at *; omega) (by simp; have := hBW.size; omega) ?_; intro v3 w3 hown3 hb3)
          have hB3 : Below w2.heap.size w2 w3 := (hBW.alloc hBW.size _).trans hb3
          exact ⟨⟨k + 1, front ++ [(cl, ch)] ++ [(lo, hi)], by omega, by go_num, HP1, (by
            have e2 : (front ++ [(cl, ch)] ++ [(lo, hi)]).length = n + [(lo, hi)].length := by have := HM.out; have := HN.out; simp; omega
            rw [e2, flat_append]; exact hown3), hB3⟩, by simp [intOf]; omega⟩
    · obtain rfl : k = len := by omega
      have e1 : os = join s := part_done (by rw [HL.out]; exact hP.out)
      go_wp2_with fail
      go_ret
      refine ⟨_, os, rfl, own_mono hown hBb.size, ?_, ?_, ?_, ?_⟩
      · rw [e1]; exact join_norm s (fun r hr => (HG.out r (HS.out.1.mem_iff.1 hr)).2.1) HS.out.2
      · intro n
        rw [e1, join_mem s (fun r hr => (HG.out r (HS.out.1.mem_iff.1 hr)).2.1) HS.out.2, mem_perm HS.out.1, mem_append]
      · have := join_length s; rw [← e1] at this; have := hlen.out; have := HL.out; omega
      · exact hBb.trans (hB.mono hBb.size)

theorem good_each {zs : List R} (h : Good zs) : ∀ r, r ∈ zs → 0 ≤ r.1 ∧ r.1 ≤ r.2 ∧ r.2 ≤ 1073741823 := fun r hr => ⟨(h.2.1 r hr).1, norm_le h.2.2 r hr, (h.2.1 r hr).2⟩

set_option maxRecDepth 100000 in
set_option maxHeartbeats 2000000 in
theorem add_ok (v : Value) (zs : List R) (n : Int) (w : World) (h : Row w v zs) (hk : chk zs = 0) (hN : isN n = true) :
    Calls Tryz.prog 135 #[v, .int .i64 n] w fun e w' => ∃ zs', Norm zs' ∧ (∀ k, Mem zs' k ↔ Mem zs k ∨ k = n) ∧ zs'.length ≤ zs.length + 1 ∧ Below w.heap.size w w' ∧
      ((12 < zs'.length ∧ e = .returned (.tuple #[.slice none 0 0, .bool false, errV 4])) ∨ (zs'.length ≤ 12 ∧ ∃ v', w'.ownsRow w.heap.size 143 2 v' zs'.length (flat zs') ∧ e = .returned (.tuple #[v', .bool (!memB zs n), .nilIface]))) := by
  have hc := check_calls v zs w h
  rw [hk, errV0] at hc
  have HG : Hid (Good zs) := (chk_ok zs).1 hk
  have HR : Hid (Row w v zs) := h
  have hN' := (isN_iff n).1 hN
  have h12 : zs.length ≤ 12 := HG.out.1
  obtain ⟨ao, c, rfl, hl, hn, hz⟩ := h
  clear hz hn hk
  go_enter Tryz.func135, Tryz.ntmps135
  go_wp2_with (first | (go_at_call 158; refine hc.mono ?_; rintro e w1 ⟨rfl, hb1⟩) | (go_at_call 157; refine (isNumber_calls n _).mono ?_; rintro e w2 ⟨rfl, rfl⟩; rw [hN]))
  have hba := hb1.alloc hb1.size (.cells #[.int .i64 n, .int .i64 n] 143)
  refine (joined_calls _ _ zs [(n, n)] _ (HR.out.below hba) (row_new _ n n) (by omega) (by simp) ?_).mono ?_
  · intro r hr
    rcases List.mem_append.1 hr with hr | hr
    · exact good_each HG.out r hr
    · simp at hr; subst hr; exact ⟨hN'.1, Int.le_refl _, hN'.2⟩
  rintro e w3 ⟨v3, zs', rfl, hO3, hn3, hm3, hl3, hb3⟩
  have hr3 := row_of_own hO3 (by simp only [List.length_cons, List.length_nil] at hl3; omega)
  have HO3 : Hid (w3.ownsRow w.heap.size 143 2 v3 zs'.length (flat zs')) := own_mono hO3 (by simp; have := hb1.size; omega)
  clear hO3
  have hbc := hba.trans (hb3.mono hba.size)
  have HM : Hid (Norm zs' ∧ (∀ k, Mem zs' k ↔ Mem zs k ∨ k = n) ∧ zs'.length ≤ zs.length + 1) := by
    refine ⟨hn3, fun k => ?_, by simpa using hl3⟩
    rw [hm3 k, mem_one]
    constructor
    · rintro (x | x)
      · exact .inl x
      · exact .inr (by have := x.1; have := x.2; simp at *; omega)
    · rintro (x | rfl)
      · exact .inl x
      · exact .inr ⟨Int.le_refl _, Int.le_refl _⟩
  have hl' : zs'.length ≤ 13 := by have := HM.out.2.2; omega
  have HR3 : Hid (Row w3 v3 zs') := hr3
  clear hn3 hm3 hl3
  obtain ⟨ao3, c3, rfl, hl4, hn4, hz4⟩ := hr3
  clear hz4 hn4
  generalize hq : zs'.length = len at *
  have HQ : Hid (zs'.length = len) := hq
  clear hq
  by_cases h13 : 12 < len
  · have g1 : (12 : Int) < (len : Int) := by omega
    go_wp2_with fail
    go_ret3
    exact ⟨zs', HM.out.1, HM.out.2.1, HQ.out ▸ HM.out.2.2, hbc, .inl ⟨by rw [HQ.out]; exact h13, rfl⟩⟩
  · have g1 : ¬ (12 : Int) < (len : Int) := by omega
    go_wp2_with (go_at_call 159; refine (has_calls _ zs n _ (HR.out.below hbc)).mono ?_; rintro e w4 ⟨rfl, hb4⟩)
    go_ret3
    exact ⟨zs', HM.out.1, HM.out.2.1, HQ.out ▸ HM.out.2.2, hbc.trans (hb4.mono hbc.size), .inr ⟨by rw [HQ.out]; omega, _, (by rw [HQ.out]; exact own_below HO3.out hb4), rfl⟩⟩

set_option maxRecDepth 100000 in
set_option maxHeartbeats 2000000 in
theorem hasx_ok (v : Value) (zs : List R) (n : Int) (w : World) (h : Row w v zs) (hN : isN n = true) (hk : chk zs = 0) :
    Calls Tryz.prog 133 #[v, .int .i64 n] w fun e w' => e = .returned (.tuple #[.bool (memB zs n), .nilIface]) ∧ Below w.heap.size w w' := by
  have hc := check_calls v zs w h
  rw [hk, errV0] at hc
  have HR : Hid (Row w v zs) := h
  obtain ⟨ao, c, rfl, hl, hn, hz⟩ := h
  clear hz hn hk
  go_enter Tryz.func133, Tryz.ntmps133
  go_wp2_with (first | (go_at_call 158; refine hc.mono ?_; rintro e w1 ⟨rfl, hb1⟩) | (go_at_call 157; refine (isNumber_calls n _).mono ?_; rintro e w2 ⟨rfl, rfl⟩; rw [hN]))
  refine (has_calls _ zs n _ (HR.out.below hb1)).mono ?_
  rintro e w4 ⟨rfl, hb4⟩
  go_wp2_with fail
  go_ret2
  exact ⟨rfl, hb1.trans (hb4.mono hb1.size)⟩

end Go.Proofs.YtdokgalidhmbbaaGreatDoor
