/- Slices of ranges that a call made itself: their cells, append onto them, and how they lie for the sort; slices.Concat at two slices. -/
import Derived.Test.YtegelodkopommaaGreatDoorRH
import Derived.Laws.AppendOwn
import Derived.Laws.AppendOwnNone
import Derived.Shelf.Spec.SlicesGrow
import Derived.Shelf.SlSortCmp.WholeK
import Derived.Shelf.SlSortCmp.NoneTotal
import Derived.Ground.SlsfProg
import Derived.Ground.Names8Prog
namespace Go.Proofs
open Go.Shelf
def Tryz.lg_ren : Go.Shelf.Ren := ⟨fun | 4 => 92 | n => n, fun | 22 => 41 | 25 => 66 | 3 => 3 | 4 => 4 | 9 => 9 | 20 => 20 | 0 => 0 | 2 => 3 | n => n, fun | n => n⟩
theorem Tryz.lg : Go.Proofs.Lays8.n4 Tryz.prog Tryz.lg_ren := {
  mixed := by kernel_rfl
  f4 := ⟨Tryz.f92.name, by decide, Tryz.func92.trans (congrArg some (by kernel_rfl))⟩
  t0 := Tryz.underlying0
  a0 := Tryz.isAgg0
  z0 := Tryz.sizeOf0
  v0 := Tryz.zeroValue0
  t3 := Tryz.underlying3
  a3 := Tryz.isAgg3
  z3 := Tryz.sizeOf3
  v3 := Tryz.zeroValue3
  t4 := Tryz.underlying4
  a4 := Tryz.isAgg4
  z4 := Tryz.sizeOf4
  v4 := Tryz.zeroValue4
  t9 := Tryz.underlying9
  a9 := Tryz.isAgg9
  z9 := Tryz.sizeOf9
  v9 := Tryz.zeroValue9
  t20 := Tryz.underlying20
  a20 := Tryz.isAgg20
  z20 := Tryz.sizeOf20
  v20 := Tryz.zeroValue20
  t22 := Tryz.underlying41
  a22 := Tryz.isAgg41
  z22 := Tryz.sizeOf41
  v22 := Tryz.zeroValue41 }
def Tryz.ls_ren : Go.Shelf.Ren := ⟨fun | 6 => 72 | 15 => 94 | 14 => 93 | 28 => 113 | 29 => 114 | 20 => 105 | 21 => 106 | 22 => 107 | 23 => 108 | 24 => 109 | 25 => 110 | 26 => 111 | 27 => 112 | 46 => 117 | 47 => 118 | 48 => 119 | 49 => 120 | 50 => 121 | 57 => 122 | n => n, fun | 22 => 41 | 24 => 66 | 25 => 126 | 3 => 3 | 39 => 96 | 0 => 0 | 53 => 168 | 55 => 170 | 4 => 4 | 46 => 161 | 45 => 160 | 50 => 165 | 5 => 5 | 9 => 9 | 66 => 174 | 70 => 178 | 76 => 180 | 77 => 181 | n => n, fun | n => n⟩
theorem Tryz.ls : Go.Proofs.SlLaysF0.n6 Tryz.prog Tryz.ls_ren := {
  mixed := by kernel_rfl
  f6 := ⟨Tryz.f72.name, by decide, Tryz.func72.trans (congrArg some (by kernel_rfl))⟩
  f14 := ⟨Tryz.f93.name, by decide, Tryz.func93.trans (congrArg some (by kernel_rfl))⟩
  f15 := Tryz.func94.trans (congrArg some (by kernel_rfl))
  f20 := ⟨Tryz.f105.name, by decide, Tryz.func105.trans (congrArg some (by kernel_rfl))⟩
  f21 := ⟨Tryz.f106.name, by decide, Tryz.func106.trans (congrArg some (by kernel_rfl))⟩
  f22 := ⟨Tryz.f107.name, by decide, Tryz.func107.trans (congrArg some (by kernel_rfl))⟩
  f23 := ⟨Tryz.f108.name, by decide, Tryz.func108.trans (congrArg some (by kernel_rfl))⟩
  f24 := ⟨Tryz.f109.name, by decide, Tryz.func109.trans (congrArg some (by kernel_rfl))⟩
  f25 := ⟨Tryz.f110.name, by decide, Tryz.func110.trans (congrArg some (by kernel_rfl))⟩
  f26 := ⟨Tryz.f111.name, by decide, Tryz.func111.trans (congrArg some (by kernel_rfl))⟩
  f27 := ⟨Tryz.f112.name, by decide, Tryz.func112.trans (congrArg some (by kernel_rfl))⟩
  f28 := Tryz.func113.trans (congrArg some (by kernel_rfl))
  f29 := Tryz.func114.trans (congrArg some (by kernel_rfl))
  f46 := ⟨Tryz.f117.name, by decide, Tryz.func117.trans (congrArg some (by kernel_rfl))⟩
  f47 := Tryz.func118.trans (congrArg some (by kernel_rfl))
  f48 := Tryz.func119.trans (congrArg some (by kernel_rfl))
  f49 := ⟨Tryz.f120.name, by decide, Tryz.func120.trans (congrArg some (by kernel_rfl))⟩
  f50 := ⟨Tryz.f121.name, by decide, Tryz.func121.trans (congrArg some (by kernel_rfl))⟩
  f57 := ⟨Tryz.f122.name, by decide, Tryz.func122.trans (congrArg some (by kernel_rfl))⟩
  t0 := Tryz.underlying0
  a0 := Tryz.isAgg0
  z0 := Tryz.sizeOf0
  v0 := Tryz.zeroValue0
  t3 := Tryz.underlying3
  a3 := Tryz.isAgg3
  z3 := Tryz.sizeOf3
  v3 := Tryz.zeroValue3
  t4 := Tryz.underlying4
  a4 := Tryz.isAgg4
  z4 := Tryz.sizeOf4
  v4 := Tryz.zeroValue4
  t5 := Tryz.underlying5
  a5 := Tryz.isAgg5
  z5 := Tryz.sizeOf5
  v5 := Tryz.zeroValue5
  t9 := Tryz.underlying9
  a9 := Tryz.isAgg9
  z9 := Tryz.sizeOf9
  v9 := Tryz.zeroValue9
  t22 := Tryz.underlying41
  a22 := Tryz.isAgg41
  z22 := Tryz.sizeOf41
  v22 := Tryz.zeroValue41
  t25 := Tryz.underlying126
  a25 := Tryz.isAgg126
  z25 := Tryz.sizeOf126
  v25 := Tryz.zeroValue126
  t39 := Tryz.underlying96
  a39 := Tryz.isAgg96
  z39 := Tryz.sizeOf96
  v39 := Tryz.zeroValue96
  t45 := Tryz.underlying160
  a45 := Tryz.isAgg160
  z45 := Tryz.sizeOf160
  v45 := Tryz.zeroValue160
  t46 := Tryz.underlying161
  a46 := Tryz.isAgg161
  z46 := Tryz.sizeOf161
  v46 := Tryz.zeroValue161
  t50 := Tryz.underlying165
  a50 := Tryz.isAgg165
  z50 := Tryz.sizeOf165
  v50 := Tryz.zeroValue165
  t53 := Tryz.underlying168
  a53 := Tryz.isAgg168
  z53 := Tryz.sizeOf168
  v53 := Tryz.zeroValue168
  t55 := Tryz.underlying170
  a55 := Tryz.isAgg170
  z55 := Tryz.sizeOf170
  v55 := Tryz.zeroValue170
  t66 := Tryz.underlying174
  a66 := Tryz.isAgg174
  z66 := Tryz.sizeOf174
  v66 := Tryz.zeroValue174
  t70 := Tryz.underlying178
  a70 := Tryz.isAgg178
  z70 := Tryz.sizeOf178
  v70 := Tryz.zeroValue178
  t76 := Tryz.underlying180
  a76 := Tryz.isAgg180
  z76 := Tryz.sizeOf180
  v76 := Tryz.zeroValue180
  t77 := Tryz.underlying181
  a77 := Tryz.isAgg181
  z77 := Tryz.sizeOf181
  v77 := Tryz.zeroValue181 }
end Go.Proofs
namespace Go.Proofs.YtegelodkopommaaGreatDoor
open Go.RowKit Go.Lib Go.Sort Go.Shelf
set_option linter.unusedVariables false
set_option linter.unusedSimpArgs false

theorem grow_none (w : World) : Calls Tryz.prog 92 #[.slice none 0 0, .int .i64 0] w fun e w' => e = .returned (.slice none 0 0) ∧ w' = w := by
  have h := Any8.slices_Grow_room Tryz.lg none 0 0 0 w (by omega) (by omega) (by omega) (by omega)
  change Calls Tryz.prog 92 _ _ _ at h
  exact h
theorem grow_some (n : Nat) (w : World) (h0 : 0 < n) (h1 : n ≤ 1000000) : Calls Tryz.prog 92 #[.slice none 0 0, .int .i64 n] w fun e w' => ∃ v, e = .returned v ∧ w'.ownsRow w.heap.size 66 2 v 0 (flat []) ∧ Below w.heap.size w w' := by
  obtain ⟨i0, hi, hz0, hz1, hz2⟩ := info_parts infoR
  have h := Any8.slices_Grow_grow Tryz.lg i0 _ hi hz0 (by omega) none 0 0 n [] w (by omega) (by omega) (by rw [hz2]; omega) (by omega) (by simp) (fun _ => rfl) (fun a ha => by cases ha)
  change Calls Tryz.prog 92 _ _ _ at h
  refine h.mono fun e w' ⟨he, hw⟩ => ⟨_, he, ?_, ?_⟩
  · rw [hw]
    have gg := grownCap_ge w n 0 (Tryz.lg_ren.t 25)
    have gm := grownCap_le_maxLen w (0 + n) 0 66 (by unfold maxLen; omega)
    exact World.ownsRow_made w.drew _ _ (Nat.le_refl _) gm (by simp only [Array.size_append, size_zeroCells]; simp [Value.cells]; omega)
  · rw [hw]; exact (Below.refl w.heap.size w).drew.alloc (Nat.le_refl _) _
theorem grow_any (n : Nat) (w : World) (h1 : n ≤ 1000000) : Calls Tryz.prog 92 #[.slice none 0 0, .int .i64 n] w fun e w' => ∃ v, e = .returned v ∧ w'.ownsRow w.heap.size 66 2 v 0 (flat []) ∧ Below w.heap.size w w' := by
  by_cases h0 : n = 0
  · subst h0
    exact (grow_none w).mono fun e w' ⟨he, hw⟩ => ⟨_, he, World.ownsRow_nil _ _ _ _, hw ▸ Below.refl _ _⟩
  · exact grow_some n w (by omega) h1

set_option maxRecDepth 100000 in
set_option maxHeartbeats 2000000 in
theorem concat_calls (S : Nat) (va vb : Value) (xs ys : List R) (w : World) (hS : S < w.heap.size) (ha : w.cell? ⟨S, 0, none⟩ = some va) (hb : w.cell? ⟨S, 1, none⟩ = some vb) (hra : Row w va xs) (hrb : Row w vb ys) (hx : xs.length ≤ 1000) (hy : ys.length ≤ 1000) :
    Calls Tryz.prog 71 #[.slice (some ⟨S, 0, none⟩) 2 2] w fun e w' => ∃ v, e = .returned v ∧ w'.ownsRow w.heap.size 66 2 v (xs.length + ys.length) (flat (xs ++ ys)) ∧ Below w.heap.size w w' := by
  have HA : Hid (Row w va xs) := hra
  have HB : Hid (Row w vb ys) := hrb
  obtain ⟨aa, ca, rfl, la, na, za⟩ := hra
  obtain ⟨ab, cb, rfl, lb, nb, zb⟩ := hrb
  clear za zb na nb
  have hg := grow_any (xs.length + ys.length) w (by omega)
  rw [Int.natCast_add] at hg
  go_enter Tryz.func71, Tryz.ntmps71
  go_wp2_with fail
  refine wp_loop_rounds 3 ?_
  rw [rounds_succ]
  go_wp2_with fail
  rw [rounds_succ]
  go_wp2_with fail
  rw [rounds_succ]
  go_wp2_with fail
  refine hg.mono ?_
  rintro e w1 ⟨v, rfl, hown, hB1⟩
  have ha1 := (hB1.cell (p := ⟨S, 0, none⟩) hS).trans ha
  have hb1 := (hB1.cell (p := ⟨S, 1, none⟩) hS).trans hb
  clear ha hb
  go_wp2_with fail
  refine wp_loop_rounds 3 ?_
  rw [rounds_succ]
  go_wp2_with (at_builtin; refine append_row rfl (.tmp 31) (.tmp 32) rfl w.heap.size v 0 (flat []) rfl hown _ xs rfl (HA.out.below hB1) (by omega) hB1.size ?_; intro v2 w2 hown2 hb2)
  have hB2 := hB1.trans hb2
  have hb2' := (hb2.cell (p := ⟨S, 1, none⟩) hS).trans hb1
  rw [rounds_succ]
  go_wp2_with (at_builtin; refine append_row rfl (.tmp 31) (.tmp 32) rfl w.heap.size v2 _ _ rfl hown2 _ ys rfl (HB.out.below hB2) (by omega) hB2.size ?_; intro v3 w3 hown3 hb3)
  have hB3 := hB2.trans hb3
  rw [rounds_succ]
  go_wp2_with fail
  go_ret
  refine ⟨v3, rfl, ?_, hB3⟩
  have e1 : 0 + xs.length + ys.length = xs.length + ys.length := by omega
  have e2 : flat [] ++ flat xs ++ flat ys = flat (xs ++ ys) := by rw [flat_append]; rfl
  rw [e1, e2] at hown3
  exact hown3

def cmpF (x y : R) : Int := if y.2 < x.2 then -1 else if x.2 < y.2 then 1 else 0
theorem ltF (x y : R) : ltOf cmpF x y = decide (y.2 < x.2) := by
  unfold ltOf cmpF
  by_cases h1 : y.2 < x.2
  · simp [h1]
  · by_cases h2 : x.2 < y.2 <;> simp [h1, h2]
theorem swoF : SWO (ltOf cmpF) where
  irrefl x := by rw [ltF]; simp
  trans x y z h1 h2 := by rw [ltF] at *; simp at *; omega
  ntrans x y z h1 h2 := by rw [ltF] at *; simp at *; omega

set_option maxRecDepth 100000 in
set_option maxHeartbeats 2000000 in
theorem cmp_calls (x y : Int) (w : World) : Calls Tryz.prog 74 #[.int .i64 x, .int .i64 y] w fun e w' => e = .returned (.int .i64 (if x < y then -1 else if y < x then 1 else 0)) ∧ w' = w := by
  by_cases h1 : x < y
  · rw [if_pos h1]
    go_enter Tryz.func74, Tryz.ntmps74
    go_wp2
    go_ret
    exact ⟨rfl, rfl⟩
  · rw [if_neg h1]
    by_cases h2 : y < x
    · rw [if_pos h2]
      go_enter Tryz.func74, Tryz.ntmps74
      go_wp2
      go_ret
      exact ⟨rfl, rfl⟩
    · rw [if_neg h2]
      go_enter Tryz.func74, Tryz.ntmps74
      go_wp2
      go_ret
      exact ⟨rfl, rfl⟩

set_option maxRecDepth 100000 in
set_option maxHeartbeats 2000000 in
theorem sort_closure (x y : R) (W : World) : Calls Tryz.prog 73 #[.agg #[.int .i64 x.1, .int .i64 x.2], .agg #[.int .i64 y.1, .int .i64 y.2]] W fun e w' => e = .returned (.int .i64 (cmpF x y)) ∧ ∃ q os', w' = grow (W.drewN q) os' := by
  have hcon := fun W' => cmp_calls y.2 x.2 W'
  have e : (if y.2 < x.2 then (-1 : Int) else if x.2 < y.2 then 1 else 0) = cmpF x y := rfl
  rw [e] at hcon
  generalize cmpF x y = r at hcon ⊢
  clear e
  go_enter Tryz.func73, Tryz.ntmps73
  go_wp2_with (go_at_call 74; refine (hcon _).mono ?_; rintro e w' ⟨rfl, rfl⟩)
  go_ret
  exact ⟨rfl, 0, _, by rw [alloc_eq_grow, alloc_eq_grow, grow_grow]; rfl⟩

theorem heap_put {α : Type} [Inhabited α] (enc : α → List Value) (k : Nat) (w : World) (m blk off : Nat) (d : Array α) (j : Nat) (hj : j ≠ blk) : (putRowK enc k (Sort.ahead w m) blk off d).heap[j]? = w.heap[j]? := by
  unfold putRowK putRow mapBlock
  show (w.heap.modify blk _)[j]? = _
  rw [Array.getElem?_modify, if_neg (fun e => hj e.symm)]
theorem below_sort {α : Type} [Inhabited α] {B : Nat} (enc : α → List Value) (k : Nat) (w : World) (m blk off : Nat) (d : Array α) (os : Array Obj) (hB : B ≤ blk) (hw : B ≤ w.heap.size) : Below B w (sortWorldK enc k w blk off m d os) := by
  unfold sortWorldK
  have hsz : (putRowK enc k (Sort.ahead w m) blk off d).heap.size = w.heap.size := by unfold putRowK; rw [Go.Sort.size_putRow]; rfl
  have h1 : Below B w (putRowK enc k (Sort.ahead w m) blk off d) := ⟨rfl, rfl, rfl, Nat.le_of_eq hsz.symm, fun j hj => heap_put enc k w m blk off d j (by omega)⟩
  exact below_grow h1 (by rw [hsz]; exact hw) os
theorem holdsK_of_own {w : World} {base g n cap : Nat} {zs : List R} (h : w.ownsRow base 66 2 (.slice (some ⟨g, 0, none⟩) n cap) n (flat zs)) : HoldsK encR 2 w g 0 zs.toArray := by
  intro t ht
  rw [size_flatK] at ht
  have ht' : t < zs.length * 2 := by simpa using ht
  have hc := cells_of_own h (t / 2) (by omega)
  rw [get_flatK _ _ _ _ ht]
  have e : zs.toArray[t / 2]! = at' zs (t / 2) := by simp [at', show t / 2 < zs.length by omega]
  rw [e]
  rcases h.2 with ⟨e0, _⟩ | ⟨g', cap', cur, e0, hb, hg, hr⟩
  · cases e0
  injection e0 with e1 _ _
  injection e1 with e1
  injection e1 with e1
  subst e1
  refine ⟨?_, by simp [World.frozen?, hg]⟩
  rcases (show t = t / 2 * 2 ∨ t = t / 2 * 2 + 1 by omega) with q | q
  · have q2 : t % 2 = 0 := by omega
    rw [q2]
    show w.cell? ⟨g, 0 + t, none⟩ = some (.int .i64 (at' zs (t / 2)).1)
    rw [← hc.1]; congr 2; omega
  · have q2 : t % 2 = 1 := by omega
    rw [q2]
    show w.cell? ⟨g, 0 + t, none⟩ = some (.int .i64 (at' zs (t / 2)).2)
    rw [← hc.2]; congr 2; omega
theorem cells_of_holds {w : World} {g : Nat} {d : Array R} (h : HoldsK encR 2 w g 0 d) : Cells w g 0 d.toList := by
  intro j hj
  have hj' : j < d.size := by simpa using hj
  have a := (h.cell (i := j) (c := 0) hj' (by omega)).1
  have b := (h.cell (i := j) (c := 1) hj' (by omega)).1
  have e : d[j]! = at' d.toList j := by simp [at', hj']
  rw [e] at a b
  exact ⟨a, b⟩
theorem desc_of : ∀ (l : List R), (∀ i j, i < j → j < l.length → (at' l j).2 ≤ (at' l i).2) → Desc l
  | [], _ => trivial
  | r :: rs, h => ⟨fun s hs => by
      obtain ⟨j, hj, e⟩ := List.getElem_of_mem hs
      have := h 0 (j + 1) (by omega) (by simpa using hj)
      simp [at', hj] at this
      rw [e] at this
      exact this, desc_of rs fun i j a b => by
      have := h (i + 1) (j + 1) (by omega) (by simpa using b)
      simpa [at'] using this⟩

/-- slices.SortFunc of a slice that the caller made: from above, and the same ranges. -/
theorem sort_calls (v : Value) (zs : List R) (n B : Nat) (w : World) (hown : w.ownsRow B 66 2 v n (flat zs)) (hl : zs.length ≤ 1000000) (hB : B ≤ w.heap.size) :
    Calls Tryz.prog 72 #[v, .func (.func 73) #[] #[]] w fun e w' => e = .returned (.tuple #[]) ∧ (∃ s : List R, s.Perm zs ∧ Desc s ∧ Row w' v s) ∧ Below B w w' := by
  have hn := own_length hown
  rcases hown.2 with ⟨rfl, h0⟩ | ⟨g, cap, cur, rfl, hb, hg, hr⟩
  · have h := AnyF.slices_SortFunc_none Tryz.ls none 0 (.func (.func 73) #[] #[]) w
    change Calls Tryz.prog 72 _ _ _ at h
    have e0 : zs = [] := List.eq_nil_of_length_eq_zero (by omega)
    subst e0
    exact h.mono fun e w' ⟨he, hw⟩ => ⟨he, ⟨[], .refl _, trivial, Row.nil _⟩, hw ▸ Below.refl _ _⟩
  · have eg : ∀ args w, (callFunc 73 args).run Tryz.prog w = .ok (.enter 73 args) w := enters_of Tryz.func73 (by kernel_rfl) rfl
    have hH := holdsK_of_own hown
    have hlt := (own_lt hown).2
    have hcon := AnyQ.slices_SortFunc Tryz.ls 2 Tryz.isAgg66 Tryz.sizeOf66 encR (fun _ => rfl) (fun x v hv => by simp [encR] at hv; rcases hv with rfl | rfl <;> rfl) cmpF swoF 73 #[] g 0 cap zs.toArray w eg (fun _ _ _ _ x y => sort_closure x y _) hH hlt (by simp; omega)
    change Calls Tryz.prog 72 _ _ _ at hcon
    have e1 : zs.toArray.size = n := by simpa using hn
    rw [e1] at hcon
    refine hcon.mono fun e w' ⟨he, d', m, os, hp, hs, hw⟩ => ⟨he, ⟨d'.toList, ?_, ?_, ?_⟩, ?_⟩
    · have := hp.2.2
      have a1 : d'.size = n := by rw [hp.1]; exact e1
      have a2 : d'.extract 0 n = d' := by rw [← a1]; simp
      have a3 : zs.toArray.extract 0 n = zs.toArray := by rw [← e1]; simp
      rw [a2, a3] at this
      exact this
    · refine desc_of _ fun i j hij hj => ?_
      have a1 : d'.size = n := by rw [hp.1]; exact e1
      have hj' : j < d'.size := by simpa using hj
      have := hs i j (Nat.zero_le _) hij (by omega)
      rw [ltF] at this
      simp [hj', show i < d'.size by omega] at this
      simp [at', hj', show i < d'.size by omega]
      omega
    · have a1 : d'.size = n := by rw [hp.1]; exact e1
      rw [hw]
      have hK := holdsK_sortWorldK encR 2 w g 0 m zs.toArray d' os hlt hH (by rw [a1, e1])
      refine ⟨some ⟨g, 0, none⟩, cap, by simp [a1], by simp [a1]; omega, (fun x => by cases x), .inr ⟨g, 0, rfl, ?_, cells_of_holds hK⟩⟩
      exact Nat.lt_of_lt_of_le hlt (below_sort (B := 0) encR 2 w m g 0 d' os (by omega) (by omega)).size
    · rw [hw]; exact below_sort encR 2 w m g 0 d' os hb hB
end Go.Proofs.YtegelodkopommaaGreatDoor
