/- Slices of ranges that a call made itself: their cells, append onto them, and how they lie for the sort; slices.Concat at two slices. -/
import Derived.Test.YtbglleldbogaaaaDoorH
import Derived.Laws.AppendOwn
import Derived.Laws.AppendOwnNone
import Derived.Shelf.Spec.SlicesGrow
import Derived.Shelf.SlSortCmp.WholeK
import Derived.Shelf.SlSortCmp.NoneTotal
import Derived.Ground.SlsfProg
import Derived.Ground.Names8Prog
namespace Go.Proofs
open Go.Shelf
def Tryd.lg_ren : Go.Shelf.Ren := ⟨fun | 4 => 32 | n => n, fun | 22 => 22 | 25 => 31 | 3 => 3 | 4 => 4 | 9 => 9 | 20 => 20 | 0 => 0 | 2 => 3 | n => n, fun | n => n⟩
theorem Tryd.lg : Go.Proofs.Lays8.n4 Tryd.prog Tryd.lg_ren := {
  mixed := by kernel_rfl
  f4 := ⟨Tryd.f32.name, by decide, Tryd.func32.trans (congrArg some (by kernel_rfl))⟩
  t0 := Tryd.underlying0
  a0 := Tryd.isAgg0
  z0 := Tryd.sizeOf0
  v0 := Tryd.zeroValue0
  t3 := Tryd.underlying3
  a3 := Tryd.isAgg3
  z3 := Tryd.sizeOf3
  v3 := Tryd.zeroValue3
  t4 := Tryd.underlying4
  a4 := Tryd.isAgg4
  z4 := Tryd.sizeOf4
  v4 := Tryd.zeroValue4
  t9 := Tryd.underlying9
  a9 := Tryd.isAgg9
  z9 := Tryd.sizeOf9
  v9 := Tryd.zeroValue9
  t20 := Tryd.underlying20
  a20 := Tryd.isAgg20
  z20 := Tryd.sizeOf20
  v20 := Tryd.zeroValue20
  t22 := Tryd.underlying22
  a22 := Tryd.isAgg22
  z22 := Tryd.sizeOf22
  v22 := Tryd.zeroValue22 }
def Tryd.ls_ren : Go.Shelf.Ren := ⟨fun | 6 => 23 | 15 => 34 | 14 => 33 | 28 => 48 | 29 => 49 | 20 => 40 | 21 => 41 | 22 => 42 | 23 => 43 | 24 => 44 | 25 => 45 | 26 => 46 | 27 => 47 | 46 => 50 | 47 => 51 | 48 => 52 | 49 => 53 | 50 => 54 | 57 => 55 | n => n, fun | 22 => 22 | 24 => 31 | 25 => 53 | 3 => 3 | 39 => 73 | 0 => 0 | 53 => 98 | 55 => 100 | 4 => 4 | 46 => 91 | 45 => 90 | 50 => 95 | 5 => 5 | 9 => 9 | 66 => 101 | 70 => 105 | 76 => 107 | 77 => 108 | n => n, fun | n => n⟩
theorem Tryd.ls : Go.Proofs.SlLaysF0.n6 Tryd.prog Tryd.ls_ren := {
  mixed := by kernel_rfl
  f6 := ⟨Tryd.f23.name, by decide, Tryd.func23.trans (congrArg some (by kernel_rfl))⟩
  f14 := ⟨Tryd.f33.name, by decide, Tryd.func33.trans (congrArg some (by kernel_rfl))⟩
  f15 := Tryd.func34.trans (congrArg some (by kernel_rfl))
  f20 := ⟨Tryd.f40.name, by decide, Tryd.func40.trans (congrArg some (by kernel_rfl))⟩
  f21 := ⟨Tryd.f41.name, by decide, Tryd.func41.trans (congrArg some (by kernel_rfl))⟩
  f22 := ⟨Tryd.f42.name, by decide, Tryd.func42.trans (congrArg some (by kernel_rfl))⟩
  f23 := ⟨Tryd.f43.name, by decide, Tryd.func43.trans (congrArg some (by kernel_rfl))⟩
  f24 := ⟨Tryd.f44.name, by decide, Tryd.func44.trans (congrArg some (by kernel_rfl))⟩
  f25 := ⟨Tryd.f45.name, by decide, Tryd.func45.trans (congrArg some (by kernel_rfl))⟩
  f26 := ⟨Tryd.f46.name, by decide, Tryd.func46.trans (congrArg some (by kernel_rfl))⟩
  f27 := ⟨Tryd.f47.name, by decide, Tryd.func47.trans (congrArg some (by kernel_rfl))⟩
  f28 := Tryd.func48.trans (congrArg some (by kernel_rfl))
  f29 := Tryd.func49.trans (congrArg some (by kernel_rfl))
  f46 := ⟨Tryd.f50.name, by decide, Tryd.func50.trans (congrArg some (by kernel_rfl))⟩
  f47 := Tryd.func51.trans (congrArg some (by kernel_rfl))
  f48 := Tryd.func52.trans (congrArg some (by kernel_rfl))
  f49 := ⟨Tryd.f53.name, by decide, Tryd.func53.trans (congrArg some (by kernel_rfl))⟩
  f50 := ⟨Tryd.f54.name, by decide, Tryd.func54.trans (congrArg some (by kernel_rfl))⟩
  f57 := ⟨Tryd.f55.name, by decide, Tryd.func55.trans (congrArg some (by kernel_rfl))⟩
  t0 := Tryd.underlying0
  a0 := Tryd.isAgg0
  z0 := Tryd.sizeOf0
  v0 := Tryd.zeroValue0
  t3 := Tryd.underlying3
  a3 := Tryd.isAgg3
  z3 := Tryd.sizeOf3
  v3 := Tryd.zeroValue3
  t4 := Tryd.underlying4
  a4 := Tryd.isAgg4
  z4 := Tryd.sizeOf4
  v4 := Tryd.zeroValue4
  t5 := Tryd.underlying5
  a5 := Tryd.isAgg5
  z5 := Tryd.sizeOf5
  v5 := Tryd.zeroValue5
  t9 := Tryd.underlying9
  a9 := Tryd.isAgg9
  z9 := Tryd.sizeOf9
  v9 := Tryd.zeroValue9
  t22 := Tryd.underlying22
  a22 := Tryd.isAgg22
  z22 := Tryd.sizeOf22
  v22 := Tryd.zeroValue22
  t25 := Tryd.underlying53
  a25 := Tryd.isAgg53
  z25 := Tryd.sizeOf53
  v25 := Tryd.zeroValue53
  t39 := Tryd.underlying73
  a39 := Tryd.isAgg73
  z39 := Tryd.sizeOf73
  v39 := Tryd.zeroValue73
  t45 := Tryd.underlying90
  a45 := Tryd.isAgg90
  z45 := Tryd.sizeOf90
  v45 := Tryd.zeroValue90
  t46 := Tryd.underlying91
  a46 := Tryd.isAgg91
  z46 := Tryd.sizeOf91
  v46 := Tryd.zeroValue91
  t50 := Tryd.underlying95
  a50 := Tryd.isAgg95
  z50 := Tryd.sizeOf95
  v50 := Tryd.zeroValue95
  t53 := Tryd.underlying98
  a53 := Tryd.isAgg98
  z53 := Tryd.sizeOf98
  v53 := Tryd.zeroValue98
  t55 := Tryd.underlying100
  a55 := Tryd.isAgg100
  z55 := Tryd.sizeOf100
  v55 := Tryd.zeroValue100
  t66 := Tryd.underlying101
  a66 := Tryd.isAgg101
  z66 := Tryd.sizeOf101
  v66 := Tryd.zeroValue101
  t70 := Tryd.underlying105
  a70 := Tryd.isAgg105
  z70 := Tryd.sizeOf105
  v70 := Tryd.zeroValue105
  t76 := Tryd.underlying107
  a76 := Tryd.isAgg107
  z76 := Tryd.sizeOf107
  v76 := Tryd.zeroValue107
  t77 := Tryd.underlying108
  a77 := Tryd.isAgg108
  z77 := Tryd.sizeOf108
  v77 := Tryd.zeroValue108 }
end Go.Proofs
namespace Go.Proofs.YtbglleldbogaaaaDoor
open Go.RowKit Go.Lib Go.Sort Go.Shelf
set_option linter.unusedVariables false
set_option linter.unusedSimpArgs false

def flat (zs : List R) : List Value := zs.flatMap encR
theorem flat_length (zs : List R) : (flat zs).length = zs.length * 2 := by
  induction zs with
  | nil => rfl
  | cons r rs ih => simp only [flat, List.flatMap_cons, List.length_append] at *; rw [ih]; simp [encR]; omega
theorem flat_append (a b : List R) : flat (a ++ b) = flat a ++ flat b := by simp [flat]
theorem flat_get : ∀ (zs : List R) (j : Nat), j < zs.length → (flat zs)[j * 2]? = some (.int .i64 (at' zs j).1) ∧ (flat zs)[j * 2 + 1]? = some (.int .i64 (at' zs j).2)
  | [], j, h => by simp at h
  | r :: rs, 0, _ => by simp [flat, encR, at']
  | r :: rs, j + 1, h => by
    have i := flat_get rs j (by simpa using h)
    have e1 : (j + 1) * 2 = j * 2 + 1 + 1 := by omega
    have e2 : flat (r :: rs) = .int .i64 r.1 :: .int .i64 r.2 :: flat rs := rfl
    have e3 : at' (r :: rs) (j + 1) = at' rs j := by simp [at']
    rw [e1, e2, e3]
    simpa using i
theorem flat_one {zs : List R} : ∀ u, u ∈ flat zs → u.oneCell' = true := by
  intro u hu
  simp only [flat, List.mem_flatMap] at hu
  obtain ⟨r, _, h⟩ := hu
  simp [encR] at h
  rcases h with rfl | rfl <;> rfl
theorem flat_cells {w : World} {b off : Nat} {zs : List R} (h : Cells w b off zs) (j : Nat) (u : Value) (hu : (flat zs)[j]? = some u) : w.cell? ((⟨b, off, none⟩ : Addr).add j) = some u := by
  have hl : j < (flat zs).length := (List.getElem?_eq_some_iff.1 hu).1
  rw [flat_length] at hl
  have hq : j / 2 < zs.length := by omega
  have g := flat_get zs (j / 2) hq
  have c := h (j / 2) hq
  rcases (show j = j / 2 * 2 ∨ j = j / 2 * 2 + 1 by omega) with e | e
  · rw [e] at hu ⊢
    rw [g.1] at hu
    rw [Addr.add_lit, ← hu]; exact c.1
  · rw [e] at hu ⊢
    rw [g.2] at hu
    rw [Addr.add_lit, ← hu, ← Nat.add_assoc]; exact c.2

theorem infoR : (Tryd.prog.info? 31).map (fun i => (i.zero, i.size, i.bytes)) = some (some (.agg #[.int .i64 0, .int .i64 0]), 2, 16) := by kernel_rfl

theorem own_lt {w : World} {base : Nat} {g n cap : Nat} {xs : List Value} (h : w.ownsRow base 31 2 (.slice (some ⟨g, 0, none⟩) n cap) n xs) : base ≤ g ∧ g < w.heap.size := h.lt g rfl
theorem cells_of_own {w : World} {base g n cap : Nat} {zs : List R} (h : w.ownsRow base 31 2 (.slice (some ⟨g, 0, none⟩) n cap) n (flat zs)) : Cells w g 0 zs := by
  intro j hj
  have f := flat_get zs j hj
  have c0 := h.cells (g := g) rfl _ _ f.1
  have c1 := h.cells (g := g) rfl _ _ f.2
  rw [Addr.add_lit] at c0 c1
  exact ⟨c0, by rw [← Nat.add_assoc] at c1; exact c1⟩
theorem own_length {w : World} {base n : Nat} {v : Value} {zs : List R} (h : w.ownsRow base 31 2 v n (flat zs)) : zs.length = n := by
  have := h.1; rw [flat_length] at this; omega
theorem row_of_own {w : World} {base n : Nat} {v : Value} {zs : List R} (h : w.ownsRow base 31 2 v n (flat zs)) (hl : zs.length ≤ 1000000) : Row w v zs := by
  have hn := own_length h
  rcases h.2 with ⟨rfl, h0⟩ | ⟨g, cap, cur, rfl, hb, hg, hr⟩
  · exact ⟨none, 0, by rw [hn, h0], by omega, fun _ => rfl, .inl (List.eq_nil_of_length_eq_zero (by omega))⟩
  · exact ⟨some ⟨g, 0, none⟩, cap, by rw [hn], by omega, (fun x => by cases x), .inr ⟨g, 0, rfl, (own_lt h).2, cells_of_own h⟩⟩
theorem own_below {w w' : World} {B e size n : Nat} {v : Value} {xs : List Value} (h : w.ownsRow B e size v n xs) (hb : Below w.heap.size w w') : w'.ownsRow B e size v n xs := by
  refine ⟨h.1, ?_⟩
  rcases h.2 with hn | ⟨g, cap, cur, rfl, hB, hgg, hr⟩
  · exact .inl hn
  · exact .inr ⟨g, cap, cur, rfl, hB, (hb.block g (Array.getElem?_eq_some_iff.1 hgg).1).trans hgg, hr⟩

theorem own_mono {w : World} {B B' e size n : Nat} {v : Value} {xs : List Value} (h : w.ownsRow B e size v n xs) (hb : B' ≤ B) : w.ownsRow B' e size v n xs := by
  refine ⟨h.1, ?_⟩
  rcases h.2 with hn | ⟨g, cap, cur, rfl, hB, hr⟩
  · exact .inl hn
  · exact .inr ⟨g, cap, cur, rfl, Nat.le_trans hb hB, hr⟩
theorem row_new (W : World) (lo hi : Int) : Row (W.alloc (.cells #[.int .i64 lo, .int .i64 hi] 31)) (.slice (some ⟨W.heap.size, 0, none⟩) 1 1) [(lo, hi)] := by
  refine ⟨some ⟨W.heap.size, 0, none⟩, 1, rfl, by simp, (fun x => by cases x), .inr ⟨W.heap.size, 0, rfl, by simp, fun j hj => ?_⟩⟩
  have : j = 0 := by simp at hj; exact hj
  subst this
  simp [at']

/-- append(out, xs...), out the call's own, xs any slice of ranges. -/
theorem append_row {w : World} {ops : Array Oper} {rest : List Oper} {o : Oper} {a : Act} {Q : Exit → Act → World → Prop} (hgd : o.guard = none) (s x : Operand)
    (ho : o.op = .call { callee := .builtin .append, args := #[s, x], argTypes := #[22, 22] }) (base : Nat) (v : Value) (n : Nat) (ys : List Value) (hs : a.eval s = v) (hown : w.ownsRow base 31 2 v n ys)
    (vx : Value) (zs : List R) (hx : a.eval x = vx) (hR : Row w vx zs) (hn : n + zs.length ≤ 1000000) (hbase : base ≤ w.heap.size)
    (h : ∀ v' w', w'.ownsRow base 31 2 v' (n + zs.length) (ys ++ flat zs) → Below base w w' → wpList Tryd.prog ops Q rest (a.put o.dst v') w') : wpList Tryd.prog ops Q (o :: rest) a w := by
  obtain ⟨i0, hi, hz0, hz1, hz2⟩ := info_parts infoR
  obtain ⟨ao, c, rfl, hl, hnn, hz⟩ := hR
  cases ao with
  | none =>
    have h0 : zs = [] := by
      rcases hz with hz | ⟨b, off, hz, _⟩
      · exact hz
      · cases hz
    subst h0
    have hc := hnn rfl
    subst hc
    refine wpList_append_own_none hgd s x 22 ho base 31 i0 2 Tryd.underlying22 hi v n ys hs hown hx ?_
    refine h v w ?_ (Below.refl _ _)
    simpa [flat] using hown
  | some ad =>
    refine wpList_append_own _ hgd s x 22 ho base 31 i0 _ 2 16 Tryd.underlying22 hi hz0 hz1 hz2 rfl (by decide) v n ys hs hown ad zs.length c (flat zs) hx (flat_length zs) ?_ (fun u hu => flat_one u hu) (by unfold maxLen; omega) (by omega) hbase ?_
    · rcases hz with rfl | ⟨b, off, hz, hb, hc⟩
      · intro j u hu; simp [flat] at hu
      · cases hz; exact flat_cells hc
    · intro v' w' h1 hg _
      exact h v' w' h1 ((Below.refl base w).grown hg hbase (fun j e => (hown.lt j e).1))

theorem grow_none (w : World) : Calls Tryd.prog 32 #[.slice none 0 0, .int .i64 0] w fun e w' => e = .returned (.slice none 0 0) ∧ w' = w := by
  have h := Any8.slices_Grow_room Tryd.lg none 0 0 0 w (by omega) (by omega) (by omega) (by omega)
  change Calls Tryd.prog 32 _ _ _ at h
  exact h
theorem grow_some (n : Nat) (w : World) (h0 : 0 < n) (h1 : n ≤ 1000000) : Calls Tryd.prog 32 #[.slice none 0 0, .int .i64 n] w fun e w' => ∃ v, e = .returned v ∧ w'.ownsRow w.heap.size 31 2 v 0 (flat []) ∧ Below w.heap.size w w' := by
  obtain ⟨i0, hi, hz0, hz1, hz2⟩ := info_parts infoR
  have h := Any8.slices_Grow_grow Tryd.lg i0 _ hi hz0 (by omega) none 0 0 n [] w (by omega) (by omega) (by rw [hz2]; omega) (by omega) (by simp) (fun _ => rfl) (fun a ha => by cases ha)
  change Calls Tryd.prog 32 _ _ _ at h
  refine h.mono fun e w' ⟨he, hw⟩ => ⟨_, he, ?_, ?_⟩
  · rw [hw]
    have gg := grownCap_ge w n 0 (Tryd.lg_ren.t 25)
    have gm := grownCap_le_maxLen w (0 + n) 0 31 (by unfold maxLen; omega)
    exact World.ownsRow_made w.drew _ _ (Nat.le_refl _) gm (by simp only [Array.size_append, size_zeroCells]; simp [Value.cells]; omega)
  · rw [hw]; exact (Below.refl w.heap.size w).drew.alloc (Nat.le_refl _) _
theorem grow_any (n : Nat) (w : World) (h1 : n ≤ 1000000) : Calls Tryd.prog 32 #[.slice none 0 0, .int .i64 n] w fun e w' => ∃ v, e = .returned v ∧ w'.ownsRow w.heap.size 31 2 v 0 (flat []) ∧ Below w.heap.size w w' := by
  by_cases h0 : n = 0
  · subst h0
    exact (grow_none w).mono fun e w' ⟨he, hw⟩ => ⟨_, he, World.ownsRow_nil _ _ _ _, hw ▸ Below.refl _ _⟩
  · exact grow_some n w (by omega) h1

set_option maxRecDepth 100000 in
set_option maxHeartbeats 2000000 in
theorem concat_calls (S : Nat) (va vb : Value) (xs ys : List R) (w : World) (hS : S < w.heap.size) (ha : w.cell? ⟨S, 0, none⟩ = some va) (hb : w.cell? ⟨S, 1, none⟩ = some vb) (hra : Row w va xs) (hrb : Row w vb ys) (hx : xs.length ≤ 1000) (hy : ys.length ≤ 1000) :
    Calls Tryd.prog 22 #[.slice (some ⟨S, 0, none⟩) 2 2] w fun e w' => ∃ v, e = .returned v ∧ w'.ownsRow w.heap.size 31 2 v (xs.length + ys.length) (flat (xs ++ ys)) ∧ Below w.heap.size w w' := by
  have HA : Hid (Row w va xs) := hra
  have HB : Hid (Row w vb ys) := hrb
  obtain ⟨aa, ca, rfl, la, na, za⟩ := hra
  obtain ⟨ab, cb, rfl, lb, nb, zb⟩ := hrb
  clear za zb na nb
  have hg := grow_any (xs.length + ys.length) w (by omega)
  rw [Int.natCast_add] at hg
  go_enter Tryd.func22, Tryd.ntmps22
  go_wp2_with fail
  refine wp_loop_rounds 3 ?_
  rw [rounds_succ]
  go_wp2_with fail
  rw [rounds_succ]
  go_wp2_with fail
  rw [rounds_succ]
  go_wp2_with fail
  refine hg.mono ?_
  rintro e w1 ⟨v, rfl, hown, hB1⟩
  have ha1 := (hB1.cell (p := ⟨S, 0, none⟩) hS).trans ha
  have hb1 := (hB1.cell (p := ⟨S, 1, none⟩) hS).trans hb
  clear ha hb
  go_wp2_with fail
  refine wp_loop_rounds 3 ?_
  rw [rounds_succ]
  go_wp2_with (at_builtin; refine append_row rfl (.tmp 31) (.tmp 32) rfl w.heap.size v 0 (flat []) rfl hown _ xs rfl (HA.out.below hB1) (by omega) hB1.size ?_; intro v2 w2 hown2 hb2)
  have hB2 := hB1.trans hb2
  have hb2' := (hb2.cell (p := ⟨S, 1, none⟩) hS).trans hb1
  rw [rounds_succ]
  go_wp2_with (at_builtin; refine append_row rfl (.tmp 31) (.tmp 32) rfl w.heap.size v2 _ _ rfl hown2 _ ys rfl (HB.out.below hB2) (by omega) hB2.size ?_; intro v3 w3 hown3 hb3)
  have hB3 := hB2.trans hb3
  rw [rounds_succ]
  go_wp2_with fail
  go_ret
  refine ⟨v3, rfl, ?_, hB3⟩
  have e1 : 0 + xs.length + ys.length = xs.length + ys.length := by omega
  have e2 : flat [] ++ flat xs ++ flat ys = flat (xs ++ ys) := by rw [flat_append]; rfl
  rw [e1, e2] at hown3
  exact hown3

def cmpF (x y : R) : Int := if y.2 < x.2 then -1 else if x.2 < y.2 then 1 else 0
theorem ltF (x y : R) : ltOf cmpF x y = decide (y.2 < x.2) := by
  unfold ltOf cmpF
  by_cases h1 : y.2 < x.2
  · simp [h1]
  · by_cases h2 : x.2 < y.2 <;> simp [h1, h2]
theorem swoF : SWO (ltOf cmpF) where
  irrefl x := by rw [ltF]; simp
  trans x y z h1 h2 := by rw [ltF] at *; simp at *; omega
  ntrans x y z h1 h2 := by rw [ltF] at *; simp at *; omega

set_option maxRecDepth 100000 in
set_option maxHeartbeats 2000000 in
theorem cmp_calls (x y : Int) (w : World) : Calls Tryd.prog 25 #[.int .i64 x, .int .i64 y] w fun e w' => e = .returned (.int .i64 (if x < y then -1 else if y < x then 1 else 0)) ∧ w' = w := by
  by_cases h1 : x < y
  · rw [if_pos h1]
    go_enter Tryd.func25, Tryd.ntmps25
    go_wp2
    go_ret
    exact ⟨rfl, rfl⟩
  · rw [if_neg h1]
    by_cases h2 : y < x
    · rw [if_pos h2]
      go_enter Tryd.func25, Tryd.ntmps25
      go_wp2
      go_ret
      exact ⟨rfl, rfl⟩
    · rw [if_neg h2]
      go_enter Tryd.func25, Tryd.ntmps25
      go_wp2
      go_ret
      exact ⟨rfl, rfl⟩

set_option maxRecDepth 100000 in
set_option maxHeartbeats 2000000 in
theorem sort_closure (x y : R) (W : World) : Calls Tryd.prog 24 #[.agg #[.int .i64 x.1, .int .i64 x.2], .agg #[.int .i64 y.1, .int .i64 y.2]] W fun e w' => e = .returned (.int .i64 (cmpF x y)) ∧ ∃ q os', w' = grow (W.drewN q) os' := by
  have hcon := fun W' => cmp_calls y.2 x.2 W'
  have e : (if y.2 < x.2 then (-1 : Int) else if x.2 < y.2 then 1 else 0) = cmpF x y := rfl
  rw [e] at hcon
  generalize cmpF x y = r at hcon ⊢
  clear e
  go_enter Tryd.func24, Tryd.ntmps24
  go_wp2_with (go_at_call 25; refine (hcon _).mono ?_; rintro e w' ⟨rfl, rfl⟩)
  go_ret
  exact ⟨rfl, 0, _, by rw [alloc_eq_grow, alloc_eq_grow, grow_grow]; rfl⟩

theorem heap_put {α : Type} [Inhabited α] (enc : α → List Value) (k : Nat) (w : World) (m blk off : Nat) (d : Array α) (j : Nat) (hj : j ≠ blk) : (putRowK enc k (Sort.ahead w m) blk off d).heap[j]? = w.heap[j]? := by
  unfold putRowK putRow mapBlock
  show (w.heap.modify blk _)[j]? = _
  rw [Array.getElem?_modify, if_neg (fun e => hj e.symm)]
theorem below_sort {α : Type} [Inhabited α] {B : Nat} (enc : α → List Value) (k : Nat) (w : World) (m blk off : Nat) (d : Array α) (os : Array Obj) (hB : B ≤ blk) (hw : B ≤ w.heap.size) : Below B w (sortWorldK enc k w blk off m d os) := by
  unfold sortWorldK
  have hsz : (putRowK enc k (Sort.ahead w m) blk off d).heap.size = w.heap.size := by unfold putRowK; rw [Go.Sort.size_putRow]; rfl
  have h1 : Below B w (putRowK enc k (Sort.ahead w m) blk off d) := ⟨rfl, rfl, rfl, Nat.le_of_eq hsz.symm, fun j hj => heap_put enc k w m blk off d j (by omega)⟩
  exact below_grow h1 (by rw [hsz]; exact hw) os
theorem holdsK_of_own {w : World} {base g n cap : Nat} {zs : List R} (h : w.ownsRow base 31 2 (.slice (some ⟨g, 0, none⟩) n cap) n (flat zs)) : HoldsK encR 2 w g 0 zs.toArray := by
  intro t ht
  rw [size_flatK] at ht
  have ht' : t < zs.length * 2 := by simpa using ht
  have hc := cells_of_own h (t / 2) (by omega)
  rw [get_flatK _ _ _ _ ht]
  have e : zs.toArray[t / 2]! = at' zs (t / 2) := by simp [at', show t / 2 < zs.length by omega]
  rw [e]
  rcases h.2 with ⟨e0, _⟩ | ⟨g', cap', cur, e0, hb, hg, hr⟩
  · cases e0
  injection e0 with e1 _ _
  injection e1 with e1
  injection e1 with e1
  subst e1
  refine ⟨?_, by simp [World.frozen?, hg]⟩
  rcases (show t = t / 2 * 2 ∨ t = t / 2 * 2 + 1 by omega) with q | q
  · have q2 : t % 2 = 0 := by omega
    rw [q2]
    show w.cell? ⟨g, 0 + t, none⟩ = some (.int .i64 (at' zs (t / 2)).1)
    rw [← hc.1]; congr 2; omega
  · have q2 : t % 2 = 1 := by omega
    rw [q2]
    show w.cell? ⟨g, 0 + t, none⟩ = some (.int .i64 (at' zs (t / 2)).2)
    rw [← hc.2]; congr 2; omega
theorem cells_of_holds {w : World} {g : Nat} {d : Array R} (h : HoldsK encR 2 w g 0 d) : Cells w g 0 d.toList := by
  intro j hj
  have hj' : j < d.size := by simpa using hj
  have a := (h.cell (i := j) (c := 0) hj' (by omega)).1
  have b := (h.cell (i := j) (c := 1) hj' (by omega)).1
  have e : d[j]! = at' d.toList j := by simp [at', hj']
  rw [e] at a b
  exact ⟨a, b⟩
theorem desc_of : ∀ (l : List R), (∀ i j, i < j → j < l.length → (at' l j).2 ≤ (at' l i).2) → Desc l
  | [], _ => trivial
  | r :: rs, h => ⟨fun s hs => by
      obtain ⟨j, hj, e⟩ := List.getElem_of_mem hs
      have := h 0 (j + 1) (by omega) (by simpa using hj)
      simp [at', hj] at this
      rw [e] at this
      exact this, desc_of rs fun i j a b => by
      have := h (i + 1) (j + 1) (by omega) (by simpa using b)
      simpa [at'] using this⟩

/-- slices.SortFunc of a slice that the caller made: from above, and the same ranges. -/
theorem sort_calls (v : Value) (zs : List R) (n B : Nat) (w : World) (hown : w.ownsRow B 31 2 v n (flat zs)) (hl : zs.length ≤ 1000000) (hB : B ≤ w.heap.size) :
    Calls Tryd.prog 23 #[v, .func (.func 24) #[] #[]] w fun e w' => e = .returned (.tuple #[]) ∧ (∃ s : List R, s.Perm zs ∧ Desc s ∧ Row w' v s) ∧ Below B w w' := by
  have hn := own_length hown
  rcases hown.2 with ⟨rfl, h0⟩ | ⟨g, cap, cur, rfl, hb, hg, hr⟩
  · have h := AnyF.slices_SortFunc_none Tryd.ls none 0 (.func (.func 24) #[] #[]) w
    change Calls Tryd.prog 23 _ _ _ at h
    have e0 : zs = [] := List.eq_nil_of_length_eq_zero (by omega)
    subst e0
    exact h.mono fun e w' ⟨he, hw⟩ => ⟨he, ⟨[], .refl _, trivial, Row.nil _⟩, hw ▸ Below.refl _ _⟩
  · have eg : ∀ args w, (callFunc 24 args).run Tryd.prog w = .ok (.enter 24 args) w := enters_of Tryd.func24 (by kernel_rfl) rfl
    have hH := holdsK_of_own hown
    have hlt := (own_lt hown).2
    have hcon := AnyQ.slices_SortFunc Tryd.ls 2 Tryd.isAgg31 Tryd.sizeOf31 encR (fun _ => rfl) (fun x v hv => by simp [encR] at hv; rcases hv with rfl | rfl <;> rfl) cmpF swoF 24 #[] g 0 cap zs.toArray w eg (fun _ _ _ _ x y => sort_closure x y _) hH hlt (by simp; omega)
    change Calls Tryd.prog 23 _ _ _ at hcon
    have e1 : zs.toArray.size = n := by simpa using hn
    rw [e1] at hcon
    refine hcon.mono fun e w' ⟨he, d', m, os, hp, hs, hw⟩ => ⟨he, ⟨d'.toList, ?_, ?_, ?_⟩, ?_⟩
    · have := hp.2.2
      have a1 : d'.size = n := by rw [hp.1]; exact e1
      have a2 : d'.extract 0 n = d' := by rw [← a1]; simp
      have a3 : zs.toArray.extract 0 n = zs.toArray := by rw [← e1]; simp
      rw [a2, a3] at this
      exact this
    · refine desc_of _ fun i j hij hj => ?_
      have a1 : d'.size = n := by rw [hp.1]; exact e1
      have hj' : j < d'.size := by simpa using hj
      have := hs i j (Nat.zero_le _) hij (by omega)
      rw [ltF] at this
      simp [hj', show i < d'.size by omega] at this
      simp [at', hj', show i < d'.size by omega]
      omega
    · have a1 : d'.size = n := by rw [hp.1]; exact e1
      rw [hw]
      have hK := holdsK_sortWorldK encR 2 w g 0 m zs.toArray d' os hlt hH (by rw [a1, e1])
      refine ⟨some ⟨g, 0, none⟩, cap, by simp [a1], by simp [a1]; omega, (fun x => by cases x), .inr ⟨g, 0, rfl, ?_, cells_of_holds hK⟩⟩
      exact Nat.lt_of_lt_of_le hlt (below_sort (B := 0) encR 2 w m g 0 d' os (by omega) (by omega)).size
    · rw [hw]; exact below_sort encR 2 w m g 0 d' os hb hB
end Go.Proofs.YtbglleldbogaaaaDoor
