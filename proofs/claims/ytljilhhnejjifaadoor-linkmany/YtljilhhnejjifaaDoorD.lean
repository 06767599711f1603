/- slices.Delete of one letter; Give, Lose, Twice. -/
import Derived.Test.YtljilhhnejjifaaDoorC
import Derived.Lib.SliceRun
namespace Go.Proofs.YtljilhhnejjifaaDoor
open Go.RowKit Go.Lib Go.Sort
set_option linter.unusedVariables false
set_option linter.unusedSimpArgs false

theorem zeroLtr (w : World) : (zeroValue 56).run Tryd.prog w = .ok (.agg #[.int .i64 0, .string ⟨#[]⟩]) w := by kernel_rfl
/-- clear of a slice of one letter. -/
theorem clear_one (W : World) (ty : TypeId) (g o c : Nat) (h0 : (W.cell? ⟨g, o, none⟩).isSome = true) (h1 : (W.cell? ⟨g, o + 1, none⟩).isSome = true) (f0 : W.frozen? ⟨g, o, none⟩ = false) (f1 : W.frozen? ⟨g, o + 1, none⟩ = false) :
    (Builtin.clear_ #[49] ty #[.slice (some ⟨g, o, none⟩) 1 c]).run Tryd.prog W = .ok (.tuple #[]) (W.setCells g o [.int .i64 0, .string ⟨#[]⟩]) := by
  have hst := run_storeCells_cells (P := Tryd.prog) g o [.int .i64 0, .string ⟨#[]⟩] 0 W (fun j hj => by
      match j, hj with
      | 0, _ => exact h0
      | 1, _ => exact h1
      | j + 2, hj => simp at hj; omega) (fun j hj => by
      match j, hj with
      | 0, _ => exact f0
      | 1, _ => exact f1
      | j + 2, hj => simp at hj; omega) (by intro v hv; simp at hv; rcases hv with rfl | rfl <;> rfl)
  simp only [Nat.add_zero] at hst
  have hzc : (Builtin.zeroCells (Value.agg #[.int .i64 0, .string ⟨#[]⟩]).cells 1).toList = [.int .i64 0, .string ⟨#[]⟩] := by kernel_rfl
  simp [Builtin.clear_, run_underlying Tryd.underlying49, zeroLtr, hzc, hst]
/-- The cells behind the place p. -/
def moved (zs : List LR) (p : Nat) : List Value := flat (zs.drop (p + 1))
theorem moved_length {zs : List LR} {p : Nat} : (moved zs p).length = (zs.length - (p + 1)) * 2 := by rw [moved, flat_length, List.length_drop]
theorem heap_setCells {g : Nat} {e : TypeId} : ∀ (vs : List Value) (o : Nat) (w : World) (cur : Array Value), w.heap[g]? = some (.cells cur e (0, 0)) → ∃ cur', (w.setCells g o vs).heap[g]? = some (.cells cur' e (0, 0)) ∧ cur'.size = cur.size
  | [], o, w, cur, h => ⟨cur, h, rfl⟩
  | v :: vs, o, w, cur, h => by
    have h1 : ∃ cur', (w.setCell ⟨g, o, none⟩ v).heap[g]? = some (.cells cur' e (0, 0)) ∧ cur'.size = cur.size := by
      have hg := (Array.getElem?_eq_some_iff.1 h).1
      simp only [World.setCell, Array.getElem?_modify, h]
      simp
    obtain ⟨cur1, h2, h3⟩ := h1
    obtain ⟨cur2, h4, h5⟩ := heap_setCells vs (o + 1) (w.setCell ⟨g, o, none⟩ v) cur1 h2
    exact ⟨cur2, h4, h5.trans h3⟩
theorem own_of_cells {w : World} {B g n cap : Nat} {e : TypeId} {cur : Array Value} {xs : List Value} (hB : B ≤ g) (hg : w.heap[g]? = some (.cells cur e (0, 0))) (hnc : n ≤ cap) (hm : cap ≤ maxLen) (hs : cur.size = cap * 2) (hl : xs.length = n * 2)
    (hc : ∀ j u, xs[j]? = some u → w.cell? ⟨g, j, none⟩ = some u) : w.ownsRow B e 2 (.slice (some ⟨g, 0, none⟩) n cap) n xs := by
  refine ⟨hl, .inr ⟨g, cap, cur, rfl, hB, hg, hnc, hm, hs, ?_⟩⟩
  refine List.ext_getElem? fun j => ?_
  by_cases hj : j < n * 2
  · rw [List.getElem?_take_of_lt hj]
    have hx : xs[j]? = some xs[j] := List.getElem?_eq_getElem (by omega)
    have := hc j _ hx
    rw [hx]
    simpa [World.cell?, hg] using this
  · rw [List.getElem?_eq_none (by simp; omega), List.getElem?_eq_none (by omega)]
set_option maxRecDepth 100000 in
set_option maxHeartbeats 2000000 in
theorem delete_calls (g n cap p B : Nat) (cur : Array Value) (zs : List LR) (w : World) (hB : B ≤ g) (hg : w.heap[g]? = some (.cells cur 56 (0, 0))) (hnc : n ≤ cap) (hm : cap ≤ maxLen) (hs : cur.size = cap * 2) (hl : zs.length = n) (hc : Cells w g 0 zs) (hp : p < n) :
    Calls Tryd.prog 18 #[.slice (some ⟨g, 0, none⟩) n cap, .int .i64 (p : Int), .int .i64 ((p : Int) + 1)] w fun e w' => e = .returned (.slice (some ⟨g, 0, none⟩) (n - 1) cap) ∧ w'.ownsRow B 56 2 (.slice (some ⟨g, 0, none⟩) (n - 1) cap) (n - 1) (flat (cut1 zs p)) ∧ Off (fun k => k = g) w w' := by
  have hM : cap ≤ 9223372036854775807 := by unfold maxLen at hm; omega
  have hic : p ≤ cap := by omega
  have hp0 : (0 : Int) ≤ (p : Int) + 1 := by omega
  have hp1 : (p : Int) + 1 ≤ (n : Int) := by omega
  have hp2 : ((p : Int) + 1).toNat = p + 1 := by omega
  have hp3 : (p : Int) + 1 ≤ (cap : Int) := by omega
  have hp4 : ((p : Int) == (p : Int) + 1) = false := by simp <;> omega
  obtain ⟨m, hm1⟩ : ∃ m, n - (p + 1) = m := ⟨_, rfl⟩
  have HN : Hid (n = p + m + 1) := by show n = p + m + 1; omega
  have e2 : n - (p + m) = 1 := by omega
  have q0 : (0 : Int) ≤ (p : Int) + (m : Int) := by omega
  have q1 : (p : Int) + (m : Int) ≤ (n : Int) := by omega
  have q2 : ((p : Int) + (m : Int)).toNat = p + m := by omega
  have q3 : (n : Int) ≤ (cap : Int) := by omega
  have q4 : ¬ cap = p + m := by omega
  obtain ⟨i0, hi0, hz0, hz1, hz2⟩ := info_parts infoR
  obtain ⟨news, hnews⟩ : ∃ news, news = moved zs p := ⟨_, rfl⟩
  have hlen : news.length = m * 2 := by rw [hnews, moved_length, hl, hm1]
  have hget : ∀ (t : Nat) (u : Value), news[t]? = some u → (flat zs)[(p + 1) * 2 + t]? = some u := by
    intro t u hu
    have e : flat zs = flat (zs.take (p + 1)) ++ flat (zs.drop (p + 1)) := by rw [← flat_append, List.take_append_drop]
    rw [e, List.getElem?_append_right (by rw [flat_length, List.length_take]; omega), flat_length, List.length_take, show (p + 1) * 2 + t - min (p + 1) zs.length * 2 = t by omega]
    rw [hnews] at hu
    exact hu
  have hfl : ∀ (t : Nat) (u : Value), (flat zs)[t]? = some u → w.cell? ⟨g, t, none⟩ = some u := fun t u hu => by
    have := flat_cells hc t u hu
    rw [Addr.add_lit, Nat.zero_add] at this
    exact this
  have hfz : ∀ t, w.frozen? ⟨g, t, none⟩ = false := fun t => by simp [World.frozen?, hg]
  have hfs : ∀ t, t < n * 2 → ∃ u, (flat zs)[t]? = some u := fun t ht => ⟨_, List.getElem?_eq_getElem (by rw [flat_length]; omega)⟩
  obtain ⟨A, hA, hsrc⟩ : ∃ A : Addr, (if cap = p + 1 then some (⟨g, 0, none⟩ : Addr) else some ⟨g, (p + 1) * 2, none⟩) = some A ∧ Hid (∀ t u, news[t]? = some u → w.drew.cell? (A.add t) = some u) := by
    by_cases h : cap = p + 1
    · refine ⟨⟨g, 0, none⟩, by simp [h], fun t u hu => ?_⟩
      have h0 : news.length = 0 := by rw [hlen]; omega
      rw [List.length_eq_zero_iff.1 h0] at hu
      simp at hu
    · refine ⟨⟨g, (p + 1) * 2, none⟩, by simp [h], fun t u hu => ?_⟩
      rw [Addr.add_lit]
      exact hfl _ u (hget t u hu)
  have s1 : Hid (news.length = m * 2) := hlen
  have s2 : Hid (∀ u ∈ news, u.oneCell' = true) := by
    intro u hu
    rw [hnews] at hu
    exact flat_one u hu
  have s3 : Hid (∀ t, t < news.length → (w.drew.cell? ⟨g, 0 + p * 2 + t, none⟩).isSome = true ∧ w.drew.frozen? ⟨g, 0 + p * 2 + t, none⟩ = false) := by
    intro t ht
    rw [hlen] at ht
    rw [Nat.zero_add]
    obtain ⟨u, hu⟩ := hfs (p * 2 + t) (by omega)
    exact ⟨by show (w.cell? _).isSome = true; rw [hfl _ u hu]; rfl, hfz _⟩
  obtain ⟨W1, hW1⟩ : ∃ W1, W1 = w.drew.setCells g (0 + p * 2) news := ⟨_, rfl⟩
  have hW1c : ∀ t u, (flat (cut1 zs p))[t]? = some u → W1.cell? ⟨g, t, none⟩ = some u := by
    intro t u hu
    rw [cut1, flat_append] at hu
    have hl1 : (flat (zs.take p)).length = p * 2 := by rw [flat_length, List.length_take]; omega
    by_cases ht : t < p * 2
    · rw [List.getElem?_append_left (by omega)] at hu
      rw [hW1, World.cell?_setCells_out g _ _ _ _ (fun _ _ => by left; show t < _; omega)]
      show w.cell? _ = _
      refine hfl t u ?_
      have e : flat zs = flat (zs.take p) ++ flat (zs.drop p) := by rw [← flat_append, List.take_append_drop]
      rw [e, List.getElem?_append_left (by omega)]
      exact hu
    · rw [List.getElem?_append_right (by omega), hl1] at hu
      have hu' : news[t - p * 2]? = some u := by rw [hnews]; exact hu
      have hlt := (List.getElem?_eq_some_iff.1 hu').1
      have := World.cell?_setCells_in g news (0 + p * 2) w.drew (fun j hj => (s3.out j hj).1) (t - p * 2) hlt
      rw [show 0 + p * 2 + (t - p * 2) = t by omega] at this
      rw [hW1, this, ← hu', List.getElem?_eq_getElem hlt]
  have hW1s : ∀ t, t < n * 2 → (W1.cell? ⟨g, t, none⟩).isSome = true := by
    intro t ht
    by_cases h1 : t < 0 + p * 2 ∨ 0 + p * 2 + news.length ≤ t
    · rw [hW1, World.cell?_setCells_out g _ _ _ _ (fun _ _ => h1)]
      obtain ⟨u, hu⟩ := hfs t ht
      show (w.cell? _).isSome = true
      rw [hfl t u hu]; rfl
    · have hlt : t - p * 2 < news.length := by omega
      have := World.cell?_setCells_in g news (0 + p * 2) w.drew (fun j hj => (s3.out j hj).1) (t - p * 2) hlt
      rw [show 0 + p * 2 + (t - p * 2) = t by omega] at this
      rw [hW1, this]; rfl
  have hW1f : ∀ t, W1.frozen? ⟨g, t, none⟩ = false := fun t => by rw [hW1, World.frozen?_setCells]; exact hfz t
  have hcl : ∀ ty, (Builtin.clear_ #[49] ty #[.slice (some ⟨g, (p + m) * 2, none⟩) 1 (cap - (p + m))]).run Tryd.prog W1 = .ok (.tuple #[]) (W1.setCells g ((p + m) * 2) [.int .i64 0, .string ⟨#[]⟩]) :=
    fun ty => clear_one W1 ty g _ _ (hW1s _ (by omega)) (hW1s _ (by omega)) (hW1f _) (hW1f _)
  have HG : Hid (∃ cur', (W1.setCells g ((p + m) * 2) [.int .i64 0, .string ⟨#[]⟩]).heap[g]? = some (.cells cur' 56 (0, 0)) ∧ cur'.size = cap * 2) := by
    obtain ⟨c1, a1, a2⟩ := heap_setCells news (0 + p * 2) w.drew cur hg
    rw [← hW1] at a1
    obtain ⟨c2, b1, b2⟩ := heap_setCells [.int .i64 0, .string ⟨#[]⟩] ((p + m) * 2) W1 c1 a1
    exact ⟨c2, b1, by rw [b2, a2, hs]⟩
  have HO : Hid (Off (fun k => k = g) w (W1.setCells g ((p + m) * 2) [.int .i64 0, .string ⟨#[]⟩])) := by
    rw [hW1]
    show Off (fun k => k = g) w _
    exact Off.setCells (K := fun k => k = g) rfl _ _ (Off.setCells (K := fun k => k = g) rfl _ _ (Off.refl _ w).drew)
  have HC : Hid (∀ t u, (flat (cut1 zs p))[t]? = some u → (W1.setCells g ((p + m) * 2) [.int .i64 0, .string ⟨#[]⟩]).cell? ⟨g, t, none⟩ = some u) := by
    intro t u hu
    have hlt := (List.getElem?_eq_some_iff.1 hu).1
    rw [flat_length, cut1, List.length_append, List.length_take, List.length_drop] at hlt
    rw [World.cell?_setCells_out g _ _ _ _ (fun _ _ => by left; show t < _; omega)]
    exact hW1c t u hu
  have HW : Hid (W1 = w.drew.setCells g (0 + p * 2) news) := hW1
  have HL : Hid (zs.length = n) := hl
  clear hW1 hW1c hW1s hW1f hfl hfs hfz hget hnews hlen hg hc hl hs hz0 hz2
  go_enter Tryd.func18, Tryd.ntmps18
  go_wp2_with fail
  go_region_law (refine step_append_room rfl (.tmp 22) (.tmp 25) 49 rfl 56 i0 2 Tryd.underlying49 hi0 hz1 g 0 p cap (by simp [Act.eval, Act.put]) A m (cap - (p + 1)) news (by simp [Act.eval, Act.put, hm1]) s1.out hsrc.out s2.out (by omega) s3.out ?_; rw [← HW.out])
  go_wp2
  go_ret
  have e3 : p + m = n - 1 := by have := HN.out; omega
  obtain ⟨c2, b1, b2⟩ := HG.out
  refine ⟨by rw [e3]; rfl, own_of_cells hB b1 (by omega) hm b2 ?_ HC.out, HO.out⟩
  rw [flat_length, cut1, List.length_append, List.length_take, List.length_drop, HL.out]; omega


set_option maxRecDepth 100000 in
set_option maxHeartbeats 2000000 in
theorem give_no {w : World} {B sb : Nat} {v : Value} {ls : List LR} (h : Lnk w 56 0 B sb v ls) (i : Int) (hq : onB ls i = false) : Calls Tryd.prog 10 #[.pointer (some ⟨sb, 0, none⟩), .int .i64 i] w fun e w' => e = .returned (.tuple #[.int .i64 0, .string ⟨#[]⟩, .iface 53 (.int .i64 1)]) ∧ w' = w := by
  go_enter Tryd.func10, Tryd.ntmps10
  go_wp2_with (go_at_call 17; refine (isOnWay_calls h i).mono ?_; rintro e w1 ⟨rfl, hw1⟩; rw [hq, hw1]; clear hw1 w1)
  go_ret3
  exact ⟨rfl, rfl⟩
set_option maxRecDepth 100000 in
set_option maxHeartbeats 2000000 in
theorem give_yes {w : World} {B sb : Nat} {v : Value} {ls : List LR} (h : Lnk w 56 0 B sb v ls) (p : Nat) (hp : p < ls.length) (i : Int) (hi : i = (p : Int)) : Calls Tryd.prog 10 #[.pointer (some ⟨sb, 0, none⟩), .int .i64 i] w fun e w' => e = .returned (.tuple #[.int .i64 (at' ls p).1, .string (at' ls p).2, .nilIface]) ∧ Turn w w' 56 0 B sb v (cut1 ls p) := by
  obtain ⟨a, cap, rfl⟩ := h.shape
  obtain ⟨g, cur, rfl, _, hBg, hgl, hgs, hgg, hnc, hm, hcs, hcl⟩ := h.rows (by omega)
  have hq : onB ls i = true := by rw [hi]; exact onB_at hp
  have hon := isOnWay_calls h i
  rw [hq] at hon
  subst hi
  have hsb := h.lt (k := sb) (.inl rfl)
  have c0 := h.c
  obtain ⟨x0, x1⟩ := hcl p hp
  rw [Nat.zero_add] at x0 x1
  have hfew := h.inv.few
  have HI : Hid (Inv (cut1 ls p)) := h.inv.cut p
  have HL : Hid (Lnk w 56 0 B sb (.slice (some ⟨g, 0, none⟩) ls.length cap) ls) := h
  have HN : Hid ((cut1 ls p).length = ls.length - 1) := cut1_length hp
  have HDEL : ∀ w1, Below w.heap.size w w1 → Calls Tryd.prog 18 #[.slice (some ⟨g, 0, none⟩) ls.length cap, .int .i64 (p : Int), .int .i64 ((p : Int) + 1)] w1 fun e w' => e = .returned (.slice (some ⟨g, 0, none⟩) (ls.length - 1) cap) ∧ w'.ownsRow B 56 2 (.slice (some ⟨g, 0, none⟩) (ls.length - 1) cap) (ls.length - 1) (flat (cut1 ls p)) ∧ Off (fun k => k = g) w1 w' := fun w1 hb =>
    delete_calls g ls.length cap p B cur ls w1 hBg ((hb.block g hgl).trans hgg) hnc hm hcs rfl (hcl.below hgl hb) hp
  have hp' : (p : Int) < (ls.length : Int) := by omega
  have hp9 : (p : Int) ≤ 40 := by omega
  clear hq h hcl hgg hcs hm hnc hp hfew
  generalize (at' ls p).1 = y0 at *
  generalize (at' ls p).2 = y1 at *
  generalize ls.length = n at *
  go_enter Tryd.func10, Tryd.ntmps10
  go_upto_region 4 with (go_at_call 17; refine hon.mono ?_; rintro e w1 ⟨rfl, hw1⟩; rw [hw1]; clear hw1 w1)
  have ba : Below w.heap.size w (w.alloc (.cells #[.int .i64 y0, .string y1] 56)) := (Below.refl _ _).alloc (Nat.le_refl _) _
  have z0 : (w.alloc (.cells #[.int .i64 y0, .string y1] 56)).cell? ⟨w.heap.size, 0, none⟩ = some (.int .i64 y0) := by simp
  have z1 : (w.alloc (.cells #[.int .i64 y0, .string y1] 56)).cell? ⟨w.heap.size, 1, none⟩ = some (.string y1) := by simp
  have hYg : w.heap.size ≠ g := by omega
  have hlt : w.heap.size < (w.alloc (.cells #[.int .i64 y0, .string y1] 56)).heap.size := by simp
  have HY : Hid (w.heap.size ≠ sb) := by show w.heap.size ≠ sb; omega
  generalize hY : w.heap.size = Y at z0 z1 hYg hlt HY ⊢
  have HYS : Hid (w.heap.size = Y) := hY
  clear hY
  generalize w.alloc (.cells #[.int .i64 y0, .string y1] 56) = W at z0 z1 ba hlt ⊢
  have hLW := HL.out.below ba
  have k0 := hLW.c
  clear x0 x1 c0
  go_wp2_with (go_at_call 18; refine (HDEL W ba).mono ?_; rintro e w2 ⟨rfl, hr2, ho2⟩; have m2 := ho2.cell hLW.c (fun e => hgs e.symm); have mf := (ho2.frozen (p := ⟨sb, 0, none⟩) (hLW.lt (.inl rfl)) (fun e => hgs e.symm)).trans hLW.f; have y0' := ho2.cell z0 hYg; have y1' := ho2.cell z1 hYg)
  have b0 : (w2.setCell ⟨sb, 0, none⟩ (.slice (some ⟨g, 0, none⟩) (n - 1) cap)).cell? ⟨Y, 0, none⟩ = some (.int .i64 y0) := by
    rw [World.cell?_setCell_other _ _ _ _ (by intro e; injection e with e; exact HY.out e.symm)]; exact y0'
  have b1 : (w2.setCell ⟨sb, 0, none⟩ (.slice (some ⟨g, 0, none⟩) (n - 1) cap)).cell? ⟨Y, 1, none⟩ = some (.string y1) := by
    rw [World.cell?_setCell_other _ _ _ _ (by intro e; injection e with e; exact HY.out e.symm)]; exact y1'
  have ho3 : Off (fun k => (Value.slice (some ⟨g, 0, none⟩) n cap).ownBlock = some k) w w2 := (Off.of_below ba).trans (ho2.mono (fun k _ e => by rw [e]; rfl))
  have FIN : Hid (Turn w (w2.setCell ⟨sb, 0, none⟩ (.slice (some ⟨g, 0, none⟩) (n - 1) cap)) 56 0 B sb (.slice (some ⟨g, 0, none⟩) n cap) (cut1 ls p)) :=
    (show Turn w _ 56 0 B sb _ _ from ⟨_, HL.out.put ho3 (by rw [HN.out]; exact hr2) (fun k hk => .inl hk) HI.out, (ho3.mono (fun k _ e => .inr e)).setCell (.inl rfl) _, fun k hk => .inl hk⟩)
  clear m2 mf y0' y1' hr2 ho2 ho3 k0 z0 z1
  generalize w2.setCell ⟨sb, 0, none⟩ (.slice (some ⟨g, 0, none⟩) (n - 1) cap) = W3 at b0 b1 FIN ⊢
  go_quiet (fail)
  go_wp2_with fail
  go_ret3
  exact ⟨rfl, FIN.out.more (by repeat (first | exact Below.refl _ _ | exact below_drewN (Below.refl _ _) _ | refine Below.drew ?_))⟩
theorem give_calls {w : World} {B sb : Nat} {v : Value} {ls : List LR} (h : Lnk w 56 0 B sb v ls) (i : Int) : Calls Tryd.prog 10 #[.pointer (some ⟨sb, 0, none⟩), .int .i64 i] w fun e w' => e = .returned (.tuple #[.int .i64 (giveV ls i).1, .string (giveV ls i).2, errV (giveF ls i)]) ∧ Turn w w' 56 0 B sb v (giveS ls i) := by
  cases hq : onB ls i with
  | false =>
    rw [giveV_no hq, giveF_no hq, giveS_no hq, errV_f (by decide)]
    exact (give_no h i hq).mono fun e w' ⟨h1, h2⟩ => ⟨h1, by rw [h2]; exact Turn.same h⟩
  | true =>
    obtain ⟨p, e, hp⟩ := onB_yes hq
    rw [giveV_yes hq, giveF_yes hq, giveS_yes hq, errV_0]
    have e2 : i.toNat = p := by omega
    rw [e2]
    exact give_yes h p hp i e
set_option maxRecDepth 100000 in
set_option maxHeartbeats 2000000 in
theorem lose_calls {w : World} {B sb : Nat} {v : Value} {ls : List LR} (h : Lnk w 56 0 B sb v ls) (i : Int) : Calls Tryd.prog 11 #[.pointer (some ⟨sb, 0, none⟩), .int .i64 i] w fun e w' => e = .returned (errV (giveF ls i)) ∧ Turn w w' 56 0 B sb v (giveS ls i) := by
  have hg := give_calls h i
  generalize (giveV ls i).1 = y0 at hg
  generalize (giveV ls i).2 = y1 at hg
  generalize errV (giveF ls i) = er at hg ⊢
  go_enter Tryd.func11, Tryd.ntmps11
  go_wp2_with (go_at_call 10; refine hg.mono ?_; rintro e w1 ⟨rfl, ht1⟩)
  go_ret
  exact ⟨rfl, ht1⟩
set_option maxRecDepth 100000 in
set_option maxHeartbeats 2000000 in
theorem twice_no {w : World} {B sb : Nat} {v : Value} {ls : List LR} (h : Lnk w 56 0 B sb v ls) (i : Int) (hq : onB ls i = false) : Calls Tryd.prog 12 #[.pointer (some ⟨sb, 0, none⟩), .int .i64 i] w fun e w' => e = .returned (.iface 53 (.int .i64 1)) ∧ w' = w := by
  go_enter Tryd.func12, Tryd.ntmps12
  go_wp2_with (go_at_call 17; refine (isOnWay_calls h i).mono ?_; rintro e w1 ⟨rfl, hw1⟩; rw [hq, hw1]; clear hw1 w1)
  go_ret
  exact ⟨rfl, rfl⟩
set_option maxRecDepth 100000 in
set_option maxHeartbeats 2000000 in
theorem twice_yes {w : World} {B sb : Nat} {v : Value} {ls : List LR} (h : Lnk w 56 0 B sb v ls) (p : Nat) (hp : p < ls.length) (i : Int) (hi : i = (p : Int)) : Calls Tryd.prog 12 #[.pointer (some ⟨sb, 0, none⟩), .int .i64 i] w fun e w' => e = .returned (errV (twF ls (p : Int))) ∧ Turn w w' 56 0 B sb v (twS ls (p : Int)) := by
  obtain ⟨a, cap, rfl⟩ := h.shape
  obtain ⟨g, cur, rfl, _, hBg, hgl, hgs, hgg, hnc, hm, hcs, hcl⟩ := h.rows (by omega)
  have hq : onB ls i = true := by rw [hi]; exact onB_at hp
  have hon := isOnWay_calls h i
  rw [hq] at hon
  subst hi
  have c0 := h.c
  obtain ⟨x0, x1⟩ := hcl p hp
  rw [Nat.zero_add] at x0 x1
  have hfew := h.inv.few
  have hsz := (h.inv.ok _ (at_mem hp)).2
  have hsend := send_calls (h.below ((Below.refl _ w).drew)) (at' ls p).1 (at' ls p).2 (by omega)
  rw [(tw_send h.inv hp).1, (tw_send h.inv hp).2]
  have hp' : (p : Int) < (ls.length : Int) := by omega
  have hp9 : (p : Int) ≤ 40 := by omega
  have HL : Hid (Lnk w 56 0 B sb (.slice (some ⟨g, 0, none⟩) ls.length cap) ls) := h
  clear hq h hcl hgg hcs hm hnc hp hfew hsz
  generalize sendF ls (at' ls p).1 (at' ls p).2 = f at *
  generalize sendS ls (at' ls p).1 (at' ls p).2 = s at *
  generalize errV f = er at *
  generalize (at' ls p).1 = y0 at *
  generalize (at' ls p).2 = y1 at *
  generalize ls.length = n at *
  go_enter Tryd.func12, Tryd.ntmps12
  go_wp2_with (go_at_call 17; refine hon.mono ?_; rintro e w1 ⟨rfl, hw1⟩; rw [hw1]; clear hw1 w1)
  go_region_with (go_at_call 7; refine hsend.mono ?_; rintro e w1 ⟨rfl, ht1⟩)
  all_goals (try go_wp2_with fail)
  all_goals go_ret
  all_goals exact ⟨rfl, by
    obtain ⟨v', h1, h2, h3⟩ := ht1
    exact ⟨v', h1, ((Off.refl _ w).drew).trans h2, h3⟩⟩
theorem twice_calls {w : World} {B sb : Nat} {v : Value} {ls : List LR} (h : Lnk w 56 0 B sb v ls) (i : Int) : Calls Tryd.prog 12 #[.pointer (some ⟨sb, 0, none⟩), .int .i64 i] w fun e w' => e = .returned (errV (twF ls i)) ∧ Turn w w' 56 0 B sb v (twS ls i) := by
  cases hq : onB ls i with
  | false =>
    rw [twS_no (by rw [twF_no hq]; decide), twF_no hq, errV_f (by decide)]
    exact (twice_no h i hq).mono fun e w' ⟨h1, h2⟩ => ⟨h1, by rw [h2]; exact Turn.same h⟩
  | true =>
    obtain ⟨p, rfl, hp⟩ := onB_yes hq
    exact twice_yes h p hp (p : Int) rfl
end Go.Proofs.YtljilhhnejjifaaDoor
