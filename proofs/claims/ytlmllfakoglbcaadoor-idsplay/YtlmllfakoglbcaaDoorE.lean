/- slices.Delete of one ID; Retire. -/
import Derived.Test.YtlmllfakoglbcaaDoorD
import Derived.Deep.RegionLaw
import Derived.Lib.SliceRun
namespace Go.Proofs.YtlmllfakoglbcaaDoor
open Go.RowKit Go.Lib Go.Sort Go.Shelf
set_option linter.unusedVariables false
set_option linter.unusedSimpArgs false

theorem zeroID (w : World) : (zeroValue 29).run Tryd.prog w = .ok (.agg #[.int .i64 0, .int .i64 0]) w := by kernel_rfl
/-- clear of a slice of one ID. -/
theorem clear_one (W : World) (ty : TypeId) (g o c : Nat) (h0 : (W.cell? ⟨g, o, none⟩).isSome = true) (h1 : (W.cell? ⟨g, o + 1, none⟩).isSome = true) (f0 : W.frozen? ⟨g, o, none⟩ = false) (f1 : W.frozen? ⟨g, o + 1, none⟩ = false) :
    (Builtin.clear_ #[34] ty #[.slice (some ⟨g, o, none⟩) 1 c]).run Tryd.prog W = .ok (.tuple #[]) (W.setCells g o [.int .i64 0, .int .i64 0]) := by
  have hst := run_storeCells_cells (P := Tryd.prog) g o [.int .i64 0, .int .i64 0] 0 W (fun j hj => by
      match j, hj with
      | 0, _ => exact h0
      | 1, _ => exact h1
      | j + 2, hj => simp at hj; omega) (fun j hj => by
      match j, hj with
      | 0, _ => exact f0
      | 1, _ => exact f1
      | j + 2, hj => simp at hj; omega) (by intro v hv; simp at hv; rcases hv with rfl | rfl <;> rfl)
  simp only [Nat.add_zero] at hst
  have hzc : (Builtin.zeroCells (Value.agg #[.int .i64 0, .int .i64 0]).cells 1).toList = [.int .i64 0, .int .i64 0] := by kernel_rfl
  simp [Builtin.clear_, run_underlying Tryd.underlying34, zeroID, hzc, hst]
theorem Off.setCells {K : Nat → Prop} {g : Nat} (hK : K g) {w : World} : ∀ (vs : List Value) (o : Nat) {w' : World}, Off K w w' → Off K w (w'.setCells g o vs)
  | [], o, w', h => h
  | v :: vs, o, w', h => Off.setCells hK vs (o + 1) (h.setCell (a := ⟨g, o, none⟩) hK v)
/-- The cells behind the place p. -/
def moved (zs : List R) (p : Nat) : List Value := flat (zs.drop (p + 1))
theorem moved_length {zs : List R} {p : Nat} : (moved zs p).length = (zs.length - (p + 1)) * 2 := by rw [moved, flat_length, List.length_drop]
theorem heap_setCells {g : Nat} {e : TypeId} : ∀ (vs : List Value) (o : Nat) (w : World) (cur : Array Value), w.heap[g]? = some (.cells cur e (0, 0)) → ∃ cur', (w.setCells g o vs).heap[g]? = some (.cells cur' e (0, 0)) ∧ cur'.size = cur.size
  | [], o, w, cur, h => ⟨cur, h, rfl⟩
  | v :: vs, o, w, cur, h => by
    have h1 : ∃ cur', (w.setCell ⟨g, o, none⟩ v).heap[g]? = some (.cells cur' e (0, 0)) ∧ cur'.size = cur.size := by
      have hg := (Array.getElem?_eq_some_iff.1 h).1
      simp only [World.setCell, Array.getElem?_modify, h]
      simp
    obtain ⟨cur1, h2, h3⟩ := h1
    obtain ⟨cur2, h4, h5⟩ := heap_setCells vs (o + 1) (w.setCell ⟨g, o, none⟩ v) cur1 h2
    exact ⟨cur2, h4, h5.trans h3⟩
theorem own_of_cells {w : World} {B g n cap : Nat} {e : TypeId} {cur : Array Value} {xs : List Value} (hB : B ≤ g) (hg : w.heap[g]? = some (.cells cur e (0, 0))) (hnc : n ≤ cap) (hm : cap ≤ maxLen) (hs : cur.size = cap * 2) (hl : xs.length = n * 2)
    (hc : ∀ j u, xs[j]? = some u → w.cell? ⟨g, j, none⟩ = some u) : w.ownsRow B e 2 (.slice (some ⟨g, 0, none⟩) n cap) n xs := by
  refine ⟨hl, .inr ⟨g, cap, cur, rfl, hB, hg, hnc, hm, hs, ?_⟩⟩
  refine List.ext_getElem? fun j => ?_
  by_cases hj : j < n * 2
  · rw [List.getElem?_take_of_lt hj]
    have hx : xs[j]? = some xs[j] := List.getElem?_eq_getElem (by omega)
    have := hc j _ hx
    rw [hx]
    simpa [World.cell?, hg] using this
  · rw [List.getElem?_eq_none (by simp; omega), List.getElem?_eq_none (by omega)]
set_option maxRecDepth 100000 in
set_option maxHeartbeats 2000000 in
theorem delete_calls (g n cap p B : Nat) (cur : Array Value) (zs : List R) (w : World) (hB : B ≤ g) (hg : w.heap[g]? = some (.cells cur 29 (0, 0))) (hnc : n ≤ cap) (hm : cap ≤ maxLen) (hs : cur.size = cap * 2) (hl : zs.length = n) (hc : Cells w g 0 zs) (hp : p < n) :
    Calls Tryd.prog 20 #[.slice (some ⟨g, 0, none⟩) n cap, .int .i64 (p : Int), .int .i64 ((p : Int) + 1)] w fun e w' => e = .returned (.slice (some ⟨g, 0, none⟩) (n - 1) cap) ∧ w'.ownsRow B 29 2 (.slice (some ⟨g, 0, none⟩) (n - 1) cap) (n - 1) (flat (zs.take p ++ zs.drop (p + 1))) ∧ Off (fun k => k = g) w w' := by
  have hM : cap ≤ 9223372036854775807 := by unfold maxLen at hm; omega
  have hic : p ≤ cap := by omega
  have hp0 : (0 : Int) ≤ (p : Int) + 1 := by omega
  have hp1 : (p : Int) + 1 ≤ (n : Int) := by omega
  have hp2 : ((p : Int) + 1).toNat = p + 1 := by omega
  have hp3 : (p : Int) + 1 ≤ (cap : Int) := by omega
  have hp4 : ((p : Int) == (p : Int) + 1) = false := by simp <;> omega
  obtain ⟨m, hm1⟩ : ∃ m, n - (p + 1) = m := ⟨_, rfl⟩
  have HN : Hid (n = p + m + 1) := by show n = p + m + 1; omega
  have e2 : n - (p + m) = 1 := by omega
  have q0 : (0 : Int) ≤ (p : Int) + (m : Int) := by omega
  have q1 : (p : Int) + (m : Int) ≤ (n : Int) := by omega
  have q2 : ((p : Int) + (m : Int)).toNat = p + m := by omega
  have q3 : (n : Int) ≤ (cap : Int) := by omega
  have q4 : ¬ cap = p + m := by omega
  obtain ⟨i0, hi0, hz0, hz1, hz2⟩ := info_parts infoR
  obtain ⟨news, hnews⟩ : ∃ news, news = moved zs p := ⟨_, rfl⟩
  have hlen : news.length = m * 2 := by rw [hnews, moved_length, hl, hm1]
  have hget : ∀ (t : Nat) (u : Value), news[t]? = some u → (flat zs)[(p + 1) * 2 + t]? = some u := by
    intro t u hu
    have e : flat zs = flat (zs.take (p + 1)) ++ flat (zs.drop (p + 1)) := by rw [← flat_append, List.take_append_drop]
    rw [e, List.getElem?_append_right (by rw [flat_length, List.length_take]; omega), flat_length, List.length_take, show (p + 1) * 2 + t - min (p + 1) zs.length * 2 = t by omega]
    rw [hnews] at hu
    exact hu
  have hfl : ∀ (t : Nat) (u : Value), (flat zs)[t]? = some u → w.cell? ⟨g, t, none⟩ = some u := fun t u hu => by
    have := flat_cells hc t u hu
    rw [Addr.add_lit, Nat.zero_add] at this
    exact this
  have hfz : ∀ t, w.frozen? ⟨g, t, none⟩ = false := fun t => by simp [World.frozen?, hg]
  have hfs : ∀ t, t < n * 2 → ∃ u, (flat zs)[t]? = some u := fun t ht => ⟨_, List.getElem?_eq_getElem (by rw [flat_length]; omega)⟩
  obtain ⟨A, hA, hsrc⟩ : ∃ A : Addr, (if cap = p + 1 then some (⟨g, 0, none⟩ : Addr) else some ⟨g, (p + 1) * 2, none⟩) = some A ∧ Hid (∀ t u, news[t]? = some u → w.drew.cell? (A.add t) = some u) := by
    by_cases h : cap = p + 1
    · refine ⟨⟨g, 0, none⟩, by simp [h], fun t u hu => ?_⟩
      have h0 : news.length = 0 := by rw [hlen]; omega
      rw [List.length_eq_zero_iff.1 h0] at hu
      simp at hu
    · refine ⟨⟨g, (p + 1) * 2, none⟩, by simp [h], fun t u hu => ?_⟩
      rw [Addr.add_lit]
      exact hfl _ u (hget t u hu)
  have s1 : Hid (news.length = m * 2) := hlen
  have s2 : Hid (∀ u ∈ news, u.oneCell' = true) := by
    intro u hu
    rw [hnews] at hu
    exact flat_one u hu
  have s3 : Hid (∀ t, t < news.length → (w.drew.cell? ⟨g, 0 + p * 2 + t, none⟩).isSome = true ∧ w.drew.frozen? ⟨g, 0 + p * 2 + t, none⟩ = false) := by
    intro t ht
    rw [hlen] at ht
    rw [Nat.zero_add]
    obtain ⟨u, hu⟩ := hfs (p * 2 + t) (by omega)
    exact ⟨by show (w.cell? _).isSome = true; rw [hfl _ u hu]; rfl, hfz _⟩
  obtain ⟨W1, hW1⟩ : ∃ W1, W1 = w.drew.setCells g (0 + p * 2) news := ⟨_, rfl⟩
  have hW1c : ∀ t u, (flat (zs.take p ++ zs.drop (p + 1)))[t]? = some u → W1.cell? ⟨g, t, none⟩ = some u := by
    intro t u hu
    rw [flat_append] at hu
    have hl1 : (flat (zs.take p)).length = p * 2 := by rw [flat_length, List.length_take]; omega
    by_cases ht : t < p * 2
    · rw [List.getElem?_append_left (by omega)] at hu
      rw [hW1, World.cell?_setCells_out g _ _ _ _ (fun _ _ => by left; show t < _; omega)]
      show w.cell? _ = _
      refine hfl t u ?_
      have e : flat zs = flat (zs.take p) ++ flat (zs.drop p) := by rw [← flat_append, List.take_append_drop]
      rw [e, List.getElem?_append_left (by omega)]
      exact hu
    · rw [List.getElem?_append_right (by omega), hl1] at hu
      have hu' : news[t - p * 2]? = some u := by rw [hnews]; exact hu
      have hlt := (List.getElem?_eq_some_iff.1 hu').1
      have := World.cell?_setCells_in g news (0 + p * 2) w.drew (fun j hj => (s3.out j hj).1) (t - p * 2) hlt
      rw [show 0 + p * 2 + (t - p * 2) = t by omega] at this
      rw [hW1, this, ← hu', List.getElem?_eq_getElem hlt]
  have hW1s : ∀ t, t < n * 2 → (W1.cell? ⟨g, t, none⟩).isSome = true := by
    intro t ht
    by_cases h1 : t < 0 + p * 2 ∨ 0 + p * 2 + news.length ≤ t
    · rw [hW1, World.cell?_setCells_out g _ _ _ _ (fun _ _ => h1)]
      obtain ⟨u, hu⟩ := hfs t ht
      show (w.cell? _).isSome = true
      rw [hfl t u hu]; rfl
    · have hlt : t - p * 2 < news.length := by omega
      have := World.cell?_setCells_in g news (0 + p * 2) w.drew (fun j hj => (s3.out j hj).1) (t - p * 2) hlt
      rw [show 0 + p * 2 + (t - p * 2) = t by omega] at this
      rw [hW1, this]; rfl
  have hW1f : ∀ t, W1.frozen? ⟨g, t, none⟩ = false := fun t => by rw [hW1, World.frozen?_setCells]; exact hfz t
  have hcl : ∀ ty, (Builtin.clear_ #[34] ty #[.slice (some ⟨g, (p + m) * 2, none⟩) 1 (cap - (p + m))]).run Tryd.prog W1 = .ok (.tuple #[]) (W1.setCells g ((p + m) * 2) [.int .i64 0, .int .i64 0]) :=
    fun ty => clear_one W1 ty g _ _ (hW1s _ (by omega)) (hW1s _ (by omega)) (hW1f _) (hW1f _)
  have HG : Hid (∃ cur', (W1.setCells g ((p + m) * 2) [.int .i64 0, .int .i64 0]).heap[g]? = some (.cells cur' 29 (0, 0)) ∧ cur'.size = cap * 2) := by
    obtain ⟨c1, a1, a2⟩ := heap_setCells news (0 + p * 2) w.drew cur hg
    rw [← hW1] at a1
    obtain ⟨c2, b1, b2⟩ := heap_setCells [.int .i64 0, .int .i64 0] ((p + m) * 2) W1 c1 a1
    exact ⟨c2, b1, by rw [b2, a2, hs]⟩
  have HO : Hid (Off (fun k => k = g) w (W1.setCells g ((p + m) * 2) [.int .i64 0, .int .i64 0])) := by
    rw [hW1]
    show Off (fun k => k = g) w _
    exact Off.setCells (K := fun k => k = g) rfl _ _ (Off.setCells (K := fun k => k = g) rfl _ _ (Off.refl _ w).drew)
  have HC : Hid (∀ t u, (flat (zs.take p ++ zs.drop (p + 1)))[t]? = some u → (W1.setCells g ((p + m) * 2) [.int .i64 0, .int .i64 0]).cell? ⟨g, t, none⟩ = some u) := by
    intro t u hu
    have hlt := (List.getElem?_eq_some_iff.1 hu).1
    rw [flat_length, List.length_append, List.length_take, List.length_drop] at hlt
    rw [World.cell?_setCells_out g _ _ _ _ (fun _ _ => by left; show t < _; omega)]
    exact hW1c t u hu
  have HW : Hid (W1 = w.drew.setCells g (0 + p * 2) news) := hW1
  have HL : Hid (zs.length = n) := hl
  clear hW1 hW1c hW1s hW1f hfl hfs hfz hget hnews hlen hg hc hl hs hz0 hz2
  go_enter Tryd.func20, Tryd.ntmps20
  go_wp2_with fail
  go_region_law (refine step_append_room rfl (.tmp 22) (.tmp 25) 34 rfl 29 i0 2 Tryd.underlying34 hi0 hz1 g 0 p cap (by simp [Act.eval, Act.put]) A m (cap - (p + 1)) news (by simp [Act.eval, Act.put, hm1]) s1.out hsrc.out s2.out (by omega) s3.out ?_; rw [← HW.out])
  go_wp2
  go_ret
  have e3 : p + m = n - 1 := by have := HN.out; omega
  obtain ⟨c2, b1, b2⟩ := HG.out
  refine ⟨by rw [e3]; rfl, own_of_cells hB b1 (by omega) hm b2 ?_ HC.out, HO.out⟩
  rw [flat_length, List.length_append, List.length_take, List.length_drop, HL.out]; omega

/-- The live ones are put anew. -/
theorem Obj.put {w w2 : World} {B sb bm : Nat} {v v' : Value} {L : Int} {ns : List Int} {ls ls' : List R} (h : Obj w B sb bm v L ns ls) (ho : Off (fun k => v.ownBlock = some k) w w2) (hr : w2.ownsRow B 29 2 v' ls'.length (flat ls'))
    (hv : ∀ k, v'.ownBlock = some k → v.ownBlock = some k ∨ w.heap.size ≤ k) (inv : Inv L ns ls') : Obj (w2.setCell ⟨sb, 2, none⟩ v') B sb bm v' L ns ls' := by
  have hsb := h.lt (k := sb) (.inl rfl)
  have hbm := h.lt (k := bm) (.inr (.inl rfl))
  have ns1 : ¬ v.ownBlock = some sb := fun e => (h.nv sb e).1 rfl
  have ns2 : ¬ v.ownBlock = some bm := fun e => (h.nv bm e).2 rfl
  have nv : ∀ k, v'.ownBlock = some k → k ≠ sb ∧ k ≠ bm := fun k hk => by
    rcases hv k hk with e | e
    · exact h.nv k e
    · exact ⟨by omega, by omega⟩
  have o2 : Off (fun k => k = sb) w2 (w2.setCell ⟨sb, 2, none⟩ v') := (Off.refl _ _).setCell (K := fun k => k = sb) rfl _
  obtain ⟨D, hD, hN⟩ := h.map
  refine ⟨inv, ?_, ?_, ?_, ?_, ⟨D, o2.map (ho.map hD ns2) h.ne, hN⟩, o2.row hr (fun k hk => (nv k hk).1), h.hs, h.hm, h.ne, nv⟩
  · rw [World.cell?_setCell_other _ _ _ _ (by simp)]; exact ho.cell h.c0 ns1
  · rw [World.cell?_setCell_other _ _ _ _ (by simp)]; exact ho.cell h.c1 ns1
  · exact World.cell?_setCell_same _ _ _ (ho.cell h.c2 ns1)
  · rw [World.frozen?_setCell]; exact (ho.frozen (p := ⟨sb, 2, none⟩) hsb ns1).trans h.f2
set_option maxRecDepth 100000 in
set_option maxHeartbeats 2000000 in
theorem retire_no {w : World} {B sb bm : Nat} {v : Value} {L : Int} {ns : List Int} {ls : List R} (h : Obj w B sb bm v L ns ls) (q : Int) (hl : isIn ls q = false) :
    Calls Tryd.prog 8 #[.pointer (some ⟨sb, 0, none⟩), .int .i64 q] w fun e w' => e = .returned (.iface 48 (.int .i64 5)) ∧ Below w.heap.size w w' := by
  have hcon := place_calls h q
  have hpos : pos ls q = -1 := by
    rcases pos_cases ls q with ⟨h1, _⟩ | ⟨_, h2⟩
    · rw [hl] at h1; cases h1
    · exact h2
  rw [hpos] at hcon
  clear hl hpos h
  go_enter Tryd.func8, Tryd.ntmps8
  go_wp2_with (go_at_call 19; refine hcon.mono ?_; rintro e w1 ⟨rfl, hb1⟩)
  go_ret
  exact ⟨rfl, hb1⟩
set_option maxRecDepth 100000 in
set_option maxHeartbeats 2000000 in
theorem retire_yes {w : World} {B sb bm : Nat} {v : Value} {L : Int} {ns : List Int} {ls : List R} (h : Obj w B sb bm v L ns ls) (q : Int) (hl : isIn ls q = true) :
    Calls Tryd.prog 8 #[.pointer (some ⟨sb, 0, none⟩), .int .i64 q] w fun e w' => e = .returned .nilIface ∧ ∃ v', Obj w' B sb bm v' L ns (gone ls q) ∧ Off (own sb bm v) w w' ∧ v'.ownBlock = v.ownBlock := by
  have hcon := place_calls h q
  obtain ⟨p, hp, hpos, hat⟩ : ∃ p : Nat, p < ls.length ∧ pos ls q = (p : Int) ∧ (at' ls p).1 = q := by
    rcases pos_cases ls q with ⟨_, h2⟩ | ⟨h1, _⟩
    · exact h2
    · rw [hl] at h1; cases h1
  rw [hpos] at hcon
  have hgone := gone_at ls p h.inv.rise hp hat
  have hO := h
  obtain ⟨g, cap, cur, ev, hBg, hgg, hnc, hm, hcs, _⟩ : ∃ g cap cur, v = .slice (some ⟨g, 0, none⟩) ls.length cap ∧ B ≤ g ∧ w.heap[g]? = some (.cells cur 29 (0, 0)) ∧ ls.length ≤ cap ∧ cap ≤ maxLen ∧ cur.size = cap * 2 ∧ True := by
    rcases h.row.2 with ⟨_, e⟩ | ⟨g, cap, cur, e, h1, h2, h3, h4, h5, _⟩
    · omega
    · exact ⟨g, cap, cur, e, h1, h2, h3, h4, h5, trivial⟩
  have hrow := h.row
  rw [ev] at hrow
  have hcl := cells_of_own hrow
  have hgl := (Array.getElem?_eq_some_iff.1 hgg).1
  have hsb := h.lt (k := sb) (.inl rfl)
  have hgs : g ≠ sb := (h.nv g (by rw [ev]; rfl)).1
  have hdel : ∀ w1, Below w.heap.size w w1 → Calls Tryd.prog 20 #[.slice (some ⟨g, 0, none⟩) ls.length cap, .int .i64 (p : Int), .int .i64 ((p : Int) + 1)] w1 fun e w' => e = .returned (.slice (some ⟨g, 0, none⟩) (ls.length - 1) cap) ∧ w'.ownsRow B 29 2 (.slice (some ⟨g, 0, none⟩) (ls.length - 1) cap) (ls.length - 1) (flat (ls.take p ++ ls.drop (p + 1))) ∧ Off (fun k => k = g) w1 w' := fun w1 hb =>
    delete_calls g ls.length cap p B cur ls w1 hBg ((hb.block g hgl).trans hgg) hnc hm hcs rfl (hcl.below hgl hb) hp
  rw [hgone] at hdel
  have hlen : (gone ls q).length = ls.length - 1 := by rw [← hgone, List.length_append, List.length_take, List.length_drop]; omega
  rw [ev] at hO
  have c2 := hO.c2
  have HP : Hid (p < ls.length) := hp
  have hm8 : ls.length ≤ 8 := by have := h.inv.full; have := h.inv.l8; omega
  have hp8 : (p : Int) ≤ 8 := by omega
  have HI : Hid (Inv L ns (gone ls q)) := h.inv.retire q
  rw [ev]
  clear hl hpos h hat hgone hcl hrow ev hm8 hp hgg hcs hm hnc
  have HL : Hid ((gone ls q).length = ls.length - 1) := hlen
  clear hlen
  generalize hn : ls.length = n at *
  clear hn
  go_enter Tryd.func8, Tryd.ntmps8
  go_wp2_with (first | (go_at_call 19; refine hcon.mono ?_; rintro e w1 ⟨rfl, hb1⟩; have k2 := (hb1.cell (p := ⟨sb, 2, none⟩) hsb).trans c2) | (go_at_call 20; refine (hdel w1 hb1).mono ?_; rintro e w2 ⟨rfl, hr2, ho2⟩; have m2 := ho2.cell k2 (fun e => hgs e.symm); have mf := (ho2.frozen (p := ⟨sb, 2, none⟩) (Nat.lt_of_lt_of_le hsb hb1.size) (fun e => hgs e.symm)).trans ((hb1.frozen (p := ⟨sb, 2, none⟩) hsb).trans hO.f2)))
  go_ret
  have ho3 : Off (fun k => (Value.slice (some ⟨g, 0, none⟩) n cap).ownBlock = some k) w w2 := (Off.of_below hb1).trans (ho2.mono (fun k _ e => by rw [e]; rfl))
  refine ⟨rfl, _, hO.put ho3 (by rw [HL.out]; exact hr2) (fun k hk => .inl hk) HI.out, ?_, rfl⟩
  exact (ho3.mono (fun k _ e => .inr (.inr e))).setCell (.inl rfl) _
end Go.Proofs.YtlmllfakoglbcaaDoor
