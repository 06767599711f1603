/- The texts E,F of ids, at this seat. -/
import Derived.Test.YtpnblfabdioanaaDoorIX
import Derived.Deep.RegionLaw
import Derived.Lib.SliceRun
namespace Go.Proofs.YtpnblfabdioanaaDoor.Ix
open Go.RowKit Go.Lib Go.Sort Go.Shelf
set_option linter.unusedVariables false
set_option linter.unusedSimpArgs false


theorem zeroID (w : World) : (zeroValue 52).run Tryd.prog w = .ok (.agg #[.int .i64 0, .int .i64 0]) w := by kernel_rfl
/-- clear of a slice of one ID. -/
theorem clear_one (W : World) (ty : TypeId) (g o c : Nat) (h0 : (W.cell? ⟨g, o, none⟩).isSome = true) (h1 : (W.cell? ⟨g, o + 1, none⟩).isSome = true) (f0 : W.frozen? ⟨g, o, none⟩ = false) (f1 : W.frozen? ⟨g, o + 1, none⟩ = false) :
    (Builtin.clear_ #[38] ty #[.slice (some ⟨g, o, none⟩) 1 c]).run Tryd.prog W = .ok (.tuple #[]) (W.setCells g o [.int .i64 0, .int .i64 0]) := by
  have hst := run_storeCells_cells (P := Tryd.prog) g o [.int .i64 0, .int .i64 0] 0 W (fun j hj => by
      match j, hj with
      | 0, _ => exact h0
      | 1, _ => exact h1
      | j + 2, hj => simp at hj; omega) (fun j hj => by
      match j, hj with
      | 0, _ => exact f0
      | 1, _ => exact f1
      | j + 2, hj => simp at hj; omega) (by intro v hv; simp at hv; rcases hv with rfl | rfl <;> rfl)
  simp only [Nat.add_zero] at hst
  have hzc : (Builtin.zeroCells (Value.agg #[.int .i64 0, .int .i64 0]).cells 1).toList = [.int .i64 0, .int .i64 0] := by kernel_rfl
  simp [Builtin.clear_, run_underlying Tryd.underlying38, zeroID, hzc, hst]
/-- The cells behind the place p. -/
def moved (zs : List R) (p : Nat) : List Value := flat (zs.drop (p + 1))
theorem moved_length {zs : List R} {p : Nat} : (moved zs p).length = (zs.length - (p + 1)) * 2 := by rw [moved, flat_length, List.length_drop]
theorem heap_setCells {g : Nat} {e : TypeId} : ∀ (vs : List Value) (o : Nat) (w : World) (cur : Array Value), w.heap[g]? = some (.cells cur e (0, 0)) → ∃ cur', (w.setCells g o vs).heap[g]? = some (.cells cur' e (0, 0)) ∧ cur'.size = cur.size
  | [], o, w, cur, h => ⟨cur, h, rfl⟩
  | v :: vs, o, w, cur, h => by
    have h1 : ∃ cur', (w.setCell ⟨g, o, none⟩ v).heap[g]? = some (.cells cur' e (0, 0)) ∧ cur'.size = cur.size := by
      have hg := (Array.getElem?_eq_some_iff.1 h).1
      simp only [World.setCell, Array.getElem?_modify, h]
      simp
    obtain ⟨cur1, h2, h3⟩ := h1
    obtain ⟨cur2, h4, h5⟩ := heap_setCells vs (o + 1) (w.setCell ⟨g, o, none⟩ v) cur1 h2
    exact ⟨cur2, h4, h5.trans h3⟩
theorem own_of_cells {w : World} {B g n cap : Nat} {e : TypeId} {cur : Array Value} {xs : List Value} (hB : B ≤ g) (hg : w.heap[g]? = some (.cells cur e (0, 0))) (hnc : n ≤ cap) (hm : cap ≤ maxLen) (hs : cur.size = cap * 2) (hl : xs.length = n * 2)
    (hc : ∀ j u, xs[j]? = some u → w.cell? ⟨g, j, none⟩ = some u) : w.ownsRow B e 2 (.slice (some ⟨g, 0, none⟩) n cap) n xs := by
  refine ⟨hl, .inr ⟨g, cap, cur, rfl, hB, hg, hnc, hm, hs, ?_⟩⟩
  refine List.ext_getElem? fun j => ?_
  by_cases hj : j < n * 2
  · rw [List.getElem?_take_of_lt hj]
    have hx : xs[j]? = some xs[j] := List.getElem?_eq_getElem (by omega)
    have := hc j _ hx
    rw [hx]
    simpa [World.cell?, hg] using this
  · rw [List.getElem?_eq_none (by simp; omega), List.getElem?_eq_none (by omega)]
set_option maxRecDepth 100000 in
set_option maxHeartbeats 2000000 in
theorem delete_calls (g n cap p B : Nat) (cur : Array Value) (zs : List R) (w : World) (hB : B ≤ g) (hg : w.heap[g]? = some (.cells cur 52 (0, 0))) (hnc : n ≤ cap) (hm : cap ≤ maxLen) (hs : cur.size = cap * 2) (hl : zs.length = n) (hc : Cells w g 0 zs) (hp : p < n) :
    Calls Tryd.prog 51 #[.slice (some ⟨g, 0, none⟩) n cap, .int .i64 (p : Int), .int .i64 ((p : Int) + 1)] w fun e w' => e = .returned (.slice (some ⟨g, 0, none⟩) (n - 1) cap) ∧ w'.ownsRow B 52 2 (.slice (some ⟨g, 0, none⟩) (n - 1) cap) (n - 1) (flat (zs.take p ++ zs.drop (p + 1))) ∧ Off (fun k => k = g) w w' := by
  have hM : cap ≤ 9223372036854775807 := by unfold maxLen at hm; omega
  have hic : p ≤ cap := by omega
  have hp0 : (0 : Int) ≤ (p : Int) + 1 := by omega
  have hp1 : (p : Int) + 1 ≤ (n : Int) := by omega
  have hp2 : ((p : Int) + 1).toNat = p + 1 := by omega
  have hp3 : (p : Int) + 1 ≤ (cap : Int) := by omega
  have hp4 : ((p : Int) == (p : Int) + 1) = false := by simp <;> omega
  obtain ⟨m, hm1⟩ : ∃ m, n - (p + 1) = m := ⟨_, rfl⟩
  have HN : Hid (n = p + m + 1) := by show n = p + m + 1; omega
  have e2 : n - (p + m) = 1 := by omega
  have q0 : (0 : Int) ≤ (p : Int) + (m : Int) := by omega
  have q1 : (p : Int) + (m : Int) ≤ (n : Int) := by omega
  have q2 : ((p : Int) + (m : Int)).toNat = p + m := by omega
  have q3 : (n : Int) ≤ (cap : Int) := by omega
  have q4 : ¬ cap = p + m := by omega
  obtain ⟨i0, hi0, hz0, hz1, hz2⟩ := info_parts infoR
  obtain ⟨news, hnews⟩ : ∃ news, news = moved zs p := ⟨_, rfl⟩
  have hlen : news.length = m * 2 := by rw [hnews, moved_length, hl, hm1]
  have hget : ∀ (t : Nat) (u : Value), news[t]? = some u → (flat zs)[(p + 1) * 2 + t]? = some u := by
    intro t u hu
    have e : flat zs = flat (zs.take (p + 1)) ++ flat (zs.drop (p + 1)) := by rw [← flat_append, List.take_append_drop]
    rw [e, List.getElem?_append_right (by rw [flat_length, List.length_take]; omega), flat_length, List.length_take, show (p + 1) * 2 + t - min (p + 1) zs.length * 2 = t by omega]
    rw [hnews] at hu
    exact hu
  have hfl : ∀ (t : Nat) (u : Value), (flat zs)[t]? = some u → w.cell? ⟨g, t, none⟩ = some u := fun t u hu => by
    have := flat_cells hc t u hu
    rw [Addr.add_lit, Nat.zero_add] at this
    exact this
  have hfz : ∀ t, w.frozen? ⟨g, t, none⟩ = false := fun t => by simp [World.frozen?, hg]
  have hfs : ∀ t, t < n * 2 → ∃ u, (flat zs)[t]? = some u := fun t ht => ⟨_, List.getElem?_eq_getElem (by rw [flat_length]; omega)⟩
  obtain ⟨A, hA, hsrc⟩ : ∃ A : Addr, (if cap = p + 1 then some (⟨g, 0, none⟩ : Addr) else some ⟨g, (p + 1) * 2, none⟩) = some A ∧ Hid (∀ t u, news[t]? = some u → w.drew.cell? (A.add t) = some u) := by
    by_cases h : cap = p + 1
    · refine ⟨⟨g, 0, none⟩, by simp [h], fun t u hu => ?_⟩
      have h0 : news.length = 0 := by rw [hlen]; omega
      rw [List.length_eq_zero_iff.1 h0] at hu
      simp at hu
    · refine ⟨⟨g, (p + 1) * 2, none⟩, by simp [h], fun t u hu => ?_⟩
      rw [Addr.add_lit]
      exact hfl _ u (hget t u hu)
  have s1 : Hid (news.length = m * 2) := hlen
  have s2 : Hid (∀ u ∈ news, u.oneCell' = true) := by
    intro u hu
    rw [hnews] at hu
    exact flat_one u hu
  have s3 : Hid (∀ t, t < news.length → (w.drew.cell? ⟨g, 0 + p * 2 + t, none⟩).isSome = true ∧ w.drew.frozen? ⟨g, 0 + p * 2 + t, none⟩ = false) := by
    intro t ht
    rw [hlen] at ht
    rw [Nat.zero_add]
    obtain ⟨u, hu⟩ := hfs (p * 2 + t) (by omega)
    exact ⟨by show (w.cell? _).isSome = true; rw [hfl _ u hu]; rfl, hfz _⟩
  obtain ⟨W1, hW1⟩ : ∃ W1, W1 = w.drew.setCells g (0 + p * 2) news := ⟨_, rfl⟩
  have hW1c : ∀ t u, (flat (zs.take p ++ zs.drop (p + 1)))[t]? = some u → W1.cell? ⟨g, t, none⟩ = some u := by
    intro t u hu
    rw [flat_append] at hu
    have hl1 : (flat (zs.take p)).length = p * 2 := by rw [flat_length, List.length_take]; omega
    by_cases ht : t < p * 2
    · rw [List.getElem?_append_left (by omega)] at hu
      rw [hW1, World.cell?_setCells_out g _ _ _ _ (fun _ _ => by left; show t < _; omega)]
      show w.cell? _ = _
      refine hfl t u ?_
      have e : flat zs = flat (zs.take p) ++ flat (zs.drop p) := by rw [← flat_append, List.take_append_drop]
      rw [e, List.getElem?_append_left (by omega)]
      exact hu
    · rw [List.getElem?_append_right (by omega), hl1] at hu
      have hu' : news[t - p * 2]? = some u := by rw [hnews]; exact hu
      have hlt := (List.getElem?_eq_some_iff.1 hu').1
      have := World.cell?_setCells_in g news (0 + p * 2) w.drew (fun j hj => (s3.out j hj).1) (t - p * 2) hlt
      rw [show 0 + p * 2 + (t - p * 2) = t by omega] at this
      rw [hW1, this, ← hu', List.getElem?_eq_getElem hlt]
  have hW1s : ∀ t, t < n * 2 → (W1.cell? ⟨g, t, none⟩).isSome = true := by
    intro t ht
    by_cases h1 : t < 0 + p * 2 ∨ 0 + p * 2 + news.length ≤ t
    · rw [hW1, World.cell?_setCells_out g _ _ _ _ (fun _ _ => h1)]
      obtain ⟨u, hu⟩ := hfs t ht
      show (w.cell? _).isSome = true
      rw [hfl t u hu]; rfl
    · have hlt : t - p * 2 < news.length := by omega
      have := World.cell?_setCells_in g news (0 + p * 2) w.drew (fun j hj => (s3.out j hj).1) (t - p * 2) hlt
      rw [show 0 + p * 2 + (t - p * 2) = t by omega] at this
      rw [hW1, this]; rfl
  have hW1f : ∀ t, W1.frozen? ⟨g, t, none⟩ = false := fun t => by rw [hW1, World.frozen?_setCells]; exact hfz t
  have hcl : ∀ ty, (Builtin.clear_ #[38] ty #[.slice (some ⟨g, (p + m) * 2, none⟩) 1 (cap - (p + m))]).run Tryd.prog W1 = .ok (.tuple #[]) (W1.setCells g ((p + m) * 2) [.int .i64 0, .int .i64 0]) :=
    fun ty => clear_one W1 ty g _ _ (hW1s _ (by omega)) (hW1s _ (by omega)) (hW1f _) (hW1f _)
  have HG : Hid (∃ cur', (W1.setCells g ((p + m) * 2) [.int .i64 0, .int .i64 0]).heap[g]? = some (.cells cur' 52 (0, 0)) ∧ cur'.size = cap * 2) := by
    obtain ⟨c1, a1, a2⟩ := heap_setCells news (0 + p * 2) w.drew cur hg
    rw [← hW1] at a1
    obtain ⟨c2, b1, b2⟩ := heap_setCells [.int .i64 0, .int .i64 0] ((p + m) * 2) W1 c1 a1
    exact ⟨c2, b1, by rw [b2, a2, hs]⟩
  have HO : Hid (Off (fun k => k = g) w (W1.setCells g ((p + m) * 2) [.int .i64 0, .int .i64 0])) := by
    rw [hW1]
    show Off (fun k => k = g) w _
    exact Off.setCells (K := fun k => k = g) rfl _ _ (Off.setCells (K := fun k => k = g) rfl _ _ (Off.refl _ w).drew)
  have HC : Hid (∀ t u, (flat (zs.take p ++ zs.drop (p + 1)))[t]? = some u → (W1.setCells g ((p + m) * 2) [.int .i64 0, .int .i64 0]).cell? ⟨g, t, none⟩ = some u) := by
    intro t u hu
    have hlt := (List.getElem?_eq_some_iff.1 hu).1
    rw [flat_length, List.length_append, List.length_take, List.length_drop] at hlt
    rw [World.cell?_setCells_out g _ _ _ _ (fun _ _ => by left; show t < _; omega)]
    exact hW1c t u hu
  have HW : Hid (W1 = w.drew.setCells g (0 + p * 2) news) := hW1
  have HL : Hid (zs.length = n) := hl
  clear hW1 hW1c hW1s hW1f hfl hfs hfz hget hnews hlen hg hc hl hs hz0 hz2
  go_enter Tryd.func51, Tryd.ntmps51
  go_wp2_with fail
  go_region_law (refine step_append_room rfl (.tmp 22) (.tmp 25) 38 rfl 52 i0 2 Tryd.underlying38 hi0 hz1 g 0 p cap (by simp [Act.eval, Act.put]) A m (cap - (p + 1)) news (by simp [Act.eval, Act.put, hm1]) s1.out hsrc.out s2.out (by omega) s3.out ?_; rw [← HW.out])
  go_wp2
  go_ret
  have e3 : p + m = n - 1 := by have := HN.out; omega
  obtain ⟨c2, b1, b2⟩ := HG.out
  refine ⟨by rw [e3]; rfl, own_of_cells hB b1 (by omega) hm b2 ?_ HC.out, HO.out⟩
  rw [flat_length, List.length_append, List.length_take, List.length_drop, HL.out]; omega

/-- The live ones are put anew. -/
theorem Obj.put {w w2 : World} {B sb bm : Nat} {v v' : Value} {L : Int} {ns : List Int} {ls ls' : List R} (h : Obj w B sb bm v L ns ls) (ho : Off (fun k => v.ownBlock = some k) w w2) (hr : w2.ownsRow B 52 2 v' ls'.length (flat ls'))
    (hv : ∀ k, v'.ownBlock = some k → v.ownBlock = some k ∨ w.heap.size ≤ k) (inv : Inv L ns ls') : Obj (w2.setCell ⟨sb, 2, none⟩ v') B sb bm v' L ns ls' := by
  have hsb := h.lt (k := sb) (.inl rfl)
  have hbm := h.lt (k := bm) (.inr (.inl rfl))
  have ns1 : ¬ v.ownBlock = some sb := fun e => (h.nv sb e).1 rfl
  have ns2 : ¬ v.ownBlock = some bm := fun e => (h.nv bm e).2 rfl
  have nv : ∀ k, v'.ownBlock = some k → k ≠ sb ∧ k ≠ bm := fun k hk => by
    rcases hv k hk with e | e
    · exact h.nv k e
    · exact ⟨by omega, by omega⟩
  have o2 : Off (fun k => k = sb) w2 (w2.setCell ⟨sb, 2, none⟩ v') := (Off.refl _ _).setCell (K := fun k => k = sb) rfl _
  obtain ⟨D, hD, hN⟩ := h.map
  refine ⟨inv, ?_, ?_, ?_, ?_, ⟨D, o2.map (ho.map hD ns2) h.ne, hN⟩, o2.row hr (fun k hk => (nv k hk).1), h.hs, h.hm, h.ne, nv⟩
  · rw [World.cell?_setCell_other _ _ _ _ (by simp)]; exact ho.cell h.c0 ns1
  · rw [World.cell?_setCell_other _ _ _ _ (by simp)]; exact ho.cell h.c1 ns1
  · exact World.cell?_setCell_same _ _ _ (ho.cell h.c2 ns1)
  · rw [World.frozen?_setCell]; exact (ho.frozen (p := ⟨sb, 2, none⟩) hsb ns1).trans h.f2
set_option maxRecDepth 100000 in
set_option maxHeartbeats 2000000 in
theorem retire_no {w : World} {B sb bm : Nat} {v : Value} {L : Int} {ns : List Int} {ls : List R} (h : Obj w B sb bm v L ns ls) (q : Int) (hl : isIn ls q = false) :
    Calls Tryd.prog 33 #[.pointer (some ⟨sb, 0, none⟩), .int .i64 q] w fun e w' => e = .returned (.iface 72 (.int .i64 5)) ∧ Below w.heap.size w w' := by
  have hcon := place_calls h q
  have hpos : pos ls q = -1 := by
    rcases pos_cases ls q with ⟨h1, _⟩ | ⟨_, h2⟩
    · rw [hl] at h1; cases h1
    · exact h2
  rw [hpos] at hcon
  clear hl hpos h
  go_enter Tryd.func33, Tryd.ntmps33
  go_wp2_with (go_at_call 50; refine hcon.mono ?_; rintro e w1 ⟨rfl, hb1⟩)
  go_ret
  exact ⟨rfl, hb1⟩
set_option maxRecDepth 100000 in
set_option maxHeartbeats 2000000 in
theorem retire_yes {w : World} {B sb bm : Nat} {v : Value} {L : Int} {ns : List Int} {ls : List R} (h : Obj w B sb bm v L ns ls) (q : Int) (hl : isIn ls q = true) :
    Calls Tryd.prog 33 #[.pointer (some ⟨sb, 0, none⟩), .int .i64 q] w fun e w' => e = .returned .nilIface ∧ ∃ v', Obj w' B sb bm v' L ns (gone ls q) ∧ Off (own sb bm v) w w' ∧ v'.ownBlock = v.ownBlock := by
  have hcon := place_calls h q
  obtain ⟨p, hp, hpos, hat⟩ : ∃ p : Nat, p < ls.length ∧ pos ls q = (p : Int) ∧ (at' ls p).1 = q := by
    rcases pos_cases ls q with ⟨_, h2⟩ | ⟨h1, _⟩
    · exact h2
    · rw [hl] at h1; cases h1
  rw [hpos] at hcon
  have hgone := gone_at ls p h.inv.rise hp hat
  have hO := h
  obtain ⟨g, cap, cur, ev, hBg, hgg, hnc, hm, hcs, _⟩ : ∃ g cap cur, v = .slice (some ⟨g, 0, none⟩) ls.length cap ∧ B ≤ g ∧ w.heap[g]? = some (.cells cur 52 (0, 0)) ∧ ls.length ≤ cap ∧ cap ≤ maxLen ∧ cur.size = cap * 2 ∧ True := by
    rcases h.row.2 with ⟨_, e⟩ | ⟨g, cap, cur, e, h1, h2, h3, h4, h5, _⟩
    · omega
    · exact ⟨g, cap, cur, e, h1, h2, h3, h4, h5, trivial⟩
  have hrow := h.row
  rw [ev] at hrow
  have hcl := cells_of_own hrow
  have hgl := (Array.getElem?_eq_some_iff.1 hgg).1
  have hsb := h.lt (k := sb) (.inl rfl)
  have hgs : g ≠ sb := (h.nv g (by rw [ev]; rfl)).1
  have hdel : ∀ w1, Below w.heap.size w w1 → Calls Tryd.prog 51 #[.slice (some ⟨g, 0, none⟩) ls.length cap, .int .i64 (p : Int), .int .i64 ((p : Int) + 1)] w1 fun e w' => e = .returned (.slice (some ⟨g, 0, none⟩) (ls.length - 1) cap) ∧ w'.ownsRow B 52 2 (.slice (some ⟨g, 0, none⟩) (ls.length - 1) cap) (ls.length - 1) (flat (ls.take p ++ ls.drop (p + 1))) ∧ Off (fun k => k = g) w1 w' := fun w1 hb =>
    delete_calls g ls.length cap p B cur ls w1 hBg ((hb.block g hgl).trans hgg) hnc hm hcs rfl (hcl.below hgl hb) hp
  rw [hgone] at hdel
  have hlen : (gone ls q).length = ls.length - 1 := by rw [← hgone, List.length_append, List.length_take, List.length_drop]; omega
  rw [ev] at hO
  have c2 := hO.c2
  have HP : Hid (p < ls.length) := hp
  have hm8 : ls.length ≤ 8 := by have := h.inv.full; have := h.inv.l8; omega
  have hp8 : (p : Int) ≤ 8 := by omega
  have HI : Hid (Inv L ns (gone ls q)) := h.inv.retire q
  rw [ev]
  clear hl hpos h hat hgone hcl hrow ev hm8 hp hgg hcs hm hnc
  have HL : Hid ((gone ls q).length = ls.length - 1) := hlen
  clear hlen
  generalize hn : ls.length = n at *
  clear hn
  go_enter Tryd.func33, Tryd.ntmps33
  go_wp2_with (first | (go_at_call 50; refine hcon.mono ?_; rintro e w1 ⟨rfl, hb1⟩; have k2 := (hb1.cell (p := ⟨sb, 2, none⟩) hsb).trans c2) | (go_at_call 51; refine (hdel w1 hb1).mono ?_; rintro e w2 ⟨rfl, hr2, ho2⟩; have m2 := ho2.cell k2 (fun e => hgs e.symm); have mf := (ho2.frozen (p := ⟨sb, 2, none⟩) (Nat.lt_of_lt_of_le hsb hb1.size) (fun e => hgs e.symm)).trans ((hb1.frozen (p := ⟨sb, 2, none⟩) hsb).trans hO.f2)))
  go_ret
  have ho3 : Off (fun k => (Value.slice (some ⟨g, 0, none⟩) n cap).ownBlock = some k) w w2 := (Off.of_below hb1).trans (ho2.mono (fun k _ e => by rw [e]; rfl))
  refine ⟨rfl, _, hO.put ho3 (by rw [HL.out]; exact hr2) (fun k hk => .inl hk) HI.out, ?_, rfl⟩
  exact (ho3.mono (fun k _ e => .inr (.inr e))).setCell (.inl rfl) _



theorem wf_name {n : Int} (h : nameB n = true) : (Lit.int .i64 n).wf = true := by
  obtain ⟨h0, h1⟩ := nameB_yes h
  exact WalkArith.wf_i64 (by omega)
set_option maxRecDepth 100000 in
set_option maxHeartbeats 2000000 in
theorem issue_range {w : World} {B sb bm : Nat} {v : Value} {L : Int} {ns : List Int} {ls : List R} (h : Obj w B sb bm v L ns ls) (n : Int) (hb : nameB n = false) : Calls Tryd.prog 25 #[.pointer (some ⟨sb, 0, none⟩), .int .i64 n] w fun e w' => e = .returned (.tuple #[.agg #[.int .i64 0, .int .i64 0], .iface 72 (.int .i64 1)]) ∧ Below w.heap.size w w' := by
  clear h
  go_enter Tryd.func25, Tryd.ntmps25
  go_wp2_with (go_at_call 43; refine (isName_calls n _).mono ?_; rintro e w1 ⟨rfl, rfl⟩; rw [hb])
  (try simp only [Exit.inBlock, Exit.then])
  refine bodyPost_ret (v := .tuple #[.agg #[.int .i64 0, .int .i64 0], .iface 72 (.int .i64 1)]) ?_ rfl ⟨rfl, ?_⟩
  · rw [results_cell_tmp rfl]; go_simp
  · repeat (first | exact Below.refl _ _ | assumption | (refine Below.alloc ?_ (by simp <;> omega) _) | (refine Below.setCell ?_ (by simp <;> omega) _))

set_option maxRecDepth 100000 in
set_option maxHeartbeats 2000000 in
theorem issue_clash {w : World} {B sb bm : Nat} {v : Value} {L : Int} {ns : List Int} {ls : List R} (h : Obj w B sb bm v L ns ls) (n : Int) (hb : nameB n = true) (hn : n ∈ ns) : Calls Tryd.prog 25 #[.pointer (some ⟨sb, 0, none⟩), .int .i64 n] w fun e w' => e = .returned (.tuple #[.agg #[.int .i64 0, .int .i64 0], .iface 72 (.int .i64 7)]) ∧ Below w.heap.size w w' := by
  have hs := h.lt (k := sb) (.inl rfl)
  obtain ⟨inv, c0, c1, c2, f2, ⟨D, hD, hN⟩, row, _⟩ := h
  have hh : Maps.has D (.int .i64 n) = true := by rw [hN.has]; simpa using hn
  have hkey := Maps.keyOf_int_mk Tryd.underlying3 (wf_name hb)
  have bel : Below w.heap.size w (w.alloc (.cells #[.int .i64 0, .int .i64 0] 52)) := (Below.refl _ _).alloc (Nat.le_refl _) _
  have c1' := (bel.cell (p := ⟨sb, 1, none⟩) hs).trans c1
  clear hn hN inv row c0 c2 f2
  go_enter Tryd.func25, Tryd.ntmps25
  go_wp2_with (first | (go_at_call 43; refine (isName_calls n _).mono ?_; rintro e w1 ⟨rfl, rfl⟩; rw [hb]) | (at_lookup; refine wpList_lookup_own_ok_int _ rfl _ _ 84 rfl 3 3 .i64 lawI Tryd.underlying84 Tryd.underlying3 (zeroI _) bm _ D rfl (hD.alloc _) _ _ rfl hkey ?_; intro c hat hwc))
  (try simp only [Exit.inBlock, Exit.then])
  refine bodyPost_ret (v := .tuple #[.agg #[.int .i64 0, .int .i64 0], .iface 72 (.int .i64 7)]) ?_ rfl ⟨rfl, ?_⟩
  · rw [results_cell_tmp rfl]; go_simp
  · repeat (first | exact Below.refl _ _ | assumption | (refine Below.alloc ?_ (by simp <;> omega) _) | (refine Below.setCell ?_ (by simp <;> omega) _))

set_option maxRecDepth 100000 in
set_option maxHeartbeats 2000000 in
theorem issue_full {w : World} {B sb bm : Nat} {v : Value} {L : Int} {ns : List Int} {ls : List R} (h : Obj w B sb bm v L ns ls) (n : Int) (hb : nameB n = true) (hn : n ∉ ns) (hf : fullB L ns ls = true) : Calls Tryd.prog 25 #[.pointer (some ⟨sb, 0, none⟩), .int .i64 n] w fun e w' => e = .returned (.tuple #[.agg #[.int .i64 0, .int .i64 0], .iface 72 (.int .i64 4)]) ∧ Below w.heap.size w w' := by
  have hs := h.lt (k := sb) (.inl rfl)
  have bel : Below w.heap.size w (w.alloc (.cells #[.int .i64 0, .int .i64 0] 52)) := (Below.refl _ _).alloc (Nat.le_refl _) _
  have hcon := isFull_calls (h.below bel)
  rw [hf] at hcon
  obtain ⟨inv, c0, c1, c2, f2, ⟨D, hD, hN⟩, row, _⟩ := h
  have hh : Maps.has D (.int .i64 n) = false := by rw [hN.has]; simpa using hn
  have hkey := Maps.keyOf_int_mk Tryd.underlying3 (wf_name hb)
  have c1' := (bel.cell (p := ⟨sb, 1, none⟩) hs).trans c1
  have hX := IdBox.new w 0 0 52
  clear hn hN inv row c0 c2 f2 hf
  go_enter Tryd.func25, Tryd.ntmps25
  go_wp2_with (first | (go_at_call 43; refine (isName_calls n _).mono ?_; rintro e w1 ⟨rfl, rfl⟩; rw [hb]) | (at_lookup; refine wpList_lookup_own_ok_int _ rfl _ _ 84 rfl 3 3 .i64 lawI Tryd.underlying84 Tryd.underlying3 (zeroI _) bm _ D rfl (hD.alloc _) _ _ rfl hkey ?_; intro c hat hwc) | (go_at_call 44; refine hcon.mono ?_; rintro e w1 ⟨rfl, hb1⟩; have hX1 := hX.below hb1; obtain ⟨xl, x0, x1, xf0, xf1⟩ := hX1))
  (try simp only [Exit.inBlock, Exit.then])
  refine bodyPost_ret (v := .tuple #[.agg #[.int .i64 0, .int .i64 0], .iface 72 (.int .i64 4)]) ?_ rfl ⟨rfl, ?_⟩
  · rw [results_cell_tmp rfl]; go_simp
  · have hb2 := bel.trans (hb1.mono bel.size)
    repeat (first | exact hb2 | (refine Below.setCell ?_ (by simp <;> omega) _))

theorem Inv.more {L : Int} {ns : List Int} {ls : List R} (h : Inv L ns ls) {n : Int} (hn : n ∉ ns) (hm : ns.length < 100) : Inv L (ns ++ [n]) ls := by
  refine ⟨h.l1, h.l8, by simp; omega, ?_, h.full, h.rise, fun x hx => ?_⟩
  · rw [List.nodup_append]
    refine ⟨h.nodup, by simp, ?_⟩
    intro a ha b hb
    have : b = n := by simpa using hb
    rintro rfl
    exact hn (this ▸ ha)
  · obtain ⟨j, h1, h2⟩ := h.was x hx
    have hj := (List.getElem?_eq_some_iff.1 h2).1
    exact ⟨j, h1, by rw [List.getElem?_append_left hj]; exact h2⟩
theorem Obj.name {w w1 : World} {B sb bm : Nat} {v : Value} {L : Int} {ns ns' : List Int} {ls : List R} {D : DataW Unit} (h : Obj w B sb bm v L ns ls) (ho : Off (fun k => k = bm) w w1) (hD : w1.ownsMap Tryd.prog 3 (plainElem Tryd.prog 3) bm ns'.length D) (hN : Names D ns') (inv : Inv L ns' ls) : Obj w1 B sb bm v L ns' ls := by
  have hsb := h.lt (k := sb) (.inl rfl)
  have e : ¬ sb = bm := fun e => h.ne e.symm
  exact ⟨inv, ho.cell h.c0 e, ho.cell h.c1 e, ho.cell h.c2 e, (ho.frozen (p := ⟨sb, 2, none⟩) hsb e).trans h.f2, ⟨D, hD, hN⟩, ho.row h.row (fun k hk => (h.nv k hk).2), h.hs, h.hm, h.ne, h.nv⟩
/-- append onto a slice of the caller's own, as one step of a region that draws. -/
theorem step_append_own {P : Program} {ops : Array Oper} {o : Oper} {a : Act} {w : World} {K : Act → World → Prop} {Q : Exit → Act → World → Prop} {E : Prop}
    (hg : o.guard = none) (s x : Operand) (t : TypeId) (hop : o.op = Op.call { callee := Callee.builtin Builtin.append, args := #[s, x], argTypes := #[t, t] })
    (base : Nat) (e : TypeId) (i : TypeInfo) (z : Value) (size bytes : Nat) (h1 : P.underlying t = some (.slice e)) (h2 : P.info? e = some i) (h3 : i.zero = some z) (h4 : i.size = size) (h5 : i.bytes = bytes) (h6 : z.cells.size = size) (h7 : 0 < size)
    (v : Value) (n : Nat) (xs : List Value) (hs : a.eval s = v) (hown : w.ownsRow base e size v n xs)
    (ad : Addr) (m c : Nat) (news : List Value) (hx : a.eval x = .slice (some ad) m c) (hn : news.length = m * size) (hc : ∀ j u, news[j]? = some u → w.cell? (ad.add j) = some u) (h1c : ∀ u ∈ news, u.oneCell' = true)
    (b1 : n + m ≤ maxLen) (b2 : (n + m) * bytes ≤ 140737488355328) (hbase : base ≤ w.heap.size)
    (hK : ∀ v' w', w'.ownsRow base e size v' (n + m) (xs ++ news) → w.grownBy w' v.ownBlock → (v'.ownBlock = v.ownBlock ∨ v'.ownBlock = some w.heap.size) → K (a.put o.dst v') w') :
    if Region.wanted o (yielded ops a.tmps) = true then Oper.wp P o a w K Q else E := by
  have hw : Region.wanted o (yielded ops a.tmps) = true := by simp [Region.wanted, hg]
  rw [if_pos hw]
  obtain ⟨v', w', hrun, r1, r2, _, r4⟩ := run_append_own_at (P := P) w base t o.type e i z size bytes h1 h2 h3 h4 h5 h6 h7 v n xs hown ad m c news hn hc h1c b1 b2 hbase
  unfold Oper.wp
  simp [execOp, hop, resolve, invoke, builtin, hs, hx, hrun, Result.andThen]
  exact hK v' w' r1 r2 r4
theorem own_shape {w : World} {B e size n : Nat} {v : Value} {xs : List Value} (h : w.ownsRow B e size v n xs) (h0 : 0 < n) : ∃ g cap, v = .slice (some ⟨g, 0, none⟩) n cap := by
  rcases h.2 with ⟨_, e⟩ | ⟨g, cap, cur, e, _⟩
  · omega
  · exact ⟨g, cap, e⟩
theorem cells_two_new (w : World) (q n : Int) (t : TypeId) : ∀ j u, (flat [(q, n)])[j]? = some u → (w.alloc (.cells #[.int .i64 q, .int .i64 n] t)).cell? ((⟨w.heap.size, 0, none⟩ : Addr).add j) = some u := by
  intro j u hj
  match j, hj with
  | 0, hj => simp [flat, encR] at hj; subst hj; simp [Addr.add]
  | 1, hj => simp [flat, encR] at hj; subst hj; simp [Addr.add]
  | j + 2, hj => simp [flat, encR] at hj

set_option maxRecDepth 100000 in
set_option maxHeartbeats 2000000 in
theorem issue_yes {w : World} {B sb bm : Nat} {v : Value} {L : Int} {ns : List Int} {ls : List R} (h : Obj w B sb bm v L ns ls) (n : Int) (hb : nameB n = true) (hn : n ∉ ns) (hf : fullB L ns ls = false) : Calls Tryd.prog 25 #[.pointer (some ⟨sb, 0, none⟩), .int .i64 n] w fun e w' => e = .returned (.tuple #[.agg #[.int .i64 (ns.length : Int), .int .i64 n], .nilIface]) ∧ ∃ v', Obj w' B sb bm v' L (ns ++ [n]) (ls ++ [((ns.length : Int), n)]) ∧ Off (own sb bm v) w w' ∧ (v'.ownBlock = v.ownBlock ∨ ∃ k, v'.ownBlock = some k ∧ w.heap.size ≤ k) := by
  have hs := h.lt (k := sb) (.inl rfl)
  have hO := h
  have bel : Below w.heap.size w (w.alloc (.cells #[.int .i64 0, .int .i64 0] 52)) := (Below.refl _ _).alloc (Nat.le_refl _) _
  have hcon := isFull_calls (h.below bel)
  rw [hf] at hcon
  have hroom : (ls.length : Int) < L ∧ ns.length < 100 := by simp [fullB] at hf; omega
  obtain ⟨inv, c0, c1, c2, f2, ⟨D, hD, hN⟩, row, _⟩ := h
  have hh : Maps.has D (.int .i64 n) = false := by rw [hN.has]; simpa using hn
  have hkey := Maps.keyOf_int_mk Tryd.underlying3 (wf_name hb)
  have c1' := (bel.cell (p := ⟨sb, 1, none⟩) hs).trans c1
  have hX := IdBox.new w 0 0 52
  have hT := hD.tidy lawI
  go_enter Tryd.func25, Tryd.ntmps25
  go_wp2_with (first | (go_at_call 43; refine (isName_calls n _).mono ?_; rintro e w1 ⟨rfl, rfl⟩; rw [hb]) | (at_lookup; refine wpList_lookup_own_ok_int _ rfl _ _ 84 rfl 3 3 .i64 lawI Tryd.underlying84 Tryd.underlying3 (zeroI _) bm _ D rfl (hD.alloc _) _ _ rfl hkey ?_; intro c hat hwc) | (go_at_call 44; refine hcon.mono ?_; rintro e w1 ⟨rfl, hb1⟩; have hb2 := bel.trans (hb1.mono bel.size); have hX1 := hX.below hb1; have hO1 := hO.below hb2; have k1 := hO1.c1) | (at_len; refine wpList_len_own _ rfl _ 84 rfl 3 3 Tryd.underlying84 _ bm _ D rfl ((Off.of_below (K := fun _ => False) hb2).map hD id) ?_; rw [hN.size]))
  have hY1 : IdBox (w1.alloc (.cells #[.int .i64 (ns.length : Int), .int .i64 n] 52)) w1.heap.size (ns.length : Int) n := IdBox.new _ _ _ _
  have ba : Below w1.heap.size w1 (w1.alloc (.cells #[.int .i64 (ns.length : Int), .int .i64 n] 52)) := (Below.refl _ _).alloc (Nat.le_refl _) _
  have hX2 := hX1.below ba
  have hO2 := hO1.below ba
  have hb3 := hb2.trans (ba.mono hb2.size)
  have hXY : w.heap.size < w1.heap.size := hX1.lt
  generalize w1.heap.size = Y at hY1 hXY ⊢
  generalize w1.alloc (.cells #[.int .i64 (ns.length : Int), .int .i64 n] 52) = W at hY1 hX2 hO2 hb3 ⊢
  have hD2 := (Off.of_below (K := fun _ => False) hb3).map hD id
  have hXo : ∀ k, own sb bm v k → k < w.heap.size := fun k hk => hO.lt hk
  have hlen : ns.length < 100 := hroom.2
  have hmany : ls.length ≤ 8 := by have := inv.full; have := inv.l8; omega
  have INV1 : Hid (Inv L (ns ++ [n]) ls) := inv.more hn hlen
  have INV2 : Hid (Inv L (ns ++ [n]) (ls ++ [((ns.length : Int), n)])) := inv.issue hn hroom.1 hlen
  have NAM : Hid (Names (D.put (.int .i64 n) (.lit (.int .i64 (ns.length : Int)))) (ns ++ [n])) := hN.put hT hn
  have NSL : Hid ((ns ++ [n]).length = ns.length + 1) := by show (ns ++ [n]).length = ns.length + 1; simp
  have LSL : Hid ((ls ++ [((ns.length : Int), n)]).length = ls.length + 1) := by show (ls ++ [((ns.length : Int), n)]).length = ls.length + 1; simp
  have FL : Hid (flat (ls ++ [((ns.length : Int), n)]) = flat ls ++ flat [((ns.length : Int), n)]) := flat_append _ _
  have hle := hO.le
  obtain ⟨a, cap, rfl⟩ : ∃ a cap, v = .slice a ls.length cap := by
    rcases row.2 with ⟨rfl, e⟩ | ⟨g, cap, cur, rfl, _⟩
    · exact ⟨none, 0, by rw [e]⟩
    · exact ⟨_, _, rfl⟩
  clear hcon hh hN hT hat hwc hb1 hX1 hO1 k1 hb2 ba hX hD hO bel c1' inv row c0 c1 c2 f2 hn hf hroom hs
  obtain ⟨w2, hrun, hm2, ht2⟩ := World.ownsMap.store (w := W.drew) hD2.drew lawI Tryd.underlying84 (by unfold maxLen; omega) hkey (plainElem_int Tryd.underlying3 (WalkArith.wf_i64 (n := (ns.length : Int)) (by omega)))
  have O2 : Off (fun k => k = bm) W w2 := (Off.refl _ W).drew.trans (Off.of_grown ht2.grown (fun k e => (Option.some.inj e).symm))
  have hO3 := hO2.name O2 (by rw [NSL.out]; exact hm2) NAM.out INV1.out
  have hbw : bm < w.heap.size := hXo bm (.inr (.inl rfl))
  have hsw : sb < w.heap.size := hXo sb (.inl rfl)
  have hX3 := hX2.off O2 (by omega)
  have hY3 := hY1.off O2 (by omega)
  have cM := hO2.c1
  have cY := hY1.c0
  have HO2 : Hid (Obj W B sb bm (.slice a ls.length cap) L ns ls) := hO2
  have HY1 : Hid (IdBox W Y (ns.length : Int) n) := hY1
  have HB3 : Hid (Below w.heap.size w W) := hb3
  clear hO2 hY1 hX2 hb3 hm2 ht2 hD2
  go_region
  all_goals clear hrun cM cY
  all_goals go_wp2_with fail
  have c2 := hO3.c2
  have c2a := (((Below.refl w2.heap.size w2).alloc (Nat.le_refl _) (.cells #[.int .i64 (ns.length : Int), .int .i64 n] 52)).cell (p := ⟨sb, 2, none⟩) (hO3.lt (.inl rfl))).trans c2
  have y0 := hY3.c0
  have y1 := hY3.c1
  have hrow : (w2.drew.alloc (.cells #[.int .i64 (ns.length : Int), .int .i64 n] 52)).ownsRow B 52 2 (.slice a ls.length cap) ls.length (flat ls) := own_below (w := w2) hO3.row ((Below.refl w2.heap.size w2).drew.alloc (Nat.le_refl _) _)
  have bd : Below w2.heap.size w2 (w2.drew.alloc (.cells #[.int .i64 (ns.length : Int), .int .i64 n] 52)) := (Below.refl w2.heap.size w2).drew.alloc (Nat.le_refl _) _
  have hO3d := hO3.below bd
  obtain ⟨i0, hi0, hz0, hz1, hz2⟩ := info_parts infoR
  go_region_law (refine step_append_own rfl (.tmp 48) (.tmp 50) 38 rfl B 52 i0 _ 2 16 Tryd.underlying38 hi0 hz0 hz1 hz2 rfl (by decide) (.slice a ls.length cap) ls.length (flat ls) (by simp [Act.eval, Act.put]) hrow ⟨w2.heap.size, 0, none⟩ 1 1 (flat [((ns.length : Int), n)]) (by simp [Act.eval, Act.put]) rfl (cells_two_new w2.drew _ _ _) (fun u hu => flat_one u hu) (by unfold maxLen; omega) (by omega) hO3d.le ?_; intro v' w3 ho3 hg3 hl3; obtain ⟨g3, cap3, rfl⟩ := own_shape ho3 (by omega); have og := Off.of_grown (K := fun k => (Value.slice a ls.length cap).ownBlock = some k) hg3 (fun k e => e); have d2 := og.cell hO3d.c2 (fun e => (hO3d.nv sb e).1 rfl); have df := (og.frozen (p := ⟨sb, 2, none⟩) (hO3d.lt (.inl rfl)) (fun e => (hO3d.nv sb e).1 rfl)).trans hO3d.f2)
  all_goals
    have og2 : Off (fun k => (Value.slice a ls.length cap).ownBlock = some k) w2 w3 := (Off.of_below bd).trans og
    have hnew : (Value.slice (some ⟨g3, 0, none⟩) (ls.length + 1) cap3).ownBlock = (Value.slice a ls.length cap).ownBlock ∨ w2.heap.size ≤ g3 := hl3.imp id (fun e => by injection e with e; have e : g3 = _ := e; rw [e]; exact bd.size)
    have hP := hO3.put og2 (v' := .slice (some ⟨g3, 0, none⟩) (ls.length + 1) cap3) (by rw [LSL.out, FL.out]; exact ho3) (fun k hk => by
      rcases hnew with e | e
      · exact .inl (e.symm.trans hk)
      · right; injection hk with hk; have hk : g3 = k := hk; omega) INV2.out
    have oS : Off (own sb bm (.slice a ls.length cap)) w2 (w3.setCell ⟨sb, 2, none⟩ (.slice (some ⟨g3, 0, none⟩) (ls.length + 1) cap3)) := (og2.mono (fun k _ e => .inr (.inr e))).setCell (.inl rfl) _
    have hX5 := hX3.off oS (fun e => by have := hXo _ e; omega)
    have hY5 := hY3.off oS (fun e => by have := hXo _ e; omega)
    have oW : Off (own sb bm (.slice a ls.length cap)) w (w3.setCell ⟨sb, 2, none⟩ (.slice (some ⟨g3, 0, none⟩) (ls.length + 1) cap3)) := ((Off.of_below HB3.out).trans (O2.mono (fun k _ e => .inr (.inl e)))).trans oS
    have hsz : w.heap.size < w2.heap.size := hX3.lt
    have hnewk : ∀ k, own sb bm (.slice (some ⟨g3, 0, none⟩) (ls.length + 1) cap3) k → k ≠ w.heap.size := fun k hk => by
      rcases hk with rfl | rfl | hk
      · omega
      · omega
      · rcases hnew with e | e
        · have := hXo k (.inr (.inr (e.symm.trans hk))); omega
        · injection hk with hk; have hk : g3 = k := hk; omega
    have hnew2 : (Value.slice (some ⟨g3, 0, none⟩) (ls.length + 1) cap3).ownBlock = (Value.slice a ls.length cap).ownBlock ∨ ∃ k, (Value.slice (some ⟨g3, 0, none⟩) (ls.length + 1) cap3).ownBlock = some k ∧ w.heap.size ≤ k := hnew.imp id (fun e => ⟨g3, rfl, by omega⟩)
    clear c2 c2a y0 y1 hrow bd hO3d hg3 ho3 hl3 og d2 df hX3 hY3 oS og2 hnew hO3 O2
    generalize w3.setCell ⟨sb, 2, none⟩ (.slice (some ⟨g3, 0, none⟩) (ls.length + 1) cap3) = W4 at hP hX5 hY5 oW ⊢
    have hX6 := hX5.set (ns.length : Int) n
    obtain ⟨xl, x0, x1, xf0, xf1⟩ := hX5
    obtain ⟨yl, y0, y1, yf0, yf1⟩ := hY5
    go_wp2
    (try simp only [Exit.inBlock, Exit.then])
    refine bodyPost_ret (v := .tuple #[.agg #[.int .i64 (ns.length : Int), .int .i64 n], .nilIface]) ?_ rfl ⟨rfl, ?_⟩
    · rw [results_cell_tmp rfl]; go_simp
    · refine ⟨_, hP.off (K := fun k => k = w.heap.size) (((Off.refl _ _).setCell (K := fun k => k = w.heap.size) rfl _).setCell (K := fun k => k = w.heap.size) rfl _) hnewk, (oW.setNew (Nat.le_refl _) _).setNew (Nat.le_refl _) _, hnew2⟩
end Go.Proofs.YtpnblfabdioanaaDoor.Ix
