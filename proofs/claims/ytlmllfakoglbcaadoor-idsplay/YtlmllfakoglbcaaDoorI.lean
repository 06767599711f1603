/- The document's Retire and Issue; whether two lists of IDs are the same, as the law's own comparison answers. -/
import Derived.Test.YtlmllfakoglbcaaDoorH
namespace Go.Proofs.YtlmllfakoglbcaaDoor
open Go.RowKit Go.Lib Go.Sort Go.Shelf
set_option linter.unusedVariables false
set_option linter.unusedSimpArgs false

theorem lv_isIn {ns : List Int} {gs : List Bool} (hl : gs.length = ns.length) (q : Int) : isIn (lv 0 ns gs) q = true ↔ ∃ j : Nat, q = (j : Int) ∧ j < ns.length ∧ bat gs j = false := by
  constructor
  · intro h
    obtain ⟨x, hx, e⟩ := isIn_yes h
    obtain ⟨j, h1, h2, h3⟩ := lv_mem ns gs 0 x hx
    rw [Nat.zero_add] at h1
    exact ⟨j, by omega, (List.getElem?_eq_some_iff.1 h3).1, by simp [bat, h2]⟩
  · rintro ⟨j, rfl, hj, hb⟩
    have := lv_of ns gs 0 j (iat ns j) (by rw [bat_get (by omega), hb]) (iat_get hj)
    rw [Nat.zero_add] at this
    simp only [isIn, List.any_eq_true]
    exact ⟨_, this, by simp⟩
set_option maxRecDepth 100000 in
set_option maxHeartbeats 2000000 in
theorem rretire_a {w : World} {B mb : Nat} {va vg : Value} {L : Int} {ns : List Int} {gs : List Bool} (h : Ref w B mb va vg L ns gs) (hl : gs.length = ns.length) (hmany : ns.length ≤ 100) (q : Int) (g1 : q < 0) : Calls Tryd.prog 12 #[.pointer (some ⟨mb, 0, none⟩), .int .i64 q] w fun e w' => e = .returned (.int .i64 5) ∧ Below w.heap.size w w' := by
  clear h
  go_enter Tryd.func12, Tryd.ntmps12
  go_wp2_with fail
  go_ret
  exact ⟨rfl, Below.refl _ _⟩
set_option maxRecDepth 100000 in
set_option maxHeartbeats 2000000 in
theorem rretire_b {w : World} {B mb : Nat} {va vg : Value} {L : Int} {ns : List Int} {gs : List Bool} (h : Ref w B mb va vg L ns gs) (hl : gs.length = ns.length) (hmany : ns.length ≤ 100) (q : Int) (g0 : 0 ≤ q) (g1 : (ns.length : Int) ≤ q) : Calls Tryd.prog 12 #[.pointer (some ⟨mb, 0, none⟩), .int .i64 q] w fun e w' => e = .returned (.int .i64 5) ∧ Below w.heap.size w w' := by
  obtain ⟨⟨a, ca, rfl⟩, ⟨g, cg, rfl⟩⟩ := h.shapes
  have hmb := h.lt (k := mb) (.inl rfl)
  have HL : Hid (gs.length = ns.length) := hl
  have HR : Hid (Ref w B mb (.slice a ns.length ca) (.slice g gs.length cg) L ns gs) := h
  have c1 := h.c1
  clear h hl
  go_enter Tryd.func12, Tryd.ntmps12
  go_wp2_with fail
  go_ret
  exact ⟨rfl, Below.refl _ _⟩
set_option maxRecDepth 100000 in
set_option maxHeartbeats 2000000 in
theorem rretire_c {w : World} {B mb : Nat} {va vg : Value} {L : Int} {ns : List Int} {gs : List Bool} (h : Ref w B mb va vg L ns gs) (hl : gs.length = ns.length) (hmany : ns.length ≤ 100) (j : Nat) (g1 : j < ns.length) (g2 : bat gs j = true) : Calls Tryd.prog 12 #[.pointer (some ⟨mb, 0, none⟩), .int .i64 (j : Int)] w fun e w' => e = .returned (.int .i64 5) ∧ Below w.heap.size w w' := by
  obtain ⟨⟨a, ca, rfl⟩, ⟨g, cg, rfl⟩⟩ := h.shapes
  have hmb := h.lt (k := mb) (.inl rfl)
  have HL : Hid (gs.length = ns.length) := hl
  have HR : Hid (Ref w B mb (.slice a ns.length ca) (.slice g gs.length cg) L ns gs) := h
  have c1 := h.c1
  have c2 := h.c2
  obtain ⟨ka, kg, rfl, rfl, hka, hkg, hca, hcg⟩ := h.rows hl (by omega)
  have x2 := (hcg j g1).1
  rw [g2] at x2
  have i1 : (j : Int) < (ns.length : Int) := by omega
  have i2 : (j : Int) < (gs.length : Int) := by omega
  have i3 : decide ((ns.length : Int) ≤ (j : Int)) = false := decide_eq_false (by omega)
  have i4 : gs.length ≤ 100 := by omega
  clear h hl hca hcg g2
  go_enter Tryd.func12, Tryd.ntmps12
  go_wp2_with fail
  go_ret
  exact ⟨rfl, Below.refl _ _⟩
theorem rretire_no {w : World} {B mb : Nat} {va vg : Value} {L : Int} {ns : List Int} {gs : List Bool} (h : Ref w B mb va vg L ns gs) (hl : gs.length = ns.length) (hmany : ns.length ≤ 100) (q : Int) (hn : isIn (lv 0 ns gs) q = false) : Calls Tryd.prog 12 #[.pointer (some ⟨mb, 0, none⟩), .int .i64 q] w fun e w' => e = .returned (.int .i64 5) ∧ Below w.heap.size w w' := by
  by_cases g0 : q < 0
  · exact rretire_a h hl hmany q g0
  · by_cases g1 : (ns.length : Int) ≤ q
    · exact rretire_b h hl hmany q (by omega) g1
    · obtain ⟨j, rfl⟩ : ∃ j : Nat, q = (j : Int) := ⟨q.toNat, by omega⟩
      refine rretire_c h hl hmany j (by omega) ?_
      cases hb : bat gs j with
      | true => rfl
      | false => rw [(lv_isIn hl (j : Int)).2 ⟨j, rfl, by omega, hb⟩] at hn; cases hn
theorem own_set1 {w : World} {B e kg n cap : Nat} {gs : List Bool} {j : Nat} (h : w.ownsRow B e 1 (.slice (some ⟨kg, 0, none⟩) n cap) n (bools gs)) (hj : j < gs.length) : (w.setCell ⟨kg, j, none⟩ (.bool true)).ownsRow B e 1 (.slice (some ⟨kg, 0, none⟩) n cap) n (bools (gs.set j true)) := by
  have hn : gs.length = n := by have := h.1; rw [bools_length] at this; omega
  rcases h.2 with ⟨e0, _⟩ | ⟨g', cap', cur, e0, hB, hg, hnc, hm, hs, ht⟩
  · cases e0
  injection e0 with e1 e2 e3
  injection e1 with e1
  injection e1 with e1
  subst e1; subst e3
  obtain ⟨cur', h1, h2⟩ := heap_setCells (g := kg) (e := e) [.bool true] j w cur hg
  have h1 : (w.setCell ⟨kg, j, none⟩ (.bool true)).heap[kg]? = some (.cells cur' e (0, 0)) := h1
  refine ⟨by simp [bools, hn], .inr ⟨kg, cap, cur', rfl, hB, h1, hnc, hm, by rw [h2, hs], ?_⟩⟩
  refine List.ext_getElem? fun t => ?_
  by_cases htn : t < n * 1
  · rw [List.getElem?_take_of_lt htn]
    have c1 : (w.setCell ⟨kg, j, none⟩ (.bool true)).cell? ⟨kg, t, none⟩ = cur'[t]? := by simp [World.cell?, h1]
    have c0 : w.cell? ⟨kg, t, none⟩ = some (.bool (bat gs t)) := by
      have := h.cells (g := kg) rfl t _ (bools_get (by omega))
      rw [Addr.add_lit, Nat.zero_add] at this
      exact this
    have e1 : cur'.toList[t]? = cur'[t]? := by simp
    rw [e1, ← c1]
    by_cases e : t = j
    · subst e
      rw [World.cell?_setCell_same _ _ _ c0]
      simp [bools, hj]
    · rw [World.cell?_setCell_other _ _ _ _ (by intro e'; injection e' with _ e' _; omega), c0]
      have e2 : (gs.set j true)[t]? = gs[t]? := by rw [List.getElem?_set_ne (by omega)]
      show _ = (List.map Value.bool (gs.set j true))[t]?
      rw [List.getElem?_map, e2, bat_get (by omega)]
      rfl
  · rw [List.getElem?_eq_none (by simp; omega), List.getElem?_eq_none (by simp [bools]; omega)]
set_option maxRecDepth 100000 in
set_option maxHeartbeats 2000000 in
theorem rretire_yes {w : World} {B mb : Nat} {va vg : Value} {L : Int} {ns : List Int} {gs : List Bool} (h : Ref w B mb va vg L ns gs) (hl : gs.length = ns.length) (hmany : ns.length ≤ 100) (j : Nat) (g1 : j < ns.length) (g2 : bat gs j = false) : Calls Tryd.prog 12 #[.pointer (some ⟨mb, 0, none⟩), .int .i64 (j : Int)] w fun e w' => e = .returned (.int .i64 0) ∧ Ref w' B mb va vg L ns (gs.set j true) ∧ Off (rown mb va vg) w w' := by
  obtain ⟨⟨a, ca, rfl⟩, ⟨g, cg, rfl⟩⟩ := h.shapes
  have hmb := h.lt (k := mb) (.inl rfl)
  have HL : Hid (gs.length = ns.length) := hl
  have HR : Hid (Ref w B mb (.slice a ns.length ca) (.slice g gs.length cg) L ns gs) := h
  have c1 := h.c1
  have c2 := h.c2
  obtain ⟨ka, kg, rfl, rfl, hka, hkg, hca, hcg⟩ := h.rows hl (by omega)
  have x2 := (hcg j g1).1
  have f2 := (hcg j g1).2
  rw [g2] at x2
  have i1 : (j : Int) < (ns.length : Int) := by omega
  have i2 : (j : Int) < (gs.length : Int) := by omega
  have i3 : decide ((ns.length : Int) ≤ (j : Int)) = false := decide_eq_false (by omega)
  have i4 : gs.length ≤ 100 := by omega
  have o1 : Off (fun k => k = kg) w (w.setCell ⟨kg, j, none⟩ (.bool true)) := (Off.refl _ w).setCell (K := fun k => k = kg) rfl _
  have km : kg ≠ mb := h.ng kg rfl
  have kk : ka ≠ kg := fun e => (h.na ka rfl).2 (by rw [e]; rfl)
  have hset : (gs.set j true).length = gs.length := by simp
  have HF : Hid (Ref (w.setCell ⟨kg, j, none⟩ (.bool true)) B mb (.slice (some ⟨ka, 0, none⟩) ns.length ca) (.slice (some ⟨kg, 0, none⟩) gs.length cg) L ns (gs.set j true)) := by
    have e1 : ¬ mb = kg := fun e => km e.symm
    exact ⟨o1.cell h.c0 e1, o1.cell h.c1 e1, o1.cell h.c2 e1, (o1.frozen (p := ⟨mb, 1, none⟩) hmb e1).trans h.f1, (o1.frozen (p := ⟨mb, 2, none⟩) hmb e1).trans h.f2,
      o1.row h.all (fun k e e' => kk (by have : ka = k := Option.some.inj e; omega)), by rw [hset]; exact own_set1 h.gone (by omega), h.hm, h.na, h.ng⟩
  have HO : Hid (Off (rown mb (.slice (some ⟨ka, 0, none⟩) ns.length ca) (.slice (some ⟨kg, 0, none⟩) gs.length cg)) w (w.setCell ⟨kg, j, none⟩ (.bool true))) := o1.mono (fun k _ e => .inr (.inr (by rw [e]; rfl)))
  clear h hl hca hcg g2 o1 hset
  go_enter Tryd.func12, Tryd.ntmps12
  go_wp2_with fail
  go_ret
  exact ⟨rfl, HF.out, HO.out⟩

set_option maxRecDepth 100000 in
set_option maxHeartbeats 2000000 in
/-- Two slices that hold the same IDs. -/
theorem sameI_calls {w : World} {B1 B2 : Nat} {u1 u2 : Value} {zs : List R} (h1 : w.ownsRow B1 29 2 u1 zs.length (flat zs)) (h2 : w.ownsRow B2 29 2 u2 zs.length (flat zs)) (hm : zs.length ≤ 100) :
    Calls Tryd.prog 15 #[u1, u2] w fun e w' => e = .returned (.bool true) ∧ Below w.heap.size w w' := by
  have S1 : ∃ a c, u1 = .slice a zs.length c ∧ Hid (0 < zs.length → ∃ k, a = some ⟨k, 0, none⟩ ∧ k < w.heap.size ∧ Cells w k 0 zs) := by
    rcases h1.2 with ⟨rfl, e⟩ | ⟨g, cap, cur, rfl, _⟩
    · exact ⟨none, 0, by rw [e], fun h => by omega⟩
    · exact ⟨_, _, rfl, fun h => ⟨g, rfl, (h1.lt g rfl).2, cells_of_own h1⟩⟩
  have S2 : ∃ a c, u2 = .slice a zs.length c ∧ Hid (0 < zs.length → ∃ k, a = some ⟨k, 0, none⟩ ∧ k < w.heap.size ∧ Cells w k 0 zs) := by
    rcases h2.2 with ⟨rfl, e⟩ | ⟨g, cap, cur, rfl, _⟩
    · exact ⟨none, 0, by rw [e], fun h => by omega⟩
    · exact ⟨_, _, rfl, fun h => ⟨g, rfl, (h2.lt g rfl).2, cells_of_own h2⟩⟩
  obtain ⟨a1, c1, rfl, A1⟩ := S1
  obtain ⟨a2, c2, rfl, A2⟩ := S2
  clear h1 h2
  have neq := neqI_same
  have gdi := guardI
  go_enter Tryd.func15, Tryd.ntmps15
  go_wp2_with fail
  go_loopw [5] (fun i wr => ∃ k : Nat, k ≤ zs.length ∧ i = .int .i64 k ∧ Below w.heap.size w wr) (fun i _ => zs.length - (intOf i).toNat)
  case atStart => exact ⟨0, Nat.zero_le _, rfl, Below.refl _ _⟩
  case round =>
    obtain ⟨k, hk, rfl, hB⟩ := hrel
    by_cases q1 : (k : Int) < (zs.length : Int)
    · obtain ⟨k1, rfl, hk1, hc1⟩ := A1.out (by omega)
      obtain ⟨k2, rfl, hk2, hc2⟩ := A2.out (by omega)
      have y1 := (hc1.below hk1 ⟨hB.os, hB.tape, hB.output, hB.size, hB.block⟩) k (by omega)
      have y2 := (hc2.below hk2 ⟨hB.os, hB.tape, hB.output, hB.size, hB.block⟩) k (by omega)
      rw [Nat.zero_add] at y1 y2
      obtain ⟨y10, y11⟩ := y1
      obtain ⟨y20, y21⟩ := y2
      have hBq := fun q => below_drewN hB q
      go_wp2_with fail
      go_quiet (fail)
      go_wp2_with fail
      exact ⟨⟨k + 1, by omega, by go_num, hBq _⟩, by simp [intOf]; omega⟩
    · go_wp2_with fail
      go_ret
      exact ⟨rfl, hB⟩

set_option maxRecDepth 100000 in
set_option maxHeartbeats 2000000 in
theorem rissue_range {w : World} {B mb : Nat} {va vg : Value} {L : Int} {ns : List Int} {gs : List Bool} (h : Ref w B mb va vg L ns gs) (hl : gs.length = ns.length) (hmany : ns.length ≤ 100) (n : Int) (hb : nameB n = false) : Calls Tryd.prog 14 #[.pointer (some ⟨mb, 0, none⟩), .int .i64 n] w fun e w' => e = .returned (.tuple #[.agg #[.int .i64 0, .int .i64 0], .int .i64 1]) ∧ Below w.heap.size w w' := by
  clear h
  go_enter Tryd.func14, Tryd.ntmps14
  go_wp2_with (go_at_call 23; refine (may_calls n _).mono ?_; rintro e w1 ⟨rfl, rfl⟩; rw [hb])
  (try simp only [Exit.inBlock, Exit.then])
  refine bodyPost_ret (v := .tuple #[.agg #[.int .i64 0, .int .i64 0], .int .i64 1]) ?_ rfl ⟨rfl, ?_⟩
  · rw [results_cell_tmp rfl]; go_simp
  · repeat (first | exact Below.refl _ _ | assumption | (refine Below.alloc ?_ (by simp <;> omega) _) | (refine Below.setCell ?_ (by simp <;> omega) _))

set_option maxRecDepth 100000 in
set_option maxHeartbeats 2000000 in
theorem rissue_clash {w : World} {B mb : Nat} {va vg : Value} {L : Int} {ns : List Int} {gs : List Bool} (h : Ref w B mb va vg L ns gs) (hl : gs.length = ns.length) (hmany : ns.length ≤ 100) (n : Int) (hb : nameB n = true) (hn : n ∈ ns) : Calls Tryd.prog 14 #[.pointer (some ⟨mb, 0, none⟩), .int .i64 n] w fun e w' => e = .returned (.tuple #[.agg #[.int .i64 0, .int .i64 0], .int .i64 7]) ∧ Below w.heap.size w w' := by
  obtain ⟨p, hp, hpn⟩ : ∃ p, p < ns.length ∧ iat ns p = n := by
    obtain ⟨p, hp, e⟩ := List.getElem_of_mem hn
    exact ⟨p, hp, by simp [iat, hp, e]⟩
  have HP : Hid (iat ns p = n) := hpn
  obtain ⟨⟨a, ca, rfl⟩, ⟨g, cg, rfl⟩⟩ := h.shapes
  have hmb := h.lt (k := mb) (.inl rfl)
  have HL : Hid (gs.length = ns.length) := hl
  have HR : Hid (Ref w B mb (.slice a ns.length ca) (.slice g gs.length cg) L ns gs) := h
  obtain ⟨ka, kg, rfl, rfl, hka, hkg, hca, hcg⟩ := h.rows hl (by omega)
  have bel : Below w.heap.size w (w.alloc (.cells #[.int .i64 0, .int .i64 0] 29)) := (Below.refl _ _).alloc (Nat.le_refl _) _
  have c1 := (bel.cell (p := ⟨mb, 1, none⟩) hmb).trans h.c1
  have hx : Hid (∀ j, j < ns.length → (w.alloc (.cells #[.int .i64 0, .int .i64 0] 29)).cell? ⟨ka, j * 2 + 1, none⟩ = some (.int .i64 (iat ns j))) := fun j hj => (bel.cell (p := ⟨ka, j * 2 + 1, none⟩) hka).trans (hca j hj).2
  have hX := IdBox.new w 0 0 29
  clear h hl hca hcg hpn hn
  go_enter Tryd.func14, Tryd.ntmps14
  go_wp2_with (go_at_call 23; refine (may_calls n _).mono ?_; rintro e w1 ⟨rfl, rfl⟩; rw [hb])
  generalize w.alloc (.cells #[.int .i64 0, .int .i64 0] 29) = W at hX hx c1 bel ⊢
  go_loopg [7] ns.length (fun gk s7 wr => ∃ j : Nat, gk + j = ns.length ∧ s7 = .int .i64 j ∧ j ≤ p ∧ wr = W)
  case atStart => exact ⟨0, by omega, rfl, by omega, rfl⟩
  case round =>
    obtain ⟨j, hj, rfl, hjp, rfl⟩ := hrel
    have HJ : Hid (gk + j = ns.length) := hj
    clear hj
    have q1 : (j : Int) < (ns.length : Int) := by omega
    have x1 := hx.out j (by omega)
    by_cases q2 : iat ns j = n
    · rw [q2] at x1
      obtain ⟨xl, x0, xx1, xf0, xf1⟩ := hX
      go_wp2_with fail
      (try simp only [Exit.inBlock, Exit.then])
      refine bodyPost_ret (v := .tuple #[.agg #[.int .i64 0, .int .i64 0], .int .i64 7]) ?_ rfl ⟨rfl, ?_⟩
      · rw [results_cell_tmp rfl]; go_simp
      · exact (bel.setCell (p := ⟨w.heap.size, 0, none⟩) (Nat.le_refl _) _).setCell (p := ⟨w.heap.size, 1, none⟩) (Nat.le_refl _) _
    · have hne : j ≠ p := fun e => q2 (e ▸ HP.out)
      go_wp2_with fail
      go_roundg (ns.length - (j + 1))
      case measure => have := HJ.out; omega
      case rel => exact ⟨j + 1, by have := HJ.out; omega, by go_num, by omega, rfl⟩
end Go.Proofs.YtlmllfakoglbcaaDoor
