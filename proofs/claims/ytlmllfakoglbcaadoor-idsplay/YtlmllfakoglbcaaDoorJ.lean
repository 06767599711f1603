/- The document's Issue. -/
import Derived.Test.YtlmllfakoglbcaaDoorI
namespace Go.Proofs.YtlmllfakoglbcaaDoor
open Go.RowKit Go.Lib Go.Sort Go.Shelf
set_option linter.unusedVariables false
set_option linter.unusedSimpArgs false

set_option maxRecDepth 100000 in
set_option maxHeartbeats 2000000 in
theorem rissue_f1 {w : World} {B mb : Nat} {va vg : Value} {L : Int} {ns : List Int} {gs : List Bool} (h : Ref w B mb va vg L ns gs) (hl : gs.length = ns.length) (hmany : ns.length ≤ 100) (n : Int) (hb : nameB n = true) (hn : n ∉ ns) (g1 : L ≤ ((lv 0 ns gs).length : Int)) : Calls Tryd.prog 14 #[.pointer (some ⟨mb, 0, none⟩), .int .i64 n] w fun e w' => e = .returned (.tuple #[.agg #[.int .i64 0, .int .i64 0], .int .i64 4]) ∧ Below w.heap.size w w' := by
  obtain ⟨⟨a, ca, rfl⟩, ⟨g, cg, rfl⟩⟩ := h.shapes
  have hmb := h.lt (k := mb) (.inl rfl)
  have HL : Hid (gs.length = ns.length) := hl
  have HR : Hid (Ref w B mb (.slice a ns.length ca) (.slice g gs.length cg) L ns gs) := h
  have bel : Below w.heap.size w (w.alloc (.cells #[.int .i64 0, .int .i64 0] 29)) := (Below.refl _ _).alloc (Nat.le_refl _) _
  have hR0 := h.below bel
  have c1 := hR0.c1
  have HN : Hid (n ∉ ns) := hn
  have hx : Hid (∀ j, j < ns.length → ∃ ka, a = some ⟨ka, 0, none⟩ ∧ (w.alloc (.cells #[.int .i64 0, .int .i64 0] 29)).cell? ⟨ka, j * 2 + 1, none⟩ = some (.int .i64 (iat ns j))) := fun j hj => by
    obtain ⟨ka, kg, rfl, rfl, hka, hkg, hca, hcg⟩ := h.rows hl (by omega)
    exact ⟨ka, rfl, (bel.cell (p := ⟨ka, j * 2 + 1, none⟩) hka).trans (hca j hj).2⟩
  have hX := IdBox.new w 0 0 29
  have hcon := rlive_calls hR0 hl hmany
  have hm8 : (lv 0 ns gs).length ≤ 100 := Nat.le_trans (lv_le ns gs 0) hmany
  have HR0 : Hid (Ref (w.alloc (.cells #[.int .i64 0, .int .i64 0] 29)) B mb (.slice a ns.length ca) (.slice g gs.length cg) L ns gs) := hR0
  clear h hl hn hR0
  go_enter Tryd.func14, Tryd.ntmps14
  go_wp2_with (go_at_call 23; refine (may_calls n _).mono ?_; rintro e w1 ⟨rfl, rfl⟩; rw [hb])
  generalize w.alloc (.cells #[.int .i64 0, .int .i64 0] 29) = W at hX hx c1 bel hcon HR0 ⊢
  go_loopg [7] ns.length (fun gk s7 wr => ∃ j : Nat, gk + j = ns.length ∧ s7 = .int .i64 j ∧ wr = W)
  case atStart => exact ⟨0, by omega, rfl, rfl⟩
  case round =>
    obtain ⟨j, hj, rfl, rfl⟩ := hrel
    have HJ : Hid (gk + j = ns.length) := hj
    clear hj
    by_cases q1 : (j : Int) < (ns.length : Int)
    · obtain ⟨ka, rfl, x1⟩ := hx.out j (by omega)
      have q2 : iat ns j ≠ n := fun e => HN.out (e ▸ List.mem_of_getElem? (iat_get (by omega)))
      clear hcon hX
      generalize iat ns j = y at x1 q2
      go_wp2_with fail
      go_roundg (ns.length - (j + 1))
      case measure => have := HJ.out; omega
      case rel => exact ⟨j + 1, by have := HJ.out; omega, by go_num, rfl⟩
    · go_wp2_with fail
      refine hcon.mono ?_
      rintro e w1 ⟨u, rfl, hu, hb1⟩
      obtain ⟨au, cu, rfl⟩ : ∃ a c, u = .slice a (lv 0 ns gs).length c := by
        rcases hu.2 with ⟨rfl, e⟩ | ⟨g, cap, cur, rfl, _⟩
        · exact ⟨none, 0, by rw [e]⟩
        · exact ⟨_, _, rfl⟩
      have hX1 := hX.below hb1
      have hR1 := HR0.out.below hb1
      have hB1 := bel.trans (hb1.mono bel.size)
      clear hu hcon hX hb1 hx c1 bel HR0
      have k0 := hR1.c0
      have k1 := hR1.c1
      obtain ⟨xl, x0, x1, xf0, xf1⟩ := hX1
      go_wp2_with fail
      (try simp only [Exit.inBlock, Exit.then])
      refine bodyPost_ret (v := .tuple #[.agg #[.int .i64 0, .int .i64 0], .int .i64 4]) ?_ rfl ⟨rfl, ?_⟩
      · rw [results_cell_tmp rfl]; go_simp
      · exact (hB1.setCell (p := ⟨w.heap.size, 0, none⟩) (Nat.le_refl _) _).setCell (p := ⟨w.heap.size, 1, none⟩) (Nat.le_refl _) _

set_option maxRecDepth 100000 in
set_option maxHeartbeats 2000000 in
theorem rissue_f2 {w : World} {B mb : Nat} {va vg : Value} {L : Int} {ns : List Int} {gs : List Bool} (h : Ref w B mb va vg L ns gs) (hl : gs.length = ns.length) (hmany : ns.length ≤ 100) (n : Int) (hb : nameB n = true) (hn : n ∉ ns) (g1 : decide (L ≤ ((lv 0 ns gs).length : Int)) = false) (g2 : (100 : Int) ≤ (ns.length : Int)) : Calls Tryd.prog 14 #[.pointer (some ⟨mb, 0, none⟩), .int .i64 n] w fun e w' => e = .returned (.tuple #[.agg #[.int .i64 0, .int .i64 0], .int .i64 4]) ∧ Below w.heap.size w w' := by
  obtain ⟨⟨a, ca, rfl⟩, ⟨g, cg, rfl⟩⟩ := h.shapes
  have hmb := h.lt (k := mb) (.inl rfl)
  have HL : Hid (gs.length = ns.length) := hl
  have HR : Hid (Ref w B mb (.slice a ns.length ca) (.slice g gs.length cg) L ns gs) := h
  have bel : Below w.heap.size w (w.alloc (.cells #[.int .i64 0, .int .i64 0] 29)) := (Below.refl _ _).alloc (Nat.le_refl _) _
  have hR0 := h.below bel
  have c1 := hR0.c1
  have HN : Hid (n ∉ ns) := hn
  have hx : Hid (∀ j, j < ns.length → ∃ ka, a = some ⟨ka, 0, none⟩ ∧ (w.alloc (.cells #[.int .i64 0, .int .i64 0] 29)).cell? ⟨ka, j * 2 + 1, none⟩ = some (.int .i64 (iat ns j))) := fun j hj => by
    obtain ⟨ka, kg, rfl, rfl, hka, hkg, hca, hcg⟩ := h.rows hl (by omega)
    exact ⟨ka, rfl, (bel.cell (p := ⟨ka, j * 2 + 1, none⟩) hka).trans (hca j hj).2⟩
  have hX := IdBox.new w 0 0 29
  have hcon := rlive_calls hR0 hl hmany
  have hm8 : (lv 0 ns gs).length ≤ 100 := Nat.le_trans (lv_le ns gs 0) hmany
  have HR0 : Hid (Ref (w.alloc (.cells #[.int .i64 0, .int .i64 0] 29)) B mb (.slice a ns.length ca) (.slice g gs.length cg) L ns gs) := hR0
  clear h hl hn hR0
  go_enter Tryd.func14, Tryd.ntmps14
  go_wp2_with (go_at_call 23; refine (may_calls n _).mono ?_; rintro e w1 ⟨rfl, rfl⟩; rw [hb])
  generalize w.alloc (.cells #[.int .i64 0, .int .i64 0] 29) = W at hX hx c1 bel hcon HR0 ⊢
  go_loopg [7] ns.length (fun gk s7 wr => ∃ j : Nat, gk + j = ns.length ∧ s7 = .int .i64 j ∧ wr = W)
  case atStart => exact ⟨0, by omega, rfl, rfl⟩
  case round =>
    obtain ⟨j, hj, rfl, rfl⟩ := hrel
    have HJ : Hid (gk + j = ns.length) := hj
    clear hj
    by_cases q1 : (j : Int) < (ns.length : Int)
    · obtain ⟨ka, rfl, x1⟩ := hx.out j (by omega)
      have q2 : iat ns j ≠ n := fun e => HN.out (e ▸ List.mem_of_getElem? (iat_get (by omega)))
      clear hcon hX
      generalize iat ns j = y at x1 q2
      go_wp2_with fail
      go_roundg (ns.length - (j + 1))
      case measure => have := HJ.out; omega
      case rel => exact ⟨j + 1, by have := HJ.out; omega, by go_num, rfl⟩
    · go_wp2_with fail
      refine hcon.mono ?_
      rintro e w1 ⟨u, rfl, hu, hb1⟩
      obtain ⟨au, cu, rfl⟩ : ∃ a c, u = .slice a (lv 0 ns gs).length c := by
        rcases hu.2 with ⟨rfl, e⟩ | ⟨g, cap, cur, rfl, _⟩
        · exact ⟨none, 0, by rw [e]⟩
        · exact ⟨_, _, rfl⟩
      have hX1 := hX.below hb1
      have hR1 := HR0.out.below hb1
      have hB1 := bel.trans (hb1.mono bel.size)
      clear hu hcon hX hb1 hx c1 bel HR0
      have k0 := hR1.c0
      have k1 := hR1.c1
      obtain ⟨xl, x0, x1, xf0, xf1⟩ := hX1
      go_wp2_with fail
      (try simp only [Exit.inBlock, Exit.then])
      refine bodyPost_ret (v := .tuple #[.agg #[.int .i64 0, .int .i64 0], .int .i64 4]) ?_ rfl ⟨rfl, ?_⟩
      · rw [results_cell_tmp rfl]; go_simp
      · exact (hB1.setCell (p := ⟨w.heap.size, 0, none⟩) (Nat.le_refl _) _).setCell (p := ⟨w.heap.size, 1, none⟩) (Nat.le_refl _) _

theorem rissue_full {w : World} {B mb : Nat} {va vg : Value} {L : Int} {ns : List Int} {gs : List Bool} (h : Ref w B mb va vg L ns gs) (hl : gs.length = ns.length) (hmany : ns.length ≤ 100) (n : Int) (hb : nameB n = true) (hn : n ∉ ns) (hf : fullB L ns (lv 0 ns gs) = true) : Calls Tryd.prog 14 #[.pointer (some ⟨mb, 0, none⟩), .int .i64 n] w fun e w' => e = .returned (.tuple #[.agg #[.int .i64 0, .int .i64 0], .int .i64 4]) ∧ Below w.heap.size w w' := by
  by_cases g1 : L ≤ ((lv 0 ns gs).length : Int)
  · exact rissue_f1 h hl hmany n hb hn g1
  · refine rissue_f2 h hl hmany n hb hn (decide_eq_false g1) ?_
    simp [fullB] at hf
    omega
theorem Ref.put1 {w w2 : World} {B mb : Nat} {va va' vg : Value} {L : Int} {ns ns' : List Int} {gs : List Bool} (h : Ref w B mb va vg L ns gs) (ho : Off (fun k => va.ownBlock = some k) w w2) (hr : w2.ownsRow B 29 2 va' ns'.length (flat (nm ns')))
    (hv : ∀ k, va'.ownBlock = some k → va.ownBlock = some k ∨ w.heap.size ≤ k) : Ref (w2.setCell ⟨mb, 1, none⟩ va') B mb va' vg L ns' gs := by
  have hmb := h.lt (k := mb) (.inl rfl)
  have n1 : ¬ va.ownBlock = some mb := fun e => (h.na mb e).1 rfl
  have na : ∀ k, va'.ownBlock = some k → k ≠ mb ∧ vg.ownBlock ≠ some k := fun k hk => by
    rcases hv k hk with e | e
    · exact h.na k e
    · exact ⟨by omega, fun e' => by have := (h.gone.lt k e').2; omega⟩
  have o2 : Off (fun k => k = mb) w2 (w2.setCell ⟨mb, 1, none⟩ va') := (Off.refl _ _).setCell (K := fun k => k = mb) rfl _
  refine ⟨?_, World.cell?_setCell_same _ _ _ (ho.cell h.c1 n1), ?_, ?_, ?_, o2.row hr (fun k hk => (na k hk).1), o2.row (ho.row h.gone (fun k hk e => (h.na k e).2 hk)) (fun k hk => h.ng k hk), h.hm, na, h.ng⟩
  · rw [World.cell?_setCell_other _ _ _ _ (by simp)]; exact ho.cell h.c0 n1
  · rw [World.cell?_setCell_other _ _ _ _ (by simp)]; exact ho.cell h.c2 n1
  · rw [World.frozen?_setCell]; exact (ho.frozen (p := ⟨mb, 1, none⟩) hmb n1).trans h.f1
  · rw [World.frozen?_setCell]; exact (ho.frozen (p := ⟨mb, 2, none⟩) hmb n1).trans h.f2
theorem Ref.put2 {w w2 : World} {B mb : Nat} {va vg vg' : Value} {L : Int} {ns : List Int} {gs gs' : List Bool} (h : Ref w B mb va vg L ns gs) (ho : Off (fun k => vg.ownBlock = some k) w w2) (hr : w2.ownsRow B 4 1 vg' gs'.length (bools gs'))
    (hv : ∀ k, vg'.ownBlock = some k → vg.ownBlock = some k ∨ w.heap.size ≤ k) : Ref (w2.setCell ⟨mb, 2, none⟩ vg') B mb va vg' L ns gs' := by
  have hmb := h.lt (k := mb) (.inl rfl)
  have n1 : ¬ vg.ownBlock = some mb := fun e => h.ng mb e rfl
  have ng : ∀ k, vg'.ownBlock = some k → k ≠ mb := fun k hk => by
    rcases hv k hk with e | e
    · exact h.ng k e
    · omega
  have na : ∀ k, va.ownBlock = some k → k ≠ mb ∧ vg'.ownBlock ≠ some k := fun k hk => ⟨(h.na k hk).1, fun e' => by
    rcases hv k e' with e | e
    · exact (h.na k hk).2 e
    · have := (h.all.lt k hk).2; omega⟩
  have o2 : Off (fun k => k = mb) w2 (w2.setCell ⟨mb, 2, none⟩ vg') := (Off.refl _ _).setCell (K := fun k => k = mb) rfl _
  refine ⟨?_, ?_, World.cell?_setCell_same _ _ _ (ho.cell h.c2 n1), ?_, ?_, o2.row (ho.row h.all (fun k hk e => (h.na k hk).2 e)) (fun k hk => (h.na k hk).1), o2.row hr (fun k hk => ng k hk), h.hm, na, ng⟩
  · rw [World.cell?_setCell_other _ _ _ _ (by simp)]; exact ho.cell h.c0 n1
  · rw [World.cell?_setCell_other _ _ _ _ (by simp)]; exact ho.cell h.c1 n1
  · rw [World.frozen?_setCell]; exact (ho.frozen (p := ⟨mb, 1, none⟩) hmb n1).trans h.f1
  · rw [World.frozen?_setCell]; exact (ho.frozen (p := ⟨mb, 2, none⟩) hmb n1).trans h.f2
set_option maxRecDepth 100000 in
set_option maxHeartbeats 2000000 in
theorem rissue_yes {w : World} {B mb : Nat} {va vg : Value} {L : Int} {ns : List Int} {gs : List Bool} (h : Ref w B mb va vg L ns gs) (hl : gs.length = ns.length) (hmany : ns.length ≤ 100) (n : Int) (hb : nameB n = true) (hn : n ∉ ns) (hf : fullB L ns (lv 0 ns gs) = false) : Calls Tryd.prog 14 #[.pointer (some ⟨mb, 0, none⟩), .int .i64 n] w fun e w' => e = .returned (.tuple #[.agg #[.int .i64 (ns.length : Int), .int .i64 n], .int .i64 0]) ∧ ∃ va' vg', Ref w' B mb va' vg' L (ns ++ [n]) (gs ++ [false]) ∧ Off (rown mb va vg) w w' ∧ (∀ k, rown mb va' vg' k → rown mb va vg k ∨ w.heap.size ≤ k) := by
  have g1 : decide (L ≤ ((lv 0 ns gs).length : Int)) = false := decide_eq_false (by simp [fullB] at hf; omega)
  have g2 : decide ((100 : Int) ≤ (ns.length : Int)) = false := decide_eq_false (by simp [fullB] at hf; omega)
  clear hf
  obtain ⟨⟨a, ca, rfl⟩, ⟨g, cg, rfl⟩⟩ := h.shapes
  have hmb := h.lt (k := mb) (.inl rfl)
  have HL : Hid (gs.length = ns.length) := hl
  have HR : Hid (Ref w B mb (.slice a ns.length ca) (.slice g gs.length cg) L ns gs) := h
  have bel : Below w.heap.size w (w.alloc (.cells #[.int .i64 0, .int .i64 0] 29)) := (Below.refl _ _).alloc (Nat.le_refl _) _
  have hR0 := h.below bel
  have c1 := hR0.c1
  have HN : Hid (n ∉ ns) := hn
  have hx : Hid (∀ j, j < ns.length → ∃ ka, a = some ⟨ka, 0, none⟩ ∧ (w.alloc (.cells #[.int .i64 0, .int .i64 0] 29)).cell? ⟨ka, j * 2 + 1, none⟩ = some (.int .i64 (iat ns j))) := fun j hj => by
    obtain ⟨ka, kg, rfl, rfl, hka, hkg, hca, hcg⟩ := h.rows hl (by omega)
    exact ⟨ka, rfl, (bel.cell (p := ⟨ka, j * 2 + 1, none⟩) hka).trans (hca j hj).2⟩
  have hX := IdBox.new w 0 0 29
  have hcon := rlive_calls hR0 hl hmany
  have hm8 : (lv 0 ns gs).length ≤ 100 := Nat.le_trans (lv_le ns gs 0) hmany
  have HR0 : Hid (Ref (w.alloc (.cells #[.int .i64 0, .int .i64 0] 29)) B mb (.slice a ns.length ca) (.slice g gs.length cg) L ns gs) := hR0
  clear h hl hn hR0
  go_enter Tryd.func14, Tryd.ntmps14
  go_wp2_with (go_at_call 23; refine (may_calls n _).mono ?_; rintro e w1 ⟨rfl, rfl⟩; rw [hb])
  generalize w.alloc (.cells #[.int .i64 0, .int .i64 0] 29) = W at hX hx c1 bel hcon HR0 ⊢
  go_loopg [7] ns.length (fun gk s7 wr => ∃ j : Nat, gk + j = ns.length ∧ s7 = .int .i64 j ∧ wr = W)
  case atStart => exact ⟨0, by omega, rfl, rfl⟩
  case round =>
    obtain ⟨j, hj, rfl, rfl⟩ := hrel
    have HJ : Hid (gk + j = ns.length) := hj
    clear hj
    by_cases q1 : (j : Int) < (ns.length : Int)
    · obtain ⟨ka, rfl, x1⟩ := hx.out j (by omega)
      have q2 : iat ns j ≠ n := fun e => HN.out (e ▸ List.mem_of_getElem? (iat_get (by omega)))
      clear hcon hX
      generalize iat ns j = y at x1 q2
      go_wp2_with fail
      go_roundg (ns.length - (j + 1))
      case measure => have := HJ.out; omega
      case rel => exact ⟨j + 1, by have := HJ.out; omega, by go_num, rfl⟩
    · go_wp2_with fail
      refine hcon.mono ?_
      rintro e w1 ⟨u, rfl, hu, hb1⟩
      obtain ⟨au, cu, rfl⟩ : ∃ a c, u = .slice a (lv 0 ns gs).length c := by
        rcases hu.2 with ⟨rfl, e⟩ | ⟨g, cap, cur, rfl, _⟩
        · exact ⟨none, 0, by rw [e]⟩
        · exact ⟨_, _, rfl⟩
      have hX1 := hX.below hb1
      have hR1 := HR0.out.below hb1
      have hB1 := bel.trans (hb1.mono bel.size)
      clear hu hcon hX hb1 hx c1 bel HR0
      have k0 := hR1.c0
      have k1 := hR1.c1
      go_wp2_with fail
      have hY1 : IdBox (w1.alloc (.cells #[.int .i64 (ns.length : Int), .int .i64 n] 29)) w1.heap.size (ns.length : Int) n := IdBox.new _ _ _ _
      have ba : Below w1.heap.size w1 (w1.alloc (.cells #[.int .i64 (ns.length : Int), .int .i64 n] 29)) := (Below.refl _ _).alloc (Nat.le_refl _) _
      have hX2 := hX1.below ba
      have hR2 := hR1.below ba
      have hB2 := hB1.trans (ba.mono hB1.size)
      have hXY : w.heap.size < w1.heap.size := hX1.lt
      have hYW : w1.heap.size < (w1.alloc (.cells #[.int .i64 (ns.length : Int), .int .i64 n] 29)).heap.size := hY1.lt
      generalize w1.heap.size = Y at hY1 hXY hYW ⊢
      generalize w1.alloc (.cells #[.int .i64 (ns.length : Int), .int .i64 n] 29) = w2 at hY1 hX2 hR2 hB2 hYW ⊢
      clear hX1 hR1 hB1 ba k0 k1 g1 g2
      have hlt : ∀ k, rown mb (.slice a ns.length ca) (.slice g gs.length cg) k → k < w.heap.size := fun k hk => HR.out.lt hk
      have hle := HR.out.le
      have hxk : ∀ k, (k = mb ∨ (Value.slice g gs.length cg).ownBlock = some k) → k < w.heap.size := fun k e => hlt k (e.imp id (fun e => .inr e))
      have NSL : Hid ((nm (ns ++ [n])).length = ns.length + 1) := by show (nm (ns ++ [n])).length = ns.length + 1; rw [nm_length]; simp
      have FL : Hid (flat (nm (ns ++ [n])) = flat (nm ns) ++ flat [((ns.length : Int), n)]) := by show flat (nm (ns ++ [n])) = _; rw [nm_snoc, flat_append]
      have NL : Hid ((ns ++ [n]).length = ns.length + 1) := by show (ns ++ [n]).length = _; simp
      have GL : Hid ((gs ++ [false]).length = gs.length + 1) := by show (gs ++ [false]).length = _; simp
      have BL : Hid (bools (gs ++ [false]) = bools gs ++ [.bool false]) := by show bools (gs ++ [false]) = _; simp [bools]
      have hgs : gs.length ≤ 100 := by have := HL.out; omega
      have c1 := hR2.c1
      have c1a := (((Below.refl w2.heap.size w2).alloc (Nat.le_refl _) (.cells #[.int .i64 (ns.length : Int), .int .i64 n] 29)).cell (p := ⟨mb, 1, none⟩) (hR2.lt (.inl rfl))).trans c1
      have y0 := hY1.c0
      have y1 := hY1.c1
      have bd : Below w2.heap.size w2 (w2.drew.alloc (.cells #[.int .i64 (ns.length : Int), .int .i64 n] 29)) := (Below.refl w2.heap.size w2).drew.alloc (Nat.le_refl _) _
      have hR2d := hR2.below bd
      have hrow := hR2d.all
      obtain ⟨i0, hi0, hz0, hz1, hz2⟩ := info_parts infoR
      obtain ⟨ib, hib, hb0, hb1, hb2⟩ := info_parts infoB
      go_region_law (refine step_append_own rfl (.tmp 64) (.tmp 66) 34 rfl B 29 i0 _ 2 16 Tryd.underlying34 hi0 hz0 hz1 hz2 rfl (by decide) (.slice a ns.length ca) ns.length (flat (nm ns)) (by simp [Act.eval, Act.put]) hrow ⟨w2.heap.size, 0, none⟩ 1 1 (flat [((ns.length : Int), n)]) (by simp [Act.eval, Act.put]) rfl (cells_two_new w2.drew _ _ _) (fun u hu => flat_one u hu) (by unfold maxLen; omega) (by omega) hR2d.le ?_; intro v' w3 ho3 hg3 hl3; obtain ⟨g3, cap3, rfl⟩ := own_shape ho3 (by omega); have og := Off.of_grown (K := fun k => (Value.slice a ns.length ca).ownBlock = some k) hg3 (fun k e => e); have d2 := og.cell hR2d.c1 (fun e => (hR2d.na mb e).1 rfl); have df := (og.frozen (p := ⟨mb, 1, none⟩) (hR2d.lt (.inl rfl)) (fun e => (hR2d.na mb e).1 rfl)).trans hR2d.f1)
      all_goals
        have og2 : Off (fun k => (Value.slice a ns.length ca).ownBlock = some k) w2 w3 := (Off.of_below bd).trans og
        have hnew : (Value.slice (some ⟨g3, 0, none⟩) (ns.length + 1) cap3).ownBlock = (Value.slice a ns.length ca).ownBlock ∨ w2.heap.size ≤ g3 := hl3.imp id (fun e => by injection e with e; have e : g3 = _ := e; rw [e]; exact bd.size)
        have hP := hR2.put1 og2 (va' := .slice (some ⟨g3, 0, none⟩) (ns.length + 1) cap3) (ns' := ns ++ [n]) (by rw [NL.out, FL.out]; exact ho3) (fun k hk => by
          rcases hnew with e | e
          · exact .inl (e.symm.trans hk)
          · right; injection hk with hk; have hk : g3 = k := hk; omega)
        have oS : Off (rown mb (.slice a ns.length ca) (.slice g gs.length cg)) w2 (w3.setCell ⟨mb, 1, none⟩ (.slice (some ⟨g3, 0, none⟩) (ns.length + 1) cap3)) := (og2.mono (fun k _ e => .inr (.inl e))).setCell (.inl rfl) _
        have hX5 := hX2.off oS (fun e => by have := hlt _ e; omega)
        have hY5 := hY1.off oS (fun e => by have := hlt _ e; omega)
        have oW : Off (rown mb (.slice a ns.length ca) (.slice g gs.length cg)) w (w3.setCell ⟨mb, 1, none⟩ (.slice (some ⟨g3, 0, none⟩) (ns.length + 1) cap3)) := (Off.of_below hB2).trans oS
        have hsz : w2.heap.size ≤ (w3.setCell ⟨mb, 1, none⟩ (.slice (some ⟨g3, 0, none⟩) (ns.length + 1) cap3)).heap.size := oS.size
        have hnew3 : ∀ k, (Value.slice (some ⟨g3, 0, none⟩) (ns.length + 1) cap3).ownBlock = some k → (Value.slice a ns.length ca).ownBlock = some k ∨ w2.heap.size ≤ k := fun k hk => by
          rcases hnew with e | e
          · exact .inl (e.symm.trans hk)
          · right; injection hk with hk; have hk : g3 = k := hk; omega
        clear c1 c1a y0 y1 bd hR2d hrow hg3 ho3 hl3 og d2 df oS og2 hnew
        generalize w3.setCell ⟨mb, 1, none⟩ (.slice (some ⟨g3, 0, none⟩) (ns.length + 1) cap3) = W4 at hP hX5 hY5 oW hsz ⊢
        have c2 := hP.c2
        have b4 : Below W4.heap.size W4 (W4.alloc (.cells #[.bool false] 4)) := (Below.refl _ _).alloc (Nat.le_refl _) _
        have hP4 := hP.below b4
        have hX6 := hX5.below b4
        have hY6 := hY5.below b4
        have hrow4 := hP4.gone
        have hle4 := hP4.le
        go_wp2_with (at_builtin; refine wpList_append_own_at _ rfl (.tmp 74) (.tmp 75) 40 rfl B 4 ib _ 1 1 Tryd.underlying40 hib hb0 hb1 hb2 rfl (by decide) _ _ (bools gs) rfl hrow4 ⟨W4.heap.size, 0, none⟩ 1 1 [.bool false] rfl rfl (cell_one_new _ _ _) (by intro u hu; simp at hu; subst hu; rfl) (by unfold maxLen; omega) (by omega) hle4 ?_; intro v5 w5 ho5 hg5 _ hl5; obtain ⟨g5, cap5, rfl⟩ := own_shape ho5 (by omega); have og5 := Off.of_grown (K := fun k => (Value.slice g gs.length cg).ownBlock = some k) hg5 (fun k e => e); have m2 := og5.cell hP4.c2 (fun e => hP4.ng mb e rfl); have mf := (og5.frozen (p := ⟨mb, 2, none⟩) (hP4.lt (.inl rfl)) (fun e => hP4.ng mb e rfl)).trans hP4.f2; have oS5 := (og5.mono (K' := fun k => k = mb ∨ (Value.slice g gs.length cg).ownBlock = some k) (fun k _ e => .inr e)).setCell (a := ⟨mb, 2, none⟩) (.inl rfl) (.slice (some ⟨g5, 0, none⟩) (gs.length + 1) cap5); have hX7 := hX6.off oS5 (fun e => by have := hxk _ e; omega); have hY7 := hY6.off oS5 (fun e => by have := hxk _ e; omega); have x0 := hX7.c0; have x1 := hX7.c1; have xf0 := hX7.f0; have xf1 := hX7.f1; have yy0 := hY7.c0; have yy1 := hY7.c1)
        have hnew5 : ∀ k, (Value.slice (some ⟨g5, 0, none⟩) (gs.length + 1) cap5).ownBlock = some k → (Value.slice g gs.length cg).ownBlock = some k ∨ (W4.alloc (.cells #[.bool false] 4)).heap.size ≤ k := fun k hk => by
          rcases hl5 with e | e
          · exact .inl (e.symm.trans hk)
          · right; rw [e] at hk; have hk := Option.some.inj hk; omega
        have hQ := hP4.put2 og5 (vg' := .slice (some ⟨g5, 0, none⟩) (gs.length + 1) cap5) (gs' := gs ++ [false]) (by rw [GL.out, BL.out]; exact ho5) hnew5
        have hall : ∀ k, rown mb (.slice (some ⟨g3, 0, none⟩) (ns.length + 1) cap3) (.slice (some ⟨g5, 0, none⟩) (gs.length + 1) cap5) k → rown mb (.slice a ns.length ca) (.slice g gs.length cg) k ∨ w2.heap.size ≤ k := fun k hk => by
          rcases hk with e | e | e
          · exact .inl (.inl e)
          · exact (hnew3 k e).imp (fun e => .inr (.inl e)) id
          · refine (hnew5 k e).imp (fun e => .inr (.inr e)) (fun e => ?_)
            have := b4.size
            omega
        have oF : Off (rown mb (.slice a ns.length ca) (.slice g gs.length cg)) w (w5.setCell ⟨mb, 2, none⟩ (.slice (some ⟨g5, 0, none⟩) (gs.length + 1) cap5)) := (oW.trans (Off.of_below b4)).trans (oS5.mono (fun k _ e => e.imp id (fun e => .inr e)))
        (try simp only [Exit.inBlock, Exit.then])
        refine bodyPost_ret (v := .tuple #[.agg #[.int .i64 (ns.length : Int), .int .i64 n], .int .i64 0]) ?_ rfl ⟨rfl, ?_⟩
        · rw [results_cell_tmp rfl]; go_simp
        · refine ⟨_, _, hQ.off (K := fun k => k = w.heap.size) (((Off.refl _ _).setCell (K := fun k => k = w.heap.size) rfl _).setCell (K := fun k => k = w.heap.size) rfl _) (fun k hk e => ?_), (oF.setNew (Nat.le_refl _) _).setNew (Nat.le_refl _) _, fun k hk => (hall k hk).imp id (fun e => by omega)⟩
          rcases hall k hk with e' | e'
          · have := hlt k e'; omega
          · omega
end Go.Proofs.YtlmllfakoglbcaaDoor
