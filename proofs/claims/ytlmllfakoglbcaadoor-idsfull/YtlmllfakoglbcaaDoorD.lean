/- Which place a Seq has among the live ones; what Find and Live answer. -/
import Derived.Test.YtlmllfakoglbcaaDoorC
import Derived.Laws.ResultCell
import Derived.Shelf.SlicesQ.IndexFunc
import Derived.Shelf.SlicesE.Clone
import Derived.Shelf.SlGeneric
import Derived.Ground.SlgfProg
import Derived.Ground.SlgnProg
namespace Go.Proofs
open Go.Shelf
def Tryd.lx_ren : Go.Shelf.Ren := ⟨fun | 6 => 24 | n => n, fun | 22 => 34 | 23 => 29 | 25 => 58 | 3 => 3 | 0 => 0 | 4 => 4 | n => n, fun | n => n⟩
theorem Tryd.lx : Go.Proofs.SlLaysH0.n6 Tryd.prog Tryd.lx_ren := {
  mixed := by kernel_rfl
  f6 := ⟨Tryd.f24.name, by decide, Tryd.func24.trans (congrArg some (by kernel_rfl))⟩
  t0 := Tryd.underlying0
  a0 := Tryd.isAgg0
  z0 := Tryd.sizeOf0
  v0 := Tryd.zeroValue0
  t3 := Tryd.underlying3
  a3 := Tryd.isAgg3
  z3 := Tryd.sizeOf3
  v3 := Tryd.zeroValue3
  t4 := Tryd.underlying4
  a4 := Tryd.isAgg4
  z4 := Tryd.sizeOf4
  v4 := Tryd.zeroValue4
  t22 := Tryd.underlying34
  a22 := Tryd.isAgg34
  z22 := Tryd.sizeOf34
  v22 := Tryd.zeroValue34
  t25 := Tryd.underlying58
  a25 := Tryd.isAgg58
  z25 := Tryd.sizeOf58
  v25 := Tryd.zeroValue58 }
def Tryd.lc_ren : Go.Shelf.Ren := ⟨fun | 41 => 22 | n => n, fun | 22 => 34 | 23 => 29 | 4 => 4 | n => n, fun | n => n⟩
theorem Tryd.lc : Go.Proofs.SlLaysE0.n41 Tryd.prog Tryd.lc_ren := {
  mixed := by kernel_rfl
  f41 := ⟨Tryd.f22.name, by decide, Tryd.func22.trans (congrArg some (by kernel_rfl))⟩
  t4 := Tryd.underlying4
  a4 := Tryd.isAgg4
  z4 := Tryd.sizeOf4
  v4 := Tryd.zeroValue4
  t22 := Tryd.underlying34
  a22 := Tryd.isAgg34
  z22 := Tryd.sizeOf34
  v22 := Tryd.zeroValue34 }
end Go.Proofs
namespace Go.Proofs.YtlmllfakoglbcaaDoor
open Go.RowKit Go.Lib Go.Sort Go.Shelf
set_option linter.unusedVariables false
set_option linter.unusedSimpArgs false

/-- The block b holds an ID, and may be written. -/
structure IdBox (w : World) (b : Nat) (q n : Int) : Prop where
  lt : b < w.heap.size
  c0 : w.cell? ⟨b, 0, none⟩ = some (.int .i64 q)
  c1 : w.cell? ⟨b, 1, none⟩ = some (.int .i64 n)
  f0 : w.frozen? ⟨b, 0, none⟩ = false
  f1 : w.frozen? ⟨b, 1, none⟩ = false
theorem IdBox.off {K : Nat → Prop} {w w' : World} {b : Nat} {q n : Int} (h : IdBox w b q n) (ho : Off K w w') (hn : ¬ K b) : IdBox w' b q n :=
  ⟨Nat.lt_of_lt_of_le h.lt ho.size, ho.cell h.c0 hn, ho.cell h.c1 hn, (ho.frozen (p := ⟨b, 0, none⟩) h.lt hn).trans h.f0, (ho.frozen (p := ⟨b, 1, none⟩) h.lt hn).trans h.f1⟩
theorem IdBox.below {w w' : World} {b : Nat} {q n : Int} (h : IdBox w b q n) (hb : Below w.heap.size w w') : IdBox w' b q n := h.off (Off.of_below (K := fun _ => False) hb) id
theorem IdBox.new (w : World) (q n : Int) (t : TypeId) : IdBox (w.alloc (.cells #[.int .i64 q, .int .i64 n] t)) w.heap.size q n := ⟨by simp, by simp, by simp, by simp, by simp⟩
theorem IdBox.set {w : World} {b : Nat} {q n : Int} (h : IdBox w b q n) (q' n' : Int) : IdBox ((w.setCell ⟨b, 0, none⟩ (.int .i64 q')).setCell ⟨b, 1, none⟩ (.int .i64 n')) b q' n' := by
  have a0 : (w.setCell ⟨b, 0, none⟩ (.int .i64 q')).cell? ⟨b, 0, none⟩ = some (.int .i64 q') := World.cell?_setCell_same _ _ _ h.c0
  have a1 : (w.setCell ⟨b, 0, none⟩ (.int .i64 q')).cell? ⟨b, 1, none⟩ = some (.int .i64 n) := by rw [World.cell?_setCell_other _ _ _ _ (by simp)]; exact h.c1
  refine ⟨by simpa using h.lt, ?_, World.cell?_setCell_same _ _ _ a1, by simpa using h.f0, by simpa using h.f1⟩
  rw [World.cell?_setCell_other _ _ _ _ (by simp)]; exact a0

set_option maxRecDepth 100000 in
set_option maxHeartbeats 2000000 in
theorem place_closure (a b q : Int) (B : Nat) (W : World) (hc : W.cell? ⟨B, 0, none⟩ = some (.int .i64 q)) :
    Calls Tryd.prog 25 #[.agg #[.int .i64 a, .int .i64 b], .pointer (some ⟨B, 0, none⟩)] W fun e w' => e = .returned (.bool (a == q)) ∧ Below W.heap.size W w' := by
  have hB : B < W.heap.size := World.block_lt_of_cell? W _ hc
  have hc1 : (W.alloc (.cells #[.int .i64 a, .int .i64 b] 29)).cell? ⟨B, 0, none⟩ = some (.int .i64 q) := (Below.cell (((Below.refl W.heap.size W).alloc (Nat.le_refl _) _)) (by exact hB)).trans hc
  go_enter Tryd.func25, Tryd.ntmps25
  go_wp2
  go_ret
  exact ⟨rfl, (Below.refl _ _).alloc (Nat.le_refl _) _⟩
set_option maxRecDepth 100000 in
set_option maxHeartbeats 2000000 in
theorem place_some (sb g cap : Nat) (zs : List R) (q : Int) (w : World) (hl : zs.length ≤ 9223372036854775807) (hs : sb < w.heap.size) (hb : g < w.heap.size) (hc : Cells w g 0 zs) (c2 : w.cell? ⟨sb, 2, none⟩ = some (.slice (some ⟨g, 0, none⟩) zs.length cap)) :
    Calls Tryd.prog 19 #[.pointer (some ⟨sb, 0, none⟩), .int .i64 q] w fun e w' => e = .returned (.int .i64 (pos zs q)) ∧ Below w.heap.size w w' := by
  have eg : ∀ args w, (callFunc 25 args).run Tryd.prog w = .ok (.enter 25 args) w := enters_of Tryd.func25 (by kernel_rfl) rfl
  have bel : Below w.heap.size w (w.alloc (.cells #[.int .i64 q] 3)) := (Below.refl _ _).alloc (Nat.le_refl _) _
  have hc' := hc.below hb bel
  have c2' := (bel.cell (p := ⟨sb, 2, none⟩) hs).trans c2
  have hcon := AnyQ.slices_IndexFunc Tryd.lx 2 Tryd.isAgg29 Tryd.sizeOf29 encR (fun _ => rfl) (fun r => r.1 == q) 25 #[.pointer (some ⟨w.heap.size, 0, none⟩)] eg g 0 zs.length cap zs (w.alloc (.cells #[.int .i64 q] 3))
    (fun W r hb' => (place_closure r.1 r.2 q w.heap.size W ((hb'.cell (p := ⟨w.heap.size, 0, none⟩) (by simp)).trans (by simp))).mono fun _ _ ⟨he, h2⟩ => ⟨he, hb'.trans (h2.mono hb'.size)⟩)
    (Nat.le_refl _) (by omega) (by simp; omega) (fun j hj i v hv => by
      have h := hc' j hj
      have e : zs[j]! = at' zs j := by simp [at', hj]
      rw [e] at hv
      match i, hv with
      | 0, hv => simp [encR] at hv; subst hv; exact h.1
      | 1, hv => simp [encR] at hv; subst hv; exact h.2
      | i + 2, hv => simp [encR] at hv)
  change Calls Tryd.prog 24 _ _ _ at hcon
  rw [List.take_length] at hcon
  have hbb : Lib.idxBy (fun _ y => (y : R).1 == q) zs default = pos zs q := rfl
  rw [hbb] at hcon
  clear hc hc' hbb
  generalize pos zs q = res at hcon ⊢
  generalize zs.length = len at *
  go_enter Tryd.func19, Tryd.ntmps19
  go_wp2_with (go_at_call 24; refine hcon.mono ?_; rintro e w' ⟨rfl, hb1⟩)
  go_ret
  exact ⟨rfl, bel.trans (hb1.mono bel.size)⟩
set_option maxRecDepth 100000 in
set_option maxHeartbeats 2000000 in
theorem place_none (sb : Nat) (ao : Option Addr) (cap : Nat) (q : Int) (w : World) (hs : sb < w.heap.size) (c2 : w.cell? ⟨sb, 2, none⟩ = some (.slice ao 0 cap)) :
    Calls Tryd.prog 19 #[.pointer (some ⟨sb, 0, none⟩), .int .i64 q] w fun e w' => e = .returned (.int .i64 (-1)) ∧ Below w.heap.size w w' := by
  have bel : Below w.heap.size w (w.alloc (.cells #[.int .i64 q] 3)) := (Below.refl _ _).alloc (Nat.le_refl _) _
  have c2' := (bel.cell (p := ⟨sb, 2, none⟩) hs).trans c2
  go_enter Tryd.func19, Tryd.ntmps19
  go_wp2
  refine wp_loop_rounds 1 ?_
  rw [rounds_succ]
  go_wp2
  go_ret
  exact ⟨rfl, (Below.refl _ _).alloc (Nat.le_refl _) _⟩
theorem place_calls {w : World} {B sb bm : Nat} {v : Value} {L : Int} {ns : List Int} {ls : List R} (h : Obj w B sb bm v L ns ls) (q : Int) :
    Calls Tryd.prog 19 #[.pointer (some ⟨sb, 0, none⟩), .int .i64 q] w fun e w' => e = .returned (.int .i64 (pos ls q)) ∧ Below w.heap.size w w' := by
  have hs := h.lt (k := sb) (.inl rfl)
  rcases h.row.2 with ⟨e, e0⟩ | ⟨g, cap, cur, e, _, _, _⟩
  · have e1 : ls = [] := List.eq_nil_of_length_eq_zero e0
    have hp : pos ls q = -1 := by rw [e1]; rfl
    rw [hp]
    exact place_none sb none 0 q w hs (by rw [h.c2, e])
  · have hr := h.row
    rw [e] at hr
    exact place_some sb g cap ls q w (by have := h.inv.full; have := h.inv.l8; omega) hs (hr.lt g rfl).2 (cells_of_own hr) (by rw [h.c2, e])

set_option maxRecDepth 100000 in
set_option maxHeartbeats 2000000 in
/-- Find where no name of it was. -/
theorem find_no1 {w : World} {B sb bm : Nat} {v : Value} {L : Int} {ns : List Int} {ls : List R} (h : Obj w B sb bm v L ns ls) (n : Int) (hw : (Lit.int .i64 n).wf = true) (hn : n ∉ ns) :
    Calls Tryd.prog 10 #[.pointer (some ⟨sb, 0, none⟩), .int .i64 n] w fun e w' => e = .returned (.tuple #[.agg #[.int .i64 0, .int .i64 0], .iface 48 (.int .i64 5)]) ∧ Below w.heap.size w w' := by
  have hs := h.lt (k := sb) (.inl rfl)
  obtain ⟨inv, c0, c1, c2, f2, ⟨D, hD, hN⟩, row, _⟩ := h
  have hh : Maps.has D (.int .i64 n) = false := by rw [hN.has]; simpa using hn
  have hkey := Maps.keyOf_int_mk Tryd.underlying3 hw
  have bel : Below w.heap.size w (w.alloc (.cells #[.int .i64 0, .int .i64 0] 29)) := (Below.refl _ _).alloc (Nat.le_refl _) _
  have c1' := (bel.cell (p := ⟨sb, 1, none⟩) hs).trans c1
  go_enter Tryd.func10, Tryd.ntmps10
  go_wp2_with (at_lookup; refine wpList_lookup_own_ok_int _ rfl _ _ 49 rfl 3 3 .i64 lawI Tryd.underlying49 Tryd.underlying3 (zeroI _) bm _ D rfl (hD.alloc _) _ _ rfl hkey ?_; intro c hat hwc)
  (try simp only [Exit.inBlock, Exit.then])
  refine bodyPost_ret (v := .tuple #[.agg #[.int .i64 0, .int .i64 0], .iface 48 (.int .i64 5)]) ?_ rfl ⟨rfl, ?_⟩
  · rw [results_cell_tmp rfl]; go_simp
  · repeat (first | exact Below.refl _ _ | (refine Below.alloc ?_ (by simp <;> omega) _) | (refine Below.setCell ?_ (by simp <;> omega) _))

theorem at_lit {D : DataW Unit} {kl : Lit} {z : DataW Unit} {c : Int} {j : Nat} (h1 : D.atKey kl z = .lit (.int .i64 (j : Int))) (h2 : D.atKey kl z = .lit (.int .i64 c)) : c = (j : Int) := by
  rw [h1] at h2
  injection h2 with h2
  injection h2 with _ h2
  exact h2.symm
set_option maxRecDepth 100000 in
set_option maxHeartbeats 2000000 in
/-- Find where one of the name was, and is live no more. -/
theorem find_no2 {w : World} {B sb bm : Nat} {v : Value} {L : Int} {ns : List Int} {ls : List R} (h : Obj w B sb bm v L ns ls) (n : Int) (hw : (Lit.int .i64 n).wf = true) (j : Nat) (hj : ns[j]? = some n) (hl : isIn ls (j : Int) = false) :
    Calls Tryd.prog 10 #[.pointer (some ⟨sb, 0, none⟩), .int .i64 n] w fun e w' => e = .returned (.tuple #[.agg #[.int .i64 0, .int .i64 0], .iface 48 (.int .i64 5)]) ∧ Below w.heap.size w w' := by
  have hs := h.lt (k := sb) (.inl rfl)
  have hO := h
  obtain ⟨inv, c0, c1, c2, f2, ⟨D, hD, hN⟩, row, _⟩ := h
  have hh : Maps.has D (.int .i64 n) = true := by rw [hN.has]; simpa using List.mem_of_getElem? hj
  have HA : Hid (D.atKey (.int .i64 n) (.lit (.int .i64 0)) = .lit (.int .i64 (j : Int))) := hN.at_ j n hj
  have hkey := Maps.keyOf_int_mk Tryd.underlying3 hw
  have hpos : pos ls (j : Int) = -1 := by
    rcases pos_cases ls (j : Int) with ⟨h1, _⟩ | ⟨_, h2⟩
    · rw [hl] at h1; cases h1
    · exact h2
  have bel : Below w.heap.size w (w.alloc (.cells #[.int .i64 0, .int .i64 0] 29)) := (Below.refl _ _).alloc (Nat.le_refl _) _
  have c1' := (bel.cell (p := ⟨sb, 1, none⟩) hs).trans c1
  have hcon := place_calls (hO.below bel) (j : Int)
  rw [hpos] at hcon
  have hX := IdBox.new w 0 0 29
  clear hN hj hl hpos
  go_enter Tryd.func10, Tryd.ntmps10
  go_wp2_with (first | (at_lookup; refine wpList_lookup_own_ok_int _ rfl _ _ 49 rfl 3 3 .i64 lawI Tryd.underlying49 Tryd.underlying3 (zeroI _) bm _ D rfl (hD.alloc _) _ _ rfl hkey ?_; intro c hat hwc; obtain rfl := at_lit HA.out hat) | (go_at_call 19; refine hcon.mono ?_; rintro e w1 ⟨rfl, hb1⟩; have hX1 := hX.below hb1; obtain ⟨xl, x0, x1, xf0, xf1⟩ := hX1))
  (try simp only [Exit.inBlock, Exit.then])
  refine bodyPost_ret (v := .tuple #[.agg #[.int .i64 0, .int .i64 0], .iface 48 (.int .i64 5)]) ?_ rfl ⟨rfl, ?_⟩
  · rw [results_cell_tmp rfl]; go_simp
  · have hb2 := bel.trans (hb1.mono bel.size)
    repeat (first | exact hb2 | (refine Below.setCell ?_ (by simp <;> omega) _))

set_option maxRecDepth 100000 in
set_option maxHeartbeats 2000000 in
/-- Find of a live one. -/
theorem find_yes {w : World} {B sb bm : Nat} {v : Value} {L : Int} {ns : List Int} {ls : List R} (h : Obj w B sb bm v L ns ls) (n : Int) (hw : (Lit.int .i64 n).wf = true) (j : Nat) (hj : ns[j]? = some n) (hl : isIn ls (j : Int) = true) :
    Calls Tryd.prog 10 #[.pointer (some ⟨sb, 0, none⟩), .int .i64 n] w fun e w' => e = .returned (.tuple #[.agg #[.int .i64 (j : Int), .int .i64 n], .nilIface]) ∧ Below w.heap.size w w' := by
  have hs := h.lt (k := sb) (.inl rfl)
  have hO := h
  obtain ⟨inv, c0, c1, c2, f2, ⟨D, hD, hN⟩, row, _⟩ := h
  have hh : Maps.has D (.int .i64 n) = true := by rw [hN.has]; simpa using List.mem_of_getElem? hj
  have HA : Hid (D.atKey (.int .i64 n) (.lit (.int .i64 0)) = .lit (.int .i64 (j : Int))) := hN.at_ j n hj
  have hkey := Maps.keyOf_int_mk Tryd.underlying3 hw
  obtain ⟨p, hp, hpos, hat'⟩ : ∃ p : Nat, p < ls.length ∧ pos ls (j : Int) = (p : Int) ∧ (at' ls p).1 = (j : Int) := by
    rcases pos_cases ls (j : Int) with ⟨_, h2⟩ | ⟨h1, _⟩
    · exact h2
    · rw [hl] at h1; cases h1
  have hx : at' ls p = ((j : Int), n) := inv.same (at_mem hp) hj hat'
  have bel : Below w.heap.size w (w.alloc (.cells #[.int .i64 0, .int .i64 0] 29)) := (Below.refl _ _).alloc (Nat.le_refl _) _
  have c1' := (bel.cell (p := ⟨sb, 1, none⟩) hs).trans c1
  have hcon := place_calls (hO.below bel) (j : Int)
  rw [hpos] at hcon
  have hX := IdBox.new w 0 0 29
  have hm : ls.length ≤ 8 := by have := inv.full; have := inv.l8; omega
  obtain ⟨g, cap, rfl⟩ : ∃ g cap, v = .slice (some ⟨g, 0, none⟩) ls.length cap := by
    rcases row.2 with ⟨_, e⟩ | ⟨g, cap, cur, e, _⟩
    · omega
    · exact ⟨g, cap, e⟩
  have hgl := (row.lt g rfl).2
  have hcl := cells_of_own row p hp
  rw [hx] at hcl
  rw [Nat.zero_add] at hcl
  have hi1 : (p : Int) < (ls.length : Int) := by omega
  clear hN hj hl hpos row hat' hx inv
  generalize ls.length = m at *
  go_enter Tryd.func10, Tryd.ntmps10
  go_wp2_with (first | (at_lookup; refine wpList_lookup_own_ok_int _ rfl _ _ 49 rfl 3 3 .i64 lawI Tryd.underlying49 Tryd.underlying3 (zeroI _) bm _ D rfl (hD.alloc _) _ _ rfl hkey ?_; intro c hat hwc; obtain rfl := at_lit HA.out hat) | (go_at_call 19; refine hcon.mono ?_; rintro e w1 ⟨rfl, hb1⟩; have hX1 := hX.below hb1; obtain ⟨xl, x0, x1, xf0, xf1⟩ := hX1; have hb2 := bel.trans (hb1.mono bel.size); have k2 := (hb2.cell (p := ⟨sb, 2, none⟩) hs).trans c2; have g0 := (hb2.cell (p := ⟨g, p * 2, none⟩) hgl).trans hcl.1; have g1 := (hb2.cell (p := ⟨g, p * 2 + 1, none⟩) hgl).trans hcl.2))
  (try simp only [Exit.inBlock, Exit.then])
  refine bodyPost_ret (v := .tuple #[.agg #[.int .i64 (j : Int), .int .i64 n], .nilIface]) ?_ rfl ⟨rfl, ?_⟩
  · rw [results_cell_tmp rfl]; go_simp
  · repeat (first | exact hb2 | (refine Below.setCell ?_ (by simp <;> omega) _))

set_option maxRecDepth 100000 in
set_option maxHeartbeats 2000000 in
/-- Live: the live ones, in a slice of the call's own. -/
theorem live_calls {w : World} {B sb bm : Nat} {v : Value} {L : Int} {ns : List Int} {ls : List R} (h : Obj w B sb bm v L ns ls) :
    Calls Tryd.prog 11 #[.pointer (some ⟨sb, 0, none⟩)] w fun e w' => ∃ u, e = .returned u ∧ w'.ownsRow w.heap.size 29 2 u ls.length (flat ls) ∧ Below w.heap.size w w' := by
  have hs := h.lt (k := sb) (.inl rfl)
  obtain ⟨inv, c0, c1, c2, f2, _, row, _⟩ := h
  have hm : ls.length ≤ 8 := by have := inv.full; have := inv.l8; omega
  have hcon : Calls Tryd.prog 22 #[v] w fun e w' => ∃ u, e = .returned u ∧ w'.ownsRow w.heap.size 29 2 u ls.length (flat ls) ∧ Below w.heap.size w w' := by
    rcases row.2 with ⟨rfl, e0⟩ | ⟨g, cap, cur, rfl, _⟩
    · have e1 : ls = [] := List.eq_nil_of_length_eq_zero e0
      subst e1
      have hc := AnyE.slices_Clone_nil Tryd.lc 0 0 w
      change Calls Tryd.prog 22 _ _ _ at hc
      exact hc.mono fun e w' ⟨he, hw⟩ => ⟨_, he, World.ownsRow_nil _ _ _ _, hw ▸ Below.refl _ _⟩
    · obtain ⟨i0, hi, hz0, hz1, hz2⟩ := info_parts infoR
      have hcl := cells_of_own row
      have hc := AnyE.slices_Clone Tryd.lc i0 _ 2 16 hi hz0 hz1 hz2 rfl (by decide) Tryd.sizeOf29 g 0 ls.length cap (flat ls) w (flat_length ls) (by unfold maxLen; omega) (by omega) (fun j u hu => by have := flat_cells hcl j u hu; rw [Addr.add_lit] at this; exact this) (fun u hu => flat_one u hu)
      change Calls Tryd.prog 22 _ _ _ at hc
      exact hc.mono fun e w' ⟨u, he, ho, _, hb⟩ => ⟨u, he, ho, hb⟩
  obtain ⟨a, cap, rfl⟩ : ∃ a cap, v = .slice a ls.length cap := by
    rcases row.2 with ⟨rfl, e⟩ | ⟨g, cap, cur, rfl, _⟩
    · exact ⟨none, 0, by rw [e]⟩
    · exact ⟨_, _, rfl⟩
  clear row inv
  generalize flat ls = fl at *
  generalize ls.length = m at *
  go_enter Tryd.func11, Tryd.ntmps11
  go_wp2_with (go_at_call 22; refine hcon.mono ?_; rintro e w1 ⟨u, rfl, ho, hb1⟩)
  go_ret
  exact ⟨u, rfl, ho, hb1⟩
end Go.Proofs.YtlmllfakoglbcaaDoor
