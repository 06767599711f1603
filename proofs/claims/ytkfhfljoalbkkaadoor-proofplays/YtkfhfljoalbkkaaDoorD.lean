/- Answer. -/
import Derived.Test.YtkfhfljoalbkkaaDoorC
namespace Go.Proofs.YtkfhfljoalbkkaaDoor
open Go.RowKit Go.Lib Go.Sort
set_option linter.unusedVariables false
set_option linter.unusedSimpArgs false

/-- 'v, ok := m[k]' where it is known what stands there. -/
theorem wpList_lookup_at {P : Program} (w : World) {ops : Array Oper} {rest : List Oper} {o : Oper} {a : Act} {Q : Exit → Act → World → Prop} (hg : o.guard = none) (m x : Operand) (t : TypeId) (hop : o.op = Op.lookup t m x true)
    (k e : TypeId) (K : Maps.Keyed P k) (ht : P.underlying t = some (.map k e)) (hz : (zeroValue e).run P w = .ok (.agg #[.int .i64 0, .int .i64 0]) w) (b n : Nat) (D : DataW Unit)
    (hm : a.eval m = .map (some b)) (hown : w.ownsMap P k pairElem b n D) (key : Value) (kl : Lit) (hx : a.eval x = key) (hkey : keyOf P k key = some kl)
    {c d : Int} (hat : D.atKey kl zed = .agg [.lit (.int .i64 c), .lit (.int .i64 d)]) (hK : wpList P ops Q rest (a.put o.dst (.tuple #[.agg #[.int .i64 c, .int .i64 d], .bool (Maps.has D kl)])) w) :
    wpList P ops Q (o :: rest) a w :=
  wpList_lookup_pair w hg m x t hop k e K ht hz b n D hm hown key kl hx hkey (fun c' d' h' => by
    rw [hat] at h'
    injection h' with h'
    injection h' with h1 h2
    injection h2 with h2 _
    injection h1 with h1
    injection h2 with h2
    injection h1 with _ h1
    injection h2 with _ h2
    subst h1; subst h2
    exact hK)
set_option maxRecDepth 100000 in
set_option maxHeartbeats 2000000 in
theorem ans_range {w : World} {B sb bm : Nat} {ls : List T} (h : Obj w B sb bm ls) (p n t l : Int) (hb : rightB p n t = false) : Calls Tryd.prog 8 #[.pointer (some ⟨sb, 0, none⟩), .int .i64 p, .int .i64 n, .int .i64 t, .int .i64 l] w fun e w' => e = .returned (.tuple #[.bool false, .iface 48 (.int .i64 1)]) ∧ Below w.heap.size w w' := by
  clear h
  go_enter Tryd.func8, Tryd.ntmps8
  go_wp2_with (go_at_call 13; refine (isRight_calls p n t _).mono ?_; rintro e w1 ⟨rfl, rfl⟩; rw [hb])
  go_ret2
  exact ⟨rfl, Below.refl _ _⟩
set_option maxRecDepth 100000 in
set_option maxHeartbeats 2000000 in
theorem ans_limit {w : World} {B sb bm : Nat} {ls : List T} (h : Obj w B sb bm ls) (p n t l : Int) (hb : rightB p n t = true) (hl : timeB l = false) : Calls Tryd.prog 8 #[.pointer (some ⟨sb, 0, none⟩), .int .i64 p, .int .i64 n, .int .i64 t, .int .i64 l] w fun e w' => e = .returned (.tuple #[.bool false, .iface 48 (.int .i64 1)]) ∧ Below w.heap.size w w' := by
  clear h
  go_enter Tryd.func8, Tryd.ntmps8
  go_wp2_with (first | (go_at_call 13; refine (isRight_calls p n t _).mono ?_; rintro e w1 ⟨rfl, rfl⟩; rw [hb]) | (go_at_call 14; refine (isTime_calls l _).mono ?_; rintro e w2 ⟨rfl, rfl⟩; rw [hl]))
  go_ret2
  exact ⟨rfl, Below.refl _ _⟩
set_option maxRecDepth 100000 in
set_option maxHeartbeats 2000000 in
theorem ans_none {w : World} {B sb bm : Nat} {ls : List T} (h : Obj w B sb bm ls) (p n t l : Int) (hb : rightB p n t = true) (hl : timeB l = true) (hn : isIn ls n = false) : Calls Tryd.prog 8 #[.pointer (some ⟨sb, 0, none⟩), .int .i64 p, .int .i64 n, .int .i64 t, .int .i64 l] w fun e w' => e = .returned (.tuple #[.bool false, .nilIface]) ∧ Below w.heap.size w w' := by
  obtain ⟨inv, c0, ⟨D, hD, hN⟩, _⟩ := h
  have hh : Maps.has D (.int .i64 n) = false := by rw [hN.has]; exact hn
  have hkey := Maps.keyOf_int_mk Tryd.underlying3 (wf_num hb)
  clear inv hN hn
  go_enter Tryd.func8, Tryd.ntmps8
  go_wp2_with (first | (go_at_call 13; refine (isRight_calls p n t _).mono ?_; rintro e w1 ⟨rfl, rfl⟩; rw [hb]) | (go_at_call 14; refine (isTime_calls l _).mono ?_; rintro e w2 ⟨rfl, rfl⟩; rw [hl]) | (at_lookup; refine wpList_lookup_pair _ rfl _ _ 44 rfl 3 50 lawI Tryd.underlying44 (zeroA _) bm _ D rfl hD _ _ rfl hkey ?_; intro c d hat; rw [hh]))
  go_ret2
  exact ⟨rfl, ((Below.refl _ _).alloc (Nat.le_refl _) _)⟩

set_option maxRecDepth 100000 in
set_option maxHeartbeats 2000000 in
theorem ans_path {w : World} {B sb bm : Nat} {ls : List T} (h : Obj w B sb bm ls) (p n t l : Int) (a b : Int) (hx : (a, n, b) ∈ ls) (hb : rightB p n t = true) (hl : timeB l = true) (q : a ≠ p) : Calls Tryd.prog 8 #[.pointer (some ⟨sb, 0, none⟩), .int .i64 p, .int .i64 n, .int .i64 t, .int .i64 l] w fun e w' => e = .returned (.tuple #[.bool false, .nilIface]) ∧ Below w.heap.size w w' := by
  have hr := right_of (h.inv.right _ hx)
  have hr2 := right_of hb
  obtain ⟨inv, c0, ⟨D, hD, hN⟩, _⟩ := h
  have hh : Maps.has D (.int .i64 n) = true := by rw [hN.has]; exact isIn_of hx rfl
  have hat := hN.at_ _ hx
  have hkey := Maps.keyOf_int_mk Tryd.underlying3 (wf_num hb)
  clear inv hN hx
  go_enter Tryd.func8, Tryd.ntmps8
  go_wp2_with (first | (go_at_call 13; refine (isRight_calls p n t _).mono ?_; rintro e w1 ⟨rfl, rfl⟩; rw [hb]) | (go_at_call 14; refine (isTime_calls l _).mono ?_; rintro e w2 ⟨rfl, rfl⟩; rw [hl]) | (at_lookup; refine wpList_lookup_at _ rfl _ _ 44 rfl 3 50 lawI Tryd.underlying44 (zeroA _) bm _ D rfl hD _ _ rfl hkey hat ?_; rw [hh]))
  go_ret2
  exact ⟨rfl, ((Below.refl _ _).alloc (Nat.le_refl _) _)⟩

set_option maxRecDepth 100000 in
set_option maxHeartbeats 2000000 in
theorem ans_early {w : World} {B sb bm : Nat} {ls : List T} (h : Obj w B sb bm ls) (p n t l : Int) (b : Int) (hx : (p, n, b) ∈ ls) (hb : rightB p n t = true) (hl : timeB l = true) (q : t < b) : Calls Tryd.prog 8 #[.pointer (some ⟨sb, 0, none⟩), .int .i64 p, .int .i64 n, .int .i64 t, .int .i64 l] w fun e w' => e = .returned (.tuple #[.bool false, .nilIface]) ∧ Below w.heap.size w w' := by
  have hr := right_of (h.inv.right _ hx)
  have hr2 := right_of hb
  obtain ⟨inv, c0, ⟨D, hD, hN⟩, _⟩ := h
  have hh : Maps.has D (.int .i64 n) = true := by rw [hN.has]; exact isIn_of hx rfl
  have hat := hN.at_ _ hx
  have hkey := Maps.keyOf_int_mk Tryd.underlying3 (wf_num hb)
  clear inv hN hx
  go_enter Tryd.func8, Tryd.ntmps8
  go_wp2_with (first | (go_at_call 13; refine (isRight_calls p n t _).mono ?_; rintro e w1 ⟨rfl, rfl⟩; rw [hb]) | (go_at_call 14; refine (isTime_calls l _).mono ?_; rintro e w2 ⟨rfl, rfl⟩; rw [hl]) | (at_lookup; refine wpList_lookup_at _ rfl _ _ 44 rfl 3 50 lawI Tryd.underlying44 (zeroA _) bm _ D rfl hD _ _ rfl hkey hat ?_; rw [hh]))
  go_ret2
  exact ⟨rfl, ((Below.refl _ _).alloc (Nat.le_refl _) _)⟩

set_option maxRecDepth 100000 in
set_option maxHeartbeats 2000000 in
theorem ans_late {w : World} {B sb bm : Nat} {ls : List T} (h : Obj w B sb bm ls) (p n t l : Int) (b : Int) (hx : (p, n, b) ∈ ls) (hb : rightB p n t = true) (hl : timeB l = true) (q1 : b ≤ t) (q : l < t - b) : Calls Tryd.prog 8 #[.pointer (some ⟨sb, 0, none⟩), .int .i64 p, .int .i64 n, .int .i64 t, .int .i64 l] w fun e w' => e = .returned (.tuple #[.bool false, .nilIface]) ∧ Below w.heap.size w w' := by
  have hr := right_of (h.inv.right _ hx)
  have hr2 := right_of hb
  obtain ⟨inv, c0, ⟨D, hD, hN⟩, _⟩ := h
  have hh : Maps.has D (.int .i64 n) = true := by rw [hN.has]; exact isIn_of hx rfl
  have hat := hN.at_ _ hx
  have hkey := Maps.keyOf_int_mk Tryd.underlying3 (wf_num hb)
  clear inv hN hx
  go_enter Tryd.func8, Tryd.ntmps8
  go_wp2_with (first | (go_at_call 13; refine (isRight_calls p n t _).mono ?_; rintro e w1 ⟨rfl, rfl⟩; rw [hb]) | (go_at_call 14; refine (isTime_calls l _).mono ?_; rintro e w2 ⟨rfl, rfl⟩; rw [hl]) | (at_lookup; refine wpList_lookup_at _ rfl _ _ 44 rfl 3 50 lawI Tryd.underlying44 (zeroA _) bm _ D rfl hD _ _ rfl hkey hat ?_; rw [hh]))
  go_ret2
  exact ⟨rfl, ((Below.refl _ _).alloc (Nat.le_refl _) _)⟩

set_option maxRecDepth 100000 in
set_option maxHeartbeats 2000000 in
theorem ans_yes {w : World} {B sb bm : Nat} {ls : List T} (h : Obj w B sb bm ls) (p n t l : Int) (b : Int) (hx : (p, n, b) ∈ ls) (hb : rightB p n t = true) (hl : timeB l = true) (q1 : b ≤ t) (q : t - b ≤ l) : Calls Tryd.prog 8 #[.pointer (some ⟨sb, 0, none⟩), .int .i64 p, .int .i64 n, .int .i64 t, .int .i64 l] w fun e w' => e = .returned (.tuple #[.bool true, .nilIface]) ∧ Obj w' B sb bm (gone ls n) ∧ Off (own sb bm) w w' := by
  have hr := right_of (h.inv.right _ hx)
  have hr2 := right_of hb
  have hO := h
  have HX : Hid ((p, n, b) ∈ ls) := hx
  obtain ⟨inv, c0, ⟨D, hD, hN⟩, _⟩ := h
  have hh : Maps.has D (.int .i64 n) = true := by rw [hN.has]; exact isIn_of hx rfl
  have hat := hN.at_ _ hx
  have hkey := Maps.keyOf_int_mk Tryd.underlying3 (wf_num hb)
  clear inv hN hx
  go_enter Tryd.func8, Tryd.ntmps8
  go_upto_region 6 with (first | (go_at_call 13; refine (isRight_calls p n t _).mono ?_; rintro e w1 ⟨rfl, rfl⟩; rw [hb]) | (go_at_call 14; refine (isTime_calls l _).mono ?_; rintro e w2 ⟨rfl, rfl⟩; rw [hl]) | (at_lookup; refine wpList_lookup_at _ rfl _ _ 44 rfl 3 50 lawI Tryd.underlying44 (zeroA _) bm _ D rfl hD _ _ rfl hkey hat ?_; rw [hh]))
  have bel : Below w2.heap.size w2 (w2.alloc (.cells #[.int .i64 p, .int .i64 b] 50)) := ((Below.refl _ _).alloc (Nat.le_refl _) _)
  have hO2 := hO.below bel
  generalize w2.alloc (.cells #[.int .i64 p, .int .i64 b] 50) = W at bel hO2 ⊢
  have c2 := hO2.c0
  obtain ⟨D2, hD2, hN2⟩ := hO2.map
  clear hO hD hh hat c0
  go_wp2_with (at_delete; refine wpList_delete_own _ rfl _ _ 44 3 rfl 50 lawI Tryd.underlying44 pairElem bm _ D2 rfl hD2 _ _ rfl hkey ?_; intro w3 hm3 ht3)
  go_ret2
  have o3 : Off (fun k => k = bm) W w3 := Off.of_grown ht3.grown (fun k e => (Option.some.inj e).symm)
  exact ⟨rfl, hO2.turn o3 hm3 (hN2.del (hD2.tidy lawI) hO2.inv HX.out) (hO2.inv.gone n), (Off.of_below bel).trans (o3.mono (fun k _ e => .inr e))⟩
theorem ans_calls {w : World} {B sb bm : Nat} {ls : List T} (h : Obj w B sb bm ls) (p n t l : Int) : Calls Tryd.prog 8 #[.pointer (some ⟨sb, 0, none⟩), .int .i64 p, .int .i64 n, .int .i64 t, .int .i64 l] w fun e w' => e = .returned (.tuple #[.bool (ansB ls p n t l), errV (ansF p n t l)]) ∧ Obj w' B sb bm (ansL ls p n t l) ∧ Off (own sb bm) w w' := by
  have key : ansF p n t l = 0 → ansB ls p n t l = false → (Calls Tryd.prog 8 #[.pointer (some ⟨sb, 0, none⟩), .int .i64 p, .int .i64 n, .int .i64 t, .int .i64 l] w fun e w' => e = .returned (.tuple #[.bool false, .nilIface]) ∧ Below w.heap.size w w') → (Calls Tryd.prog 8 #[.pointer (some ⟨sb, 0, none⟩), .int .i64 p, .int .i64 n, .int .i64 t, .int .i64 l] w fun e w' => e = .returned (.tuple #[.bool (ansB ls p n t l), errV (ansF p n t l)]) ∧ Obj w' B sb bm (ansL ls p n t l) ∧ Off (own sb bm) w w') := fun h0 h1 hc => by
    rw [ansL_no h1, h1, h0, errV_0]
    exact hc.mono fun e w' ⟨h1, h2⟩ => ⟨h1, h.below h2, Off.of_below h2⟩
  have key1 : ¬ (rightB p n t = true ∧ timeB l = true) → (Calls Tryd.prog 8 #[.pointer (some ⟨sb, 0, none⟩), .int .i64 p, .int .i64 n, .int .i64 t, .int .i64 l] w fun e w' => e = .returned (.tuple #[.bool false, .iface 48 (.int .i64 1)]) ∧ Below w.heap.size w w') → (Calls Tryd.prog 8 #[.pointer (some ⟨sb, 0, none⟩), .int .i64 p, .int .i64 n, .int .i64 t, .int .i64 l] w fun e w' => e = .returned (.tuple #[.bool (ansB ls p n t l), errV (ansF p n t l)]) ∧ Obj w' B sb bm (ansL ls p n t l) ∧ Off (own sb bm) w w') := fun h0 hc => by
    have h1 := ansF_no h0
    have h2 := ansB_no (ls := ls) (show ansF p n t l ≠ 0 by rw [h1]; decide)
    rw [ansL_no h2, h2, h1, errV_f (by decide)]
    exact hc.mono fun e w' ⟨h1, h2⟩ => ⟨h1, h.below h2, Off.of_below h2⟩
  cases hb : rightB p n t with
  | false => exact key1 (fun e => by rw [hb] at e; cases e.1) (ans_range h p n t l hb)
  | true =>
    cases hl : timeB l with
    | false => exact key1 (fun e => by rw [hl] at e; cases e.2) (ans_limit h p n t l hb hl)
    | true =>
      have h0 := ansF_yes hb hl
      have h1 := ansB_eq (ls := ls) h0
      cases hn : isIn ls n with
      | false => exact key h0 (by rw [h1]; exact soB_none hn _ _ _) (ans_none h p n t l hb hl hn)
      | true =>
        obtain ⟨⟨a, m, b⟩, hx, hm⟩ := isIn_yes hn
        have hm : m = n := hm
        subst hm
        have h2 : soB ls p m t l = decide (a = p ∧ b ≤ t ∧ t - b ≤ l) := soB_of h.inv hx p t l
        by_cases e1 : a = p
        · subst e1
          by_cases e2 : t < b
          · exact key h0 (by rw [h1, h2]; exact decide_eq_false (fun e => by omega)) (ans_early h a m t l b hx hb hl e2)
          · by_cases e3 : t - b ≤ l
            · have h3 : ansB ls a m t l = true := by rw [h1, h2]; exact decide_eq_true ⟨rfl, by omega, e3⟩
              rw [ansL_yes h3, h3, h0, errV_0]
              exact ans_yes h a m t l b hx hb hl (by omega) e3
            · exact key h0 (by rw [h1, h2]; exact decide_eq_false (fun e => e3 e.2.2)) (ans_late h a m t l b hx hb hl (by omega) (by omega))
        · exact key h0 (by rw [h1, h2]; exact decide_eq_false (fun e => e1 e.1)) (ans_path h p m t l a b hx hb hl e1)
end Go.Proofs.YtkfhfljoalbkkaaDoor
