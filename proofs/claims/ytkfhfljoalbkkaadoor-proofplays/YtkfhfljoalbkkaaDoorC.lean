/- Ask. -/
import Derived.Test.YtkfhfljoalbkkaaDoorB
namespace Go.Proofs.YtkfhfljoalbkkaaDoor
open Go.RowKit Go.Lib Go.Sort
set_option linter.unusedVariables false
set_option linter.unusedSimpArgs false

theorem wf_num {p n t : Int} (h : rightB p n t = true) : (Lit.int .i64 n).wf = true := by
  have := right_of h
  exact WalkArith.wf_i64 (by omega)
set_option maxRecDepth 100000 in
set_option maxHeartbeats 2000000 in
theorem ask_range {w : World} {B sb bm : Nat} {ls : List T} (h : Obj w B sb bm ls) (p n t : Int) (hb : rightB p n t = false) : Calls Tryd.prog 7 #[.pointer (some ⟨sb, 0, none⟩), .int .i64 p, .int .i64 n, .int .i64 t] w fun e w' => e = .returned (.iface 48 (.int .i64 1)) ∧ Below w.heap.size w w' := by
  clear h
  go_enter Tryd.func7, Tryd.ntmps7
  go_wp2_with (go_at_call 13; refine (isRight_calls p n t _).mono ?_; rintro e w1 ⟨rfl, rfl⟩; rw [hb])
  go_ret
  exact ⟨rfl, Below.refl _ _⟩
set_option maxRecDepth 100000 in
set_option maxHeartbeats 2000000 in
theorem ask_clash {w : World} {B sb bm : Nat} {ls : List T} (h : Obj w B sb bm ls) (p n t : Int) (hb : rightB p n t = true) (hn : isIn ls n = true) : Calls Tryd.prog 7 #[.pointer (some ⟨sb, 0, none⟩), .int .i64 p, .int .i64 n, .int .i64 t] w fun e w' => e = .returned (.iface 48 (.int .i64 7)) ∧ Below w.heap.size w w' := by
  obtain ⟨inv, c0, ⟨D, hD, hN⟩, _⟩ := h
  have hh : Maps.has D (.int .i64 n) = true := by rw [hN.has]; exact hn
  have hkey := Maps.keyOf_int_mk Tryd.underlying3 (wf_num hb)
  clear hn hN inv
  go_enter Tryd.func7, Tryd.ntmps7
  go_wp2_with (first | (go_at_call 13; refine (isRight_calls p n t _).mono ?_; rintro e w1 ⟨rfl, rfl⟩; rw [hb]) | (at_lookup; refine wpList_lookup_pair _ rfl _ _ 44 rfl 3 50 lawI Tryd.underlying44 (zeroA _) bm _ D rfl hD _ _ rfl hkey ?_; intro c d hat; rw [hh]))
  go_ret
  exact ⟨rfl, by repeat (first | exact Below.refl _ _ | assumption | (refine Below.alloc ?_ (by simp <;> omega) _) | (refine Below.setCell ?_ (by simp <;> omega) _))⟩
set_option maxRecDepth 100000 in
set_option maxHeartbeats 2000000 in
theorem ask_full {w : World} {B sb bm : Nat} {ls : List T} (h : Obj w B sb bm ls) (p n t : Int) (hb : rightB p n t = true) (hn : isIn ls n = false) (hf : (8 : Int) ≤ (ls.length : Int)) : Calls Tryd.prog 7 #[.pointer (some ⟨sb, 0, none⟩), .int .i64 p, .int .i64 n, .int .i64 t] w fun e w' => e = .returned (.iface 48 (.int .i64 4)) ∧ Below w.heap.size w w' := by
  have hO := h
  obtain ⟨inv, c0, ⟨D, hD, hN⟩, _⟩ := h
  have hh : Maps.has D (.int .i64 n) = false := by rw [hN.has]; exact hn
  have hkey := Maps.keyOf_int_mk Tryd.underlying3 (wf_num hb)
  clear inv hN hn
  go_enter Tryd.func7, Tryd.ntmps7
  go_upto_region 6 with (first | (go_at_call 13; refine (isRight_calls p n t _).mono ?_; rintro e w1 ⟨rfl, rfl⟩; rw [hb]) | (at_lookup; refine wpList_lookup_pair _ rfl _ _ 44 rfl 3 50 lawI Tryd.underlying44 (zeroA _) bm _ D rfl hD _ _ rfl hkey ?_; intro c d hat; rw [hh]))
  have bel : Below w1.heap.size w1 (w1.alloc (.cells #[.int .i64 c, .int .i64 d] 50)) := (Below.refl _ _).alloc (Nat.le_refl _) _
  have hO2 := hO.below bel
  generalize w1.alloc (.cells #[.int .i64 c, .int .i64 d] 50) = W at bel hO2 ⊢
  have c2 := hO2.c0
  obtain ⟨D2, hD2, hN2⟩ := hO2.map
  clear hO hD hh hkey hat c0
  go_wp2_with (at_len; refine wpList_len_own _ rfl _ 44 rfl 3 50 Tryd.underlying44 _ bm _ D2 rfl hD2 ?_; rw [hN2.size])
  go_ret
  exact ⟨rfl, bel⟩
set_option maxRecDepth 100000 in
set_option maxHeartbeats 2000000 in
theorem ask_yes {w : World} {B sb bm : Nat} {ls : List T} (h : Obj w B sb bm ls) (p n t : Int) (hb : rightB p n t = true) (hn : isIn ls n = false) (hf : (ls.length : Int) < 8) : Calls Tryd.prog 7 #[.pointer (some ⟨sb, 0, none⟩), .int .i64 p, .int .i64 n, .int .i64 t] w fun e w' => e = .returned .nilIface ∧ Obj w' B sb bm (ls ++ [(p, n, t)]) ∧ Off (own sb bm) w w' := by
  have hO := h
  have INV : Hid (Inv (ls ++ [(p, n, t)])) := h.inv.more hb hn (by omega)
  have HN : Hid (isIn ls n = false) := hn
  obtain ⟨inv, c0, ⟨D, hD, hN⟩, _⟩ := h
  have hh : Maps.has D (.int .i64 n) = false := by rw [hN.has]; exact hn
  have hkey := Maps.keyOf_int_mk Tryd.underlying3 (wf_num hb)
  clear inv hN hn
  go_enter Tryd.func7, Tryd.ntmps7
  go_upto_region 6 with (first | (go_at_call 13; refine (isRight_calls p n t _).mono ?_; rintro e w1 ⟨rfl, rfl⟩; rw [hb]) | (at_lookup; refine wpList_lookup_pair _ rfl _ _ 44 rfl 3 50 lawI Tryd.underlying44 (zeroA _) bm _ D rfl hD _ _ rfl hkey ?_; intro c d hat; rw [hh]))
  have bel : Below w1.heap.size w1 (w1.alloc (.cells #[.int .i64 c, .int .i64 d] 50)) := (Below.refl _ _).alloc (Nat.le_refl _) _
  have hO2 := hO.below bel
  generalize w1.alloc (.cells #[.int .i64 c, .int .i64 d] 50) = W at bel hO2 ⊢
  have c2 := hO2.c0
  obtain ⟨D2, hD2, hN2⟩ := hO2.map
  clear hO hD hh hat c0
  have hfew : ls.length < maxLen := by unfold maxLen; omega
  go_wp2_with (first | (at_len; refine wpList_len_own _ rfl _ 44 rfl 3 50 Tryd.underlying44 _ bm _ D2 rfl hD2 ?_; rw [hN2.size]) | (at_mapUpdate; refine wpList_mapUpdate_in _ rfl _ _ _ 44 rfl 3 50 lawI Tryd.underlying44 pairElem bm _ D2 rfl hD2 hfew _ _ _ rfl rfl hkey _ [] (pairElem_mk p t) ?_; intro w3 hm3 ht3))
  go_ret
  have o3 : Off (fun k => k = bm) W w3 := Off.of_grown ht3.grown (fun k e => (Option.some.inj e).symm)
  exact ⟨rfl, hO2.turn o3 hm3 (hN2.put (hD2.tidy lawI) HN.out) INV.out, (Off.of_below bel).trans (o3.mono (fun k _ e => .inr e))⟩
theorem ask_calls {w : World} {B sb bm : Nat} {ls : List T} (h : Obj w B sb bm ls) (p n t : Int) : Calls Tryd.prog 7 #[.pointer (some ⟨sb, 0, none⟩), .int .i64 p, .int .i64 n, .int .i64 t] w fun e w' => e = .returned (errV (askF ls p n t)) ∧ Obj w' B sb bm (askL ls p n t) ∧ Off (own sb bm) w w' := by
  have key : ∀ f : Int, f ≠ 0 → askF ls p n t = f → (Calls Tryd.prog 7 #[.pointer (some ⟨sb, 0, none⟩), .int .i64 p, .int .i64 n, .int .i64 t] w fun e w' => e = .returned (.iface 48 (.int .i64 f)) ∧ Below w.heap.size w w') → (Calls Tryd.prog 7 #[.pointer (some ⟨sb, 0, none⟩), .int .i64 p, .int .i64 n, .int .i64 t] w fun e w' => e = .returned (errV (askF ls p n t)) ∧ Obj w' B sb bm (askL ls p n t) ∧ Off (own sb bm) w w') := fun f h0 hf hc => by
    rw [askL_no (by rw [hf]; exact h0), hf, errV_f h0]
    exact hc.mono fun e w' ⟨h1, h2⟩ => ⟨h1, h.below h2, Off.of_below h2⟩
  cases hb : rightB p n t with
  | false => exact key 1 (by decide) (askF_range hb) (ask_range h p n t hb)
  | true =>
    cases hn : isIn ls n with
    | true => exact key 7 (by decide) (askF_clash hb hn) (ask_clash h p n t hb hn)
    | false =>
      by_cases hf : ls.length < 8
      · have e := askF_yes hb hn hf
        rw [askL_yes e, e]
        exact ask_yes h p n t hb hn (by omega)
      · exact key 4 (by decide) (askF_full hb hn (by omega)) (ask_full h p n t hb hn (by omega))
end Go.Proofs.YtkfhfljoalbkkaaDoor
