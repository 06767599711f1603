/- What takeAck answers, and what it leaves. -/
import Derived.Test.YtoabfilliiopmaaGreatDoorEY
import Derived.Test.YtoabfilliiopmaaGreatDoorGF
import Derived.Test.YtoabfilliiopmaaGreatDoorGA
import Derived.Great.Walk
namespace Go.Proofs.YtoabfilliiopmaaGreatDoor
open Go.RowKit Go.Shelf Go.Lib
attribute [local go_sem] Oper.semAt_some
set_option linter.unusedVariables false
set_option linter.unusedSimpArgs false


theorem ownFrom_EO {β : Type} {N B eb : Nat} {vl vc : Value} (hN : ∀ k, OwnE eb vl vc k → k < N) (f : β → En) : OwnFrom N (fun s W => EO W B eb vl vc (f s)) := fun s W W' row hs hg hr =>
  hs.off (K := fun k => row = some k) (Off.of_grown hg fun k e => e) fun k hk e => by
    have := hN k hk
    have := (hr k e).1
    omega
theorem ownFrom_Off {β : Type} {N eb : Nat} {w0 : World} (hN : w0.heap.size ≤ N) : OwnFrom N (fun (_ : β) W => Off (fun k => k = eb) w0 W) := fun s W W' row hs hg hr => by
  have o : Off (fun k => row = some k) W W' := Off.of_grown hg fun k e => e
  refine ⟨o.os.trans hs.os, o.tape.trans hs.tape, o.output.trans hs.output, Nat.le_trans hs.size o.size, fun k hk hn => ?_⟩
  rw [o.block k (Nat.lt_of_lt_of_le hk hs.size) (fun e => by have := (hr k e).1; omega)]
  exact hs.block k hk hn
theorem ecell_k {e : En} {z : Int} {vl vc : Value} {i : Nat} (h : i ≠ 123) : ecell { e with k := z } vl vc i = ecell e vl vc i := by
  unfold ecell
  simp only [h, if_false]
theorem EO.setK {w : World} {B eb : Nat} {vl vc : Value} {e : En} {l z : Int} (h : EO w B eb vl vc e) (hi : EInv { e with k := l }) (hz : z = l) : TurnI w (w.setCell ⟨eb, 123, none⟩ (.int .i64 z)) B eb vl vc { e with k := l } := by
  subst hz
  have o : Off (fun k => k = eb) w (w.setCell ⟨eb, 123, none⟩ (.int .i64 z)) := (Off.refl _ _).setCell (K := fun k => k = eb) (a := ⟨eb, 123, none⟩) rfl _
  refine ⟨⟨hi, fun i hi => ?_, fun i => by simpa using h.fz i, h.hs, o.row h.ld (fun k hk e' => by subst e'; exact h.ap.1 hk), o.row h.cm (fun k hk e' => by subst e'; exact h.ap.2 hk), h.ap⟩, o⟩
  by_cases e1 : i = 123
  · subst e1
    exact World.cell?_setCell_same _ _ _ (h.cl 123 (by omega))
  · rw [World.cell?_setCell_other _ _ _ _ (fun e' => by injection e' with _ e' _; exact e1 e'.symm), h.cl i hi]
    exact congrArg some (ecell_k e1).symm
theorem EInv.setK {e : En} {z : Int} (h : EInv e) (h0 : -1 ≤ z) (h1 : z < e.m) : EInv { e with k := max e.k z } :=
  ⟨h.d60, h.t1, h.l0, h.l1, h.m1, by have := h.k0; simp only; omega, by have := h.k1; simp only; omega, h.ls, h.s, h.c, h.cm, h.ll⟩
set_option maxRecDepth 100000 in
set_option maxHeartbeats 4000000 in
theorem ack_no {w : World} {B eb g off L C : Nat} {vl vc : Value} {e : En} {z0 : Int} (h : EO w B eb vl vc e) (hg : g < w.heap.size) (hL : 1 ≤ L) (hc0 : w.cell? ⟨g, off, none⟩ = some (.int .i64 z0)) (hz : (e.m : Int) ≤ z0) :
    Calls Tryz.prog 91 #[.pointer (some ⟨eb, 0, none⟩), .slice (some ⟨g, off, none⟩) L C] w fun ex w' => ex = .returned (errV 6) ∧ TurnI w w' B eb vl vc e := by
  have HO : Hid (EO w B eb vl vc e) := h
  have hb0 : Below w.heap.size w (w.alloc (.cells #[.pointer (some ⟨eb, 0, none⟩)] 22)) := (Below.refl _ _).alloc (Nat.le_refl _) _
  have HB0 : Hid (Below w.heap.size w (w.alloc (.cells #[.pointer (some ⟨eb, 0, none⟩)] 22))) := hb0
  have c122 := (hb0.cell (p := ⟨eb, 122, none⟩) h.lt).trans (h.cl 122 (by omega))
  rw [ecell_made] at c122
  have d0 := (hb0.cell (p := ⟨g, off, none⟩) hg).trans hc0
  have q0 : (w.alloc (.cells #[.pointer (some ⟨eb, 0, none⟩)] 22)).cell? ⟨w.heap.size, 0, none⟩ = some (.pointer (some ⟨eb, 0, none⟩)) := by simp
  have g1 : (0 : Int) < (L : Int) := by omega
  clear h hb0 hc0 hg
  generalize (e.m : Int) = mm at *
  go_enter Tryz.func91, Tryz.ntmps91
  go_wp2_with fail
  go_ret
  exact ⟨rfl, TurnI.below HO.out HB0.out⟩
set_option maxRecDepth 100000 in
set_option maxHeartbeats 4000000 in
theorem ack_yes {w : World} {B eb g off M L C : Nat} {vl vc : Value} {e : En} {ns : List Int} {z0 : Int} (h : EO w B eb vl vc e) (hLM : L = 2 * M) (hM1 : 1 ≤ M) (hM12 : M ≤ 12) (hLC : L ≤ C) (hlen : ns.length = L) (hg : g < w.heap.size) (hcc : ICells w g off ns) (hge : g ≠ eb) (hc0 : w.cell? ⟨g, off, none⟩ = some (.int .i64 z0)) (hz0 : -1 ≤ z0) (hz : z0 < (e.m : Int)) :
    Calls Tryz.prog 91 #[.pointer (some ⟨eb, 0, none⟩), .slice (some ⟨g, off, none⟩) L C] w fun ex w' => ex = .returned .nilIface ∧ TurnI w w' B eb vl vc { e with k := max e.k z0, t := tells e.ls e.t (rgs ns) } := by
  refine (callsIn_wide (n := 5)).1 ?_
  have hfc : Fence.wide.fn 126 := trivial
  have hft : Fence.wide.fn 127 := trivial
  have HLM : Hid (L = 2 * M) := hLM
  have HLC : Hid (L ≤ C) := hLC
  have HM12 : Hid (M ≤ 12) := hM12
  have HLen : Hid (ns.length = L) := hlen
  have Hg : Hid (g < w.heap.size) := hg
  have CC : Hid (ICells w g off ns) := hcc
  have Hge : Hid (g ≠ eb) := hge
  have Heb : Hid (eb < w.heap.size) := h.lt
  have HOWN : Hid (∀ k, OwnE eb vl vc k → k < w.heap.size) := fun k hk => (h.own_lt hk).2
  have hb0 : Below w.heap.size w (w.alloc (.cells #[.pointer (some ⟨eb, 0, none⟩)] 22)) := (Below.refl _ _).alloc (Nat.le_refl _) _
  have c122 := (hb0.cell (p := ⟨eb, 122, none⟩) h.lt).trans (h.cl 122 (by omega))
  have c123 := (hb0.cell (p := ⟨eb, 123, none⟩) h.lt).trans (h.cl 123 (by omega))
  have f123 := (h.below hb0).fz 123
  rw [ecell_made] at c122
  rw [ecell_known] at c123
  have d0 := (hb0.cell (p := ⟨g, off, none⟩) hg).trans hc0
  have q0 : (w.alloc (.cells #[.pointer (some ⟨eb, 0, none⟩)] 22)).cell? ⟨w.heap.size, 0, none⟩ = some (.pointer (some ⟨eb, 0, none⟩)) := by simp
  have g1 : (0 : Int) < (L : Int) := by omega
  have kO0 : Boxed (w.alloc (.cells #[.pointer (some ⟨eb, 0, none⟩)] 22)) w.heap.size 22 (.pointer (some ⟨eb, 0, none⟩)) := Boxed.new w 22 _
  have HT : Hid (∀ v, v = max e.k z0 → TurnI w ((w.alloc (.cells #[.pointer (some ⟨eb, 0, none⟩)] 22)).setCell ⟨eb, 123, none⟩ (.int .i64 v)).drew B eb vl vc { e with k := max e.k z0 } ∧ Boxed ((w.alloc (.cells #[.pointer (some ⟨eb, 0, none⟩)] 22)).setCell ⟨eb, 123, none⟩ (.int .i64 v)).drew w.heap.size 22 (.pointer (some ⟨eb, 0, none⟩)) ∧ ((w.alloc (.cells #[.pointer (some ⟨eb, 0, none⟩)] 22)).setCell ⟨eb, 123, none⟩ (.int .i64 v)).drew.heap.size = w.heap.size + 1) := by
    show ∀ v, _ → _
    intro v hv
    have h1 := (h.below hb0).setK (h.inv.setK hz0 hz) hv
    have h2 := TurnI.below h1.1 ((Below.refl _ ((w.alloc (.cells #[.pointer (some ⟨eb, 0, none⟩)] 22)).setCell ⟨eb, 123, none⟩ (.int .i64 v))).drew)
    refine ⟨⟨h2.1, ((Off.of_below hb0).trans h1.2).trans h2.2⟩, ?_, ?_⟩
    · exact ((h1.2.trans h2.2).block _ kO0.lt (by have := h.lt; omega)).trans kO0
    · simp
  clear hlen hg hcc hLM hLC hM12 hge h hb0 hc0 kO0
  have hmm : ¬ (e.m : Int) ≤ z0 := by omega
  generalize (e.m : Int) = mm at c122 hmm
  refine callsIn_of_wp_marks Tryz.func91 rfl trivial ?_ rfl
  simp only [Tryz.ntmps91, List.size_toArray, List.length_cons, List.length_nil, Nat.reduceAdd, Nat.reduceSub, Array.replicate_succ, Array.replicate_zero, List.push_toArray, List.append_toArray, List.nil_append, List.cons_append]
  gi_wp2
  gi_region
  obtain ⟨ht0, kO0, sz0⟩ := HT.out _ rfl
  clear HT c122 c123 f123 d0 q0
  generalize ((w.alloc (.cells #[.pointer (some ⟨eb, 0, none⟩)] 22)).setCell ⟨eb, 123, none⟩ (.int .i64 (max e.k z0))).drew = W0 at *
  have HS1 : Hid (W0.heap.size = w.heap.size + 1) := sz0
  clear sz0
  gi_wp2_with (gi_at_call 126; refine (chunk_in 4 _ _ _ _).mono ?_; rintro ex w' ⟨rfl, rfl⟩)
  have bS : Boxed (((W0).alloc (.cells #[.slice (some ⟨g, off, none⟩) L C] 38)).alloc (.cells #[.int .i64 2] 3)) W0.heap.size 38 (.slice (some ⟨g, off, none⟩) L C) := (Boxed.new W0 38 (.slice (some ⟨g, off, none⟩) L C)).alloc (.cells #[.int .i64 2] 3)
  have bN : Boxed (((W0).alloc (.cells #[.slice (some ⟨g, off, none⟩) L C] 38)).alloc (.cells #[.int .i64 2] 3)) (W0.heap.size + 1) 3 (.int .i64 2) := by
    have := Boxed.new (W0.alloc (.cells #[.slice (some ⟨g, off, none⟩) L C] 38)) 3 (.int .i64 2)
    rwa [World.size_alloc] at this
  have kO3 : Boxed (((W0).alloc (.cells #[.slice (some ⟨g, off, none⟩) L C] 38)).alloc (.cells #[.int .i64 2] 3)) w.heap.size 22 (.pointer (some ⟨eb, 0, none⟩)) := (kO0.alloc _).alloc _
  have hb3 : Below W0.heap.size W0 (((W0).alloc (.cells #[.slice (some ⟨g, off, none⟩) L C] 38)).alloc (.cells #[.int .i64 2] 3)) := ((Below.refl _ W0).alloc (Nat.le_refl _) _).alloc (by simp) _
  have sz3 : ((((W0).alloc (.cells #[.slice (some ⟨g, off, none⟩) L C] 38)).alloc (.cells #[.int .i64 2] 3))).heap.size = W0.heap.size + 2 := by simp
  have hE3 := ht0.1.below hb3
  have hO3 : Off (fun k => k = eb) w (((W0).alloc (.cells #[.slice (some ⟨g, off, none⟩) L C] 38)).alloc (.cells #[.int .i64 2] 3)) := ht0.2.trans (Off.of_below hb3)
  generalize (((W0).alloc (.cells #[.slice (some ⟨g, off, none⟩) L C] 38)).alloc (.cells #[.int .i64 2] 3)) = W3 at *
  have SZ3 : Hid (W3.heap.size = W0.heap.size + 2) := sz3
  clear hb3 ht0 kO0 sz3
  generalize W0.heap.size = s1 at *
  have HB3 : Hid (w.heap.size ≤ W3.heap.size) := by have := HS1.out; have := SZ3.out; show _ ≤ _; omega
  refine wpIn_rangeFunc_ownG rfl (by decide) (gf := 155) (lb := #[.pointer (some ⟨s1, 0, none⟩), .pointer (some ⟨s1 + 1, 0, none⟩)]) rfl trivial (enters_of Tryz.func155 (by kernel_rfl) rfl)
    (chunk_stops (5 - 1) (by decide) g off M L C s1 (s1 + 1) HLM.out (by have := HM12.out; omega) HLC.out W3 (by have := SZ3.out; omega) (by have := SZ3.out; omega) ⟨bS.cell, bN.cell⟩)
    (fun h k hR => k (h hR)) (KpH.put (w := W3)) (Below.refl _ _) (fun _ => rfl)
    (fun (pre : List (Ix M)) W => EO W B eb vl vc { e with k := max e.k z0, t := tells e.ls e.t (pre.map (fun y => rgAt ns y.1)) } ∧ Boxed W w.heap.size 22 (.pointer (some ⟨eb, 0, none⟩)) ∧ Boxed W s1 38 (.slice (some ⟨g, off, none⟩) L C) ∧ Boxed W (s1 + 1) 3 (.int .i64 2) ∧ Off (fun k => k = eb) w W)
    (fun _ _ _ => False)
    (OwnFrom.and (ownFrom_EO (fun k hk => Nat.lt_of_lt_of_le (HOWN.out k hk) HB3.out) _) (OwnFrom.and (Own.from (boxed_own _ _ _) _) (OwnFrom.and (Own.from (boxed_own _ _ _) _) (OwnFrom.and (Own.from (boxed_own _ _ _) _) (ownFrom_Off HB3.out)))))
    (fun _ _ _ _ _ hs _ _ => hs)
    ⟨hE3, kO3, bS, bN, hO3⟩
    (fun x => { tmps := #[.pointer (some ⟨eb, 0, none⟩), .slice (some ⟨g, off, none⟩) L C, .pointer (some ⟨w.heap.size, 0, none⟩), undef, .nilIface, .int .i64 z0, .slice (some ⟨g, off + 2 * x.1, none⟩) 2 2, .slice (some ⟨g, off, none⟩) L C, .pointer (some ⟨g, off, none⟩), .int .i64 z0, .int .i64 z0, .pointer (some ⟨eb, 0, none⟩), .pointer (some ⟨eb, 0, none⟩), .pointer (some ⟨eb, 122, none⟩), .int .i64 mm, .bool false, undef, .pointer (some ⟨eb, 0, none⟩), .pointer (some ⟨eb, 0, none⟩), .pointer (some ⟨eb, 0, none⟩), .pointer (some ⟨eb, 123, none⟩), .int .i64 e.k, .int .i64 z0, .int .i64 (max e.k z0), .pointer (some ⟨eb, 0, none⟩), .pointer (some ⟨eb, 123, none⟩), .slice (some ⟨g, off, none⟩) L C, .func (.func 155) #[] #[.pointer (some ⟨s1, 0, none⟩), .pointer (some ⟨s1 + 1, 0, none⟩)], .slice (some ⟨g, off + 2 * x.1, none⟩) 2 2, undef, undef, undef, undef, undef, undef, undef, undef, undef], defers := [] }) ?assign ?body ?done ?stop
  all_goals clear kO3 bS bN hE3 hO3
  case assign =>
    intro l x W K hK
    gi_wp2
    exact hK
  case body =>
    rintro l pre ⟨x, hx⟩ W ⟨hE, kO, kS, kN, hB⟩ hpl
    have hx : x < M := hx
    have hxl : 2 * x + 1 < ns.length := by have := HLen.out; have := HLM.out; omega
    have cx0 := CC.out (2 * x) (by omega)
    have cx1 := CC.out (2 * x + 1) hxl
    rw [← Nat.add_assoc] at cx1
    have z0' := hB.cell (p := ⟨g, off + 2 * x, none⟩) cx0 Hge.out
    have z1' := hB.cell (p := ⟨g, off + 2 * x + 1, none⟩) cx1 Hge.out
    have HS : Hid (tells e.ls e.t ((pre ++ [(⟨x, hx⟩ : Ix M)]).map (fun y => rgAt ns y.1)) = tell1 e.ls (tells e.ls e.t (pre.map (fun y => rgAt ns y.1))) (ns[2 * x + 1]?.getD 0, ns[2 * x]?.getD 0)) := by
      show _ = _
      rw [List.map_append]
      unfold tells
      rw [List.foldl_append]
      rfl
    clear cx0 cx1 hpl hxl
    generalize ns[2 * x]?.getD 0 = na at *
    generalize ns[2 * x + 1]?.getD 0 = nb at *
    generalize tells e.ls e.t (pre.map (fun y => rgAt ns y.1)) = tt at *
    have kOd : Boxed W.drew w.heap.size 22 (.pointer (some ⟨eb, 0, none⟩)) := kO
    have kSd : Boxed W.drew s1 38 (.slice (some ⟨g, off, none⟩) L C) := kS
    have kNd : Boxed W.drew (s1 + 1) 3 (.int .i64 2) := kN
    have hBd : Off (fun k => k = eb) w W.drew := hB.drew
    have hEd : EO W.drew B eb vl vc { e with k := max e.k z0, t := tt } := hE.below ((Below.refl _ W).drew)
    have HTL := tell_calls hEd nb na
    have HTP : Hid (∀ W', TurnI W.drew W' B eb vl vc { e with k := max e.k z0, t := tell1 e.ls tt (nb, na) } → KeepsFrom W3.heap.size W W' ∧ KpH g off L C s1 (s1 + 1) W W' ∧ EO W' B eb vl vc { e with k := max e.k z0, t := tell1 e.ls tt (nb, na) } ∧ Boxed W' w.heap.size 22 (.pointer (some ⟨eb, 0, none⟩)) ∧ Boxed W' s1 38 (.slice (some ⟨g, off, none⟩) L C) ∧ Boxed W' (s1 + 1) 3 (.int .i64 2) ∧ Off (fun k => k = eb) w W') := by
      show ∀ W', _ → _
      intro W' ht
      have hlt := Heb.out
      have hsz := SZ3.out
      have hs1 := HS1.out
      have k1 : Boxed W' w.heap.size 22 (.pointer (some ⟨eb, 0, none⟩)) := (ht.2.block _ kOd.lt (by omega)).trans kOd
      have k2 : Boxed W' s1 38 (.slice (some ⟨g, off, none⟩) L C) := (ht.2.block _ kSd.lt (by omega)).trans kSd
      have k3 : Boxed W' (s1 + 1) 3 (.int .i64 2) := (ht.2.block _ kNd.lt (by omega)).trans kNd
      refine ⟨⟨ht.2.size, fun k o hk ho _ => ?_⟩, fun _ => ⟨k2.cell, k3.cell⟩, ht.1, k1, k2, k3, hBd.trans ht.2⟩
      have hkl : k < W.drew.heap.size := (Array.getElem?_eq_some_iff.1 ho).1
      exact (ht.2.block k hkl (by omega)).trans ho
    have y0 : W.drew.cell? ⟨g, off + 2 * x, none⟩ = some (.int .i64 na) := z0'
    have y1 : W.drew.cell? ⟨g, off + 2 * x + 1, none⟩ = some (.int .i64 nb) := z1'
    have y2 := kOd.cell
    clear kO kS kN hB hE z0' z1' hBd hEd kSd kNd
    gi_wp2
    refine region_round_held (fun X => X.cell? ⟨g, off + 2 * x, none⟩ = some (.int .i64 na) ∧ X.cell? ⟨g, off + 2 * x + 1, none⟩ = some (.int .i64 nb) ∧ X.cell? ⟨w.heap.size, 0, none⟩ = some (.pointer (some ⟨eb, 0, none⟩))) (by kernel_rfl) (by kernel_rfl) ⟨y0, y1, y2⟩ (fun hHeld => ?_)
    clear y0 y1 y2
    generalize W.drew = Wd at *
    refine wpAnyH_take (i := 0) (oi := { dst := some 29, op := Op.load 22 (Operand.tmp 2), type := 22, pos := "end.go:222", after := #[], guard := none }) (v := (.pointer (some ⟨eb, 0, none⟩))) rfl (by kernel_rfl) (by kernel_rfl) (by kernel_rfl) Quiet.panic (Or.inl ⟨by rfl, ?_⟩) (by assumption) ?_
    · intro wx hSw
      obtain ⟨s0, s1, s2⟩ := hSw
      go_simp
    try simp only [Act.put, List.setIfInBounds_toArray, List.set_cons_zero, List.set_cons_succ]
    refine wpAnyH_take (i := 1) (oi := { dst := some 30, op := Op.move (Operand.tmp 6), type := 38, pos := "end.go:222", after := #[], guard := none }) (v := (.slice (some ⟨g, off + 2 * x, none⟩) 2 2)) rfl (by kernel_rfl) (by kernel_rfl) (by kernel_rfl) Quiet.panic (Or.inl ⟨by rfl, ?_⟩) (by assumption) ?_
    · intro wx hSw
      obtain ⟨s0, s1, s2⟩ := hSw
      go_simp
    try simp only [Act.put, List.setIfInBounds_toArray, List.set_cons_zero, List.set_cons_succ]
    refine wpAnyH_take (i := 2) (oi := { dst := some 31, op := Op.indexAddr 38 (Operand.tmp 30) (Operand.const (Value.int IntKind.i64 0)), type := 0, pos := "end.go:222", after := #[{ on := 1, ground := Ground.data }], guard := none }) (v := (.pointer (some ⟨g, off + 2 * x, none⟩))) rfl (by kernel_rfl) (by kernel_rfl) (by kernel_rfl) Quiet.panic (Or.inl ⟨by rfl, ?_⟩) (by assumption) ?_
    · intro wx hSw
      obtain ⟨s0, s1, s2⟩ := hSw
      go_simp
    try simp only [Act.put, List.setIfInBounds_toArray, List.set_cons_zero, List.set_cons_succ]
    refine wpAnyH_take (i := 3) (oi := { dst := some 32, op := Op.load 3 (Operand.tmp 31), type := 3, pos := "end.go:222", after := #[{ on := 2, ground := Ground.data }], guard := none }) (v := (.int .i64 na)) rfl (by kernel_rfl) (by kernel_rfl) (by kernel_rfl) Quiet.panic (Or.inl ⟨by rfl, ?_⟩) (by assumption) ?_
    · intro wx hSw
      obtain ⟨s0, s1, s2⟩ := hSw
      go_simp
    try simp only [Act.put, List.setIfInBounds_toArray, List.set_cons_zero, List.set_cons_succ]
    refine wpAnyH_take (i := 4) (oi := { dst := some 33, op := Op.move (Operand.tmp 6), type := 38, pos := "end.go:222", after := #[], guard := none }) (v := (.slice (some ⟨g, off + 2 * x, none⟩) 2 2)) rfl (by kernel_rfl) (by kernel_rfl) (by kernel_rfl) Quiet.panic (Or.inl ⟨by rfl, ?_⟩) (by assumption) ?_
    · intro wx hSw
      obtain ⟨s0, s1, s2⟩ := hSw
      go_simp
    try simp only [Act.put, List.setIfInBounds_toArray, List.set_cons_zero, List.set_cons_succ]
    refine wpAnyH_take (i := 5) (oi := { dst := some 34, op := Op.indexAddr 38 (Operand.tmp 33) (Operand.const (Value.int IntKind.i64 1)), type := 0, pos := "end.go:222", after := #[{ on := 4, ground := Ground.data }], guard := none }) (v := (.pointer (some ⟨g, off + 2 * x + 1, none⟩))) rfl (by kernel_rfl) (by kernel_rfl) (by kernel_rfl) Quiet.panic (Or.inl ⟨by rfl, ?_⟩) (by assumption) ?_
    · intro wx hSw
      obtain ⟨s0, s1, s2⟩ := hSw
      go_simp
    try simp only [Act.put, List.setIfInBounds_toArray, List.set_cons_zero, List.set_cons_succ]
    refine wpAnyH_take (i := 6) (oi := { dst := some 35, op := Op.load 3 (Operand.tmp 34), type := 3, pos := "end.go:222", after := #[{ on := 5, ground := Ground.data }], guard := none }) (v := (.int .i64 nb)) rfl (by kernel_rfl) (by kernel_rfl) (by kernel_rfl) Quiet.panic (Or.inl ⟨by rfl, ?_⟩) (by assumption) ?_
    · intro wx hSw
      obtain ⟨s0, s1, s2⟩ := hSw
      go_simp
    try simp only [Act.put, List.setIfInBounds_toArray, List.set_cons_zero, List.set_cons_succ]
    refine wpAnyH_take (i := 7) (oi := { dst := some 36, op := Op.build 82 #[(1, Operand.tmp 32), (0, Operand.tmp 35)], type := 82, pos := "end.go:222", after := #[{ on := 3, ground := Ground.data }, { on := 6, ground := Ground.data }], guard := none }) (v := (.agg #[.int .i64 nb, .int .i64 na])) rfl (by kernel_rfl) (by kernel_rfl) (by kernel_rfl) Quiet.panic (Or.inl ⟨by rfl, ?_⟩) (by assumption) ?_
    · intro wx hSw
      obtain ⟨s0, s1, s2⟩ := hSw
      go_simp
    try simp only [Act.put, List.setIfInBounds_toArray, List.set_cons_zero, List.set_cons_succ]
    refine wpAnyH_ready (rs := [8]) (by kernel_rfl) (by simp) ?_
    refine AllReadyH.cons (o := { dst := some 37, op := Op.call { callee := Callee.value (Operand.func 127), args := #[Operand.tmp 29, Operand.tmp 36], argTypes := #[22, 82] }, type := 0, pos := "end.go:222", after := #[{ on := 0, ground := Ground.data }, { on := 7, ground := Ground.data }], guard := none }) rfl (fun K hK => ?_) AllReadyH.nil
    go_simp
    refine HTL.mono ?_
    rintro ex w4 ⟨rfl, ht4⟩
    have hq := HTP.out w4 ht4
    refine hK.out _ _ ?_ (fun hHeld => ?_)
    · have hl := Hge.out
      have hl2 := Heb.out
      exact ⟨ht4.2.cell hHeld.1 hl, ht4.2.cell hHeld.2.1 hl, ht4.2.cell hHeld.2.2 (show ¬ w.heap.size = eb by omega)⟩
    clear hK K
    refine wpAnyH_done (by kernel_rfl) (Quiet.normal ?_) _
    clear hHeld
    obtain ⟨q1, q2, q3, q4, q5, q6, q7⟩ := hq
    refine ⟨q1, q2, ?_, q4, q5, q6, q7⟩
    rw [HS.out]
    exact q3
  case done =>
    rintro D ys W hD hys ⟨hE, kO, kS, kN, hB⟩ hK
    rw [show ys.map (fun y => rgAt ns y.1) = rgs ns by rw [← rgs_range M ns (by have := HLen.out; have := HLM.out; omega), ← hys, List.map_map]; rfl] at hE
    have hDw : Hid (w.heap.size ≤ D) := by show _ ≤ _; have := HB3.out; omega
    have HOF : Hid (Off (fun k => k = eb) w W) := hB
    have HEF : Hid (EO W B eb vl vc { e with k := max e.k z0, t := tells e.ls e.t (rgs ns) }) := hE
    have HFIN : Hid (TurnI w (W.putObj D (.deferred none)) B eb vl vc { e with k := max e.k z0, t := tells e.ls e.t (rgs ns) }) := by
      have hg := grownBy_putObj' W D (.deferred none)
      have o : Off (fun k => k = D) W (W.putObj D (.deferred none)) := Off.of_grown hg fun k e => by cases e; rfl
      refine ⟨HEF.out.off o fun k hk e' => ?_, ⟨o.os.trans HOF.out.os, o.tape.trans HOF.out.tape, o.output.trans HOF.out.output, Nat.le_trans HOF.out.size o.size, fun k hk hn => ?_⟩⟩
      · have := HOWN.out k hk
        have := hDw.out
        omega
      · have := hDw.out
        rw [o.block k (Nat.lt_of_lt_of_le hk HOF.out.size) (by omega)]
        exact HOF.out.block k hk hn
    clear hys kO kS kN hB hE
    gi_wp2
    refine ⟨by simp, .inl ⟨_, _, rfl, run_takeDeferred hK, ?_⟩⟩
    exact ⟨_, results_tmp rfl _ _ _, rfl, HFIN.out⟩
  case stop =>
    rintro D c pre W _ _ h _
    exact h.elim
theorem ack_count {ns : List Int} (hf : fF (2, ns, nilB) = 0) : ∃ M, ns.length = 2 * M ∧ 1 ≤ M ∧ M ≤ 12 := by
  obtain ⟨_, h2, _⟩ := frF_ok hf
  unfold cntB at h2
  rw [if_pos rfl] at h2
  have h := of_decide_eq_true h2
  simp only at h
  exact ⟨ns.length / 2, by omega, by omega, by omega⟩
theorem ackC_all {ns : List Int} (hf : fF (2, ns, nilB) = 0) : AckC ns := by
  intro w B eb vl vc u e h hR hue
  obtain ⟨h1, h2, h3, h4, h5, h6⟩ := frF_ok hf
  obtain ⟨M, hM, hM1, hM12⟩ := ack_count hf
  simp only at h4
  obtain ⟨ao, c, rfl, hl, hc, hz⟩ := hR
  obtain ⟨g, off, rfl, hb, hC⟩ : ∃ b off, ao = some ⟨b, off, none⟩ ∧ b < w.heap.size ∧ ICells w b off ns := by
    rcases hz with e1 | e1
    · subst e1; simp at hM; omega
    · exact e1
  have hge : g ≠ eb := fun e' => hue (by rw [e']; rfl)
  obtain ⟨z, zs, rfl⟩ : ∃ z zs, ns = z :: zs := by
    cases ns with
    | nil => simp at hM; omega
    | cons z zs => exact ⟨z, zs, rfl⟩
  have hz0 := h4 z List.mem_cons_self
  have c0 : w.cell? ⟨g, off, none⟩ = some (.int .i64 z) := by simpa using hC 0 (by simp)
  have ef : first (z :: zs) = z := rfl
  unfold stpE
  simp only [if_true, ef]
  by_cases g1 : (e.m : Int) ≤ z
  · rw [if_pos g1]
    exact ack_no h hb (by simp) c0 g1
  · rw [if_neg g1]
    exact ack_yes h hM hM1 hM12 hc rfl hb hC hge c0 (by omega) (by omega)
end Go.Proofs.YtoabfilliiopmaaGreatDoor
