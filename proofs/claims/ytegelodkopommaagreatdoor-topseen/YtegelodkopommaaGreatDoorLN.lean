/- numbersOf. -/
import Derived.Test.YtegelodkopommaaGreatDoorLD
namespace Go.Proofs.YtegelodkopommaaGreatDoor.Lo
open Go.RowKit Go.Shelf Go.Lib
attribute [local go_sem] Oper.semAt_some
set_option linter.unusedVariables false
set_option linter.unusedSimpArgs false

/-- A number more, where there is room for its range. -/
def adI (z : List R) (n : Int) : List R := if 12 < (addL z n).length then z else addL z n
def zsOf (ns : List Int) (ks : List Nat) : List R := ks.foldl (fun z k => adI z (nth ns k)) []
theorem zsOf_snoc (ns : List Int) (ks : List Nat) (k : Nat) : zsOf ns (ks ++ [k]) = adI (zsOf ns ks) (nth ns k) := by simp [zsOf]
theorem zsOf_chk1 {ns : List Int} (h : Fit ns) : ∀ (ks : List Nat) (z : List R), chk z = 0 → (∀ k, k ∈ ks → k < ns.length) → chk (ks.foldl (fun z k => adI z (nth ns k)) z) = 0
  | [], z, hz, _ => hz
  | k :: ks, z, hz, hk => by
    rw [List.foldl_cons]
    refine zsOf_chk1 h ks _ ?_ (fun j hj => hk j (List.mem_cons_of_mem _ hj))
    unfold adI
    split
    · exact hz
    · exact addL_chk hz (h k (hk k List.mem_cons_self)).1 (by omega)
theorem zsOf_chk {ns : List Int} (h : Fit ns) {ks : List Nat} (hk : ∀ k, k ∈ ks → k < ns.length) : chk (zsOf ns ks) = 0 := zsOf_chk1 h ks [] (by decide) hk
theorem zsOf_range {ns : List Int} (h : Fit ns) : ∀ k, k ≤ ns.length → zsOf ns (List.range k) = rgN (ns.take k)
  | 0, _ => rfl
  | k + 1, hk => by
    rw [range_snoc, zsOf_snoc, zsOf_range h k (by omega), take_snoc (by omega), rgN_snoc]
    exact if_neg (by have := (h k (by omega)).2.2; omega)
/-- What a round keeps. -/
def Jn (w : World) (ns : List Int) (m L cap : Nat) (ao : Option Addr) (s1 : Nat) (pre : List (Ix m)) (W : World) : Prop := (∃ v, Boxed W w.heap.size 41 v ∧ W.ownsRow w.heap.size 66 2 v (zsOf ns (pre.map (fun y => y.1))).length (flat (zsOf ns (pre.map (fun y => y.1)))) ∧ True) ∧ Boxed W s1 50 (.slice ao L cap) ∧ Boxed W (s1 + 1) 3 (.int .i64 4) ∧ Below w.heap.size w W
def Jx (m : Nat) (pre : List (Ix m)) : Prop := ¬ pre.map (fun y => y.1) = List.range pre.length
theorem jn_own (w : World) (ns : List Int) (m L cap : Nat) (ao : Option Addr) (s1 : Nat) {N : Nat} (hN : w.heap.size ≤ N) : OwnFrom N (Jn w ns m L cap ao s1) :=
  OwnFrom.and (Own.from (holdsRow_own _ _ _ _ _ (fun (pre : List (Ix m)) => (zsOf ns (pre.map (fun y => y.1))).length) (fun pre => flat (zsOf ns (pre.map (fun y => y.1)))) (fun _ _ => True)) _) (OwnFrom.and (Own.from (boxed_own _ _ _) _) (OwnFrom.and (Own.from (boxed_own _ _ _) _) (ownFrom_below (Nat.le_refl _) hN)))
set_option maxRecDepth 100000 in
set_option maxHeartbeats 4000000 in
theorem numbersOf_calls (g off cap m L : Nat) (ao : Option Addr) (ns : List Int) (w : World) (hM : m = ns.length) (hLM : L = 4 * m) (hao : 0 < m → ao = some ⟨g, off, none⟩) (hfit : Fit ns) (hfew : m ≤ 100000) (hcap : L ≤ cap) (hg : 0 < m → g < w.heap.size)
    (hcc : ∀ j, j < L → w.cell? ⟨g, off + j, none⟩ = some (.int .u8 ((recs ns)[j]?.getD 0))) :
    Calls Tryz.prog 26 #[.slice ao L cap] w fun e w' => ∃ v, e = .returned v ∧ w'.ownsRow w.heap.size 66 2 v (rgN ns).length (flat (rgN ns)) ∧ Below w.heap.size w w' := by
  refine (callsIn_wide (n := 5)).1 ?_
  have hfc : Fence.wide.fn 49 := trivial
  have HM : Hid (m = ns.length) := hM
  have HLM : Hid (L = 4 * m) := hLM
  have HAO : Hid (0 < m → ao = some ⟨g, off, none⟩) := hao
  have HFIT : Hid (Fit ns) := hfit
  have HFEW : Hid (m ≤ 100000) := hfew
  have HCAP : Hid (L ≤ cap) := hcap
  have HG : Hid (0 < m → g < w.heap.size) := hg
  have CC : Hid (∀ j, j < L → w.cell? ⟨g, off + j, none⟩ = some (.int .u8 ((recs ns)[j]?.getD 0))) := hcc
  clear hM hLM hao hfit hfew hcap hg hcc
  refine callsIn_of_wp_marks Tryz.func26 rfl trivial ?_ rfl
  simp only [Tryz.ntmps26, List.size_toArray, List.length_cons, List.length_nil, Nat.reduceAdd, Nat.reduceSub, Array.replicate_succ, Array.replicate_zero, List.push_toArray, List.append_toArray, List.nil_append, List.cons_append]
  gi_wp2_with (gi_at_call 49; refine (chunk_in 4 _ _ _ _).mono ?_; rintro ex w' ⟨rfl, rfl⟩)
  have kO3 : Boxed (((w.alloc (.cells #[.slice none 0 0] 41)).alloc (.cells #[.slice ao L cap] 50)).alloc (.cells #[.int .i64 4] 3)) w.heap.size 41 (.slice none 0 0) := ((Boxed.new w 41 _).alloc _).alloc _
  have bS : Boxed (((w.alloc (.cells #[.slice none 0 0] 41)).alloc (.cells #[.slice ao L cap] 50)).alloc (.cells #[.int .i64 4] 3)) (w.heap.size + 1) 50 (.slice ao L cap) := by
    have := (Boxed.new (w.alloc (.cells #[.slice none 0 0] 41)) 50 (.slice ao L cap)).alloc (.cells #[.int .i64 4] 3)
    rwa [World.size_alloc] at this
  have bN : Boxed (((w.alloc (.cells #[.slice none 0 0] 41)).alloc (.cells #[.slice ao L cap] 50)).alloc (.cells #[.int .i64 4] 3)) (w.heap.size + 1 + 1) 3 (.int .i64 4) := by
    have := Boxed.new ((w.alloc (.cells #[.slice none 0 0] 41)).alloc (.cells #[.slice ao L cap] 50)) 3 (.int .i64 4)
    rwa [World.size_alloc, World.size_alloc] at this
  have hb3 : Below w.heap.size w (((w.alloc (.cells #[.slice none 0 0] 41)).alloc (.cells #[.slice ao L cap] 50)).alloc (.cells #[.int .i64 4] 3)) := (((Below.refl _ w).alloc (Nat.le_refl _) _).alloc (by simp) _).alloc (by simp <;> omega) _
  have sz3 : ((((w.alloc (.cells #[.slice none 0 0] 41)).alloc (.cells #[.slice ao L cap] 50)).alloc (.cells #[.int .i64 4] 3))).heap.size = w.heap.size + 3 := by simp
  have hr3 : ((((w.alloc (.cells #[.slice none 0 0] 41)).alloc (.cells #[.slice ao L cap] 50)).alloc (.cells #[.int .i64 4] 3))).ownsRow w.heap.size 66 2 (.slice none 0 0) 0 [] := World.ownsRow_nil _ _ _ _
  generalize (((w.alloc (.cells #[.slice none 0 0] 41)).alloc (.cells #[.slice ao L cap] 50)).alloc (.cells #[.int .i64 4] 3)) = W3 at *
  have SZ3 : Hid (W3.heap.size = w.heap.size + 3) := sz3
  have HS1 : Hid (w.heap.size + 1 = w.heap.size + 1) := rfl
  have HB3 : Hid (w.heap.size ≤ W3.heap.size) := hb3.size
  clear sz3
  refine wpIn_rangeFunc_ownG rfl (by decide) (gf := 77) (lb := #[.pointer (some ⟨w.heap.size + 1, 0, none⟩), .pointer (some ⟨w.heap.size + 1 + 1, 0, none⟩)]) rfl trivial (enters_of Tryz.func77 (by kernel_rfl) rfl)
    (chunk_stops (5 - 1) (by decide) g off m L cap (w.heap.size + 1) (w.heap.size + 1 + 1) ao HAO.out HLM.out HFEW.out HCAP.out W3 (by have := SZ3.out; omega) (by have := SZ3.out; omega) ⟨bS.cell, bN.cell⟩)
    (fun h k hR => k (h hR)) (KpH.put (w := W3)) (Below.refl _ _) (fun _ => rfl)
    (Jn w ns m L cap ao (w.heap.size + 1))
    (fun _ pre _ => Jx m pre)
    (jn_own w ns m L cap ao _ HB3.out)
    (fun _ _ _ _ _ hs _ _ => hs)
    ⟨⟨_, kO3, hr3, trivial⟩, bS, bN, hb3⟩
    (fun x => { tmps := #[.slice ao L cap, undef, .slice none 0 0, .pointer (some ⟨w.heap.size, 0, none⟩), .slice (some ⟨g, off + 4 * x.1, none⟩) 4 4, undef, undef, undef, .slice ao L cap, .func (.func 77) #[] #[.pointer (some ⟨w.heap.size + 1, 0, none⟩), .pointer (some ⟨w.heap.size + 1 + 1, 0, none⟩)], .slice (some ⟨g, off + 4 * x.1, none⟩) 4 4, undef, undef, undef, undef, undef, undef, undef, undef, undef, undef, undef, undef], defers := [] }) ?assign ?body ?done ?stop
  all_goals clear kO3 bS bN hb3 hr3
  case assign =>
    intro l x W K hK
    gi_wp2
    exact hK
  case body =>
    rintro l pre ⟨x, hx⟩ W hJ hpl
    obtain ⟨s1, hs1⟩ : ∃ s1, s1 = w.heap.size + 1 := ⟨_, rfl⟩
    rw [← hs1] at hJ ⊢
    obtain ⟨hO, kS, kN, hB⟩ := hJ
    have HS1 : Hid (s1 = w.heap.size + 1) := hs1
    clear hs1
    have hx : x < m := hx
    have hxl : x < ns.length := by have := HM.out; omega
    obtain ⟨vz, kO, kR, _⟩ := hO
    have hzc := zsOf_chk HFIT.out (ks := pre.map (fun y => y.1)) (fun k hk => by
      obtain ⟨y, _, rfl⟩ := List.mem_map.1 hk
      have := y.2
      have := HM.out
      omega)
    have hmay := HFIT.out.may hxl
    have hN : isN (nth ns x) = true := (isN_iff _).2 hmay
    have HS : Hid (zsOf ns ((pre ++ [(⟨x, hx⟩ : Ix m)]).map (fun y => y.1)) = adI (zsOf ns (pre.map (fun y => y.1))) (nth ns x)) := by
      show _ = _
      rw [List.map_append]
      exact zsOf_snoc _ _ _
    have hgl := HG.out (by omega)
    have hBd : Below w.heap.size w W.drew := hB.drew
    have hcell : ∀ j, j < 4 → W.drew.cell? ⟨g, off + 4 * x + j, none⟩ = some (.int .u8 ((recF (nth ns x))[j]?.getD 0)) := fun j hj => by
      have h4 : 4 * x + j < L := by have := HLM.out; have := HM.out; omega
      have c0 := (hBd.cell (p := ⟨g, off + (4 * x + j), none⟩) hgl).trans (CC.out (4 * x + j) h4)
      rw [← Nat.add_assoc] at c0
      rw [c0]
      obtain ⟨r0, r1, r2, r3⟩ := recs_get ns x hxl
      rcases (show j = 0 ∨ j = 1 ∨ j = 2 ∨ j = 3 by omega) with rfl | rfl | rfl | rfl
      · rw [Nat.add_zero, r0]; rfl
      · rw [r1]; rfl
      · rw [r2]; rfl
      · rw [r3]; rfl
    have HNUM := numberOf_calls g (off + 4 * x) 4 (recF (nth ns x)) W.drew rfl (rec_bd _) hcell
    rw [acc_rec _ hmay.1 hmay.2] at HNUM
    have kRd : W.drew.ownsRow w.heap.size 66 2 vz (zsOf ns (pre.map (fun y => y.1))).length (flat (zsOf ns (pre.map (fun y => y.1)))) := kR
    have hrow : Row W.drew vz (zsOf ns (pre.map (fun y => y.1))) := row_of_own kRd (by have := ((chk_ok _).1 hzc).1; omega)
    have kOd : Boxed W.drew w.heap.size 41 vz := kO
    have kSd : Boxed W.drew s1 50 (.slice ao L cap) := kS
    have kNd : Boxed W.drew (s1 + 1) 3 (.int .i64 4) := kN
    by_cases hfu : 12 < (addL (zsOf ns (pre.map (fun y => y.1))) (nth ns x)).length
    · have HADD := add_full hrow hzc hN hfu
      rw [errV_f (by decide)] at HADD
      have HTP : Hid (∀ W5, Below W.drew.heap.size W.drew W5 → KeepsFrom W3.heap.size W W5 ∧ ¬ (pre ++ [(⟨x, hx⟩ : Ix m)]).map (fun y => y.1) = List.range (pre ++ [(⟨x, hx⟩ : Ix m)]).length) := by
        show ∀ W5, _ → _
        intro W5 hb5
        refine ⟨⟨hb5.size, fun k o hk ho _ => ?_⟩, fun e => ?_⟩
        · have hkl : k < W.drew.heap.size := (Array.getElem?_eq_some_iff.1 ho).1
          exact (hb5.block k hkl).trans ho
        · rw [List.map_append, List.length_append] at e
          have e1 : List.map (fun y => y.1) pre ++ [x] = List.range pre.length ++ [pre.length] := e.trans (range_snoc _)
          obtain ⟨e2, e3⟩ := List.append_inj e1 (by simp)
          have e4 : x = pre.length := by simpa using e3
          have := (HFIT.out x hxl).2.2
          rw [e2, zsOf_range HFIT.out pre.length (by omega), ← e4] at hfu
          omega
      obtain ⟨az, cz, hvz⟩ := ownSh kRd
      subst hvz
      have y0 := kOd.cell
      clear kO kS kN hB hBd hcell hrow kOd kSd kNd kR kRd hzc hmay hN HS hpl
      generalize (zsOf ns (pre.map (fun y => y.1))).length = lz at *
      generalize nth ns x = n0 at *
      gi_wp2
      refine region_round_held (fun X => X.cell? ⟨w.heap.size, 0, none⟩ = some (.slice az lz cz)) (by kernel_rfl) (by kernel_rfl) y0 (fun hHeld => ?_)
      clear y0
      generalize W.drew = Wd at *
      refine wpAnyH_take (i := 0) (oi := { dst := some 12, op := Op.load 41 (Operand.tmp 3), type := 41, pos := "log.go:57", after := #[], guard := none }) (v := (.slice az lz cz)) rfl (by kernel_rfl) (by kernel_rfl) (by kernel_rfl) Quiet.panic (Or.inl ⟨by rfl, ?_⟩) (by assumption) ?_
      · intro wx hSw
        have s0 := hSw
        go_simp
      try simp only [Act.put, List.setIfInBounds_toArray, List.set_cons_zero, List.set_cons_succ]
      refine wpAnyH_take (i := 1) (oi := { dst := some 13, op := Op.move (Operand.tmp 4), type := 50, pos := "log.go:57", after := #[], guard := none }) (v := (.slice (some ⟨g, off + 4 * x, none⟩) 4 4)) rfl (by kernel_rfl) (by kernel_rfl) (by kernel_rfl) Quiet.panic (Or.inl ⟨by rfl, ?_⟩) (by assumption) ?_
      · intro wx hSw
        have s0 := hSw
        go_simp
      try simp only [Act.put, List.setIfInBounds_toArray, List.set_cons_zero, List.set_cons_succ]
      refine wpAnyH_ready (rs := [2]) (by kernel_rfl) (by simp) ?_
      refine AllReadyH.cons (o := { dst := some 14, op := Op.call { callee := Callee.value (Operand.func 50), args := #[Operand.tmp 13], argTypes := #[50] }, type := 3, pos := "log.go:57", after := #[{ on := 1, ground := Ground.data }], guard := none }) rfl (fun K hK => ?_) AllReadyH.nil
      go_simp
      refine HNUM.mono ?_
      rintro ex w4 ⟨rfl, hw4⟩
      obtain rfl := hw4.symm
      refine hK.out _ _ hHeld (fun hHeld => ?_)
      clear hK K
      try simp only [Act.put, List.setIfInBounds_toArray, List.set_cons_zero, List.set_cons_succ]
      refine wpAnyH_ready (rs := [3]) (by kernel_rfl) (by simp) ?_
      refine AllReadyH.cons (o := { dst := some 15, op := Op.call { callee := Callee.value (Operand.func 23), args := #[Operand.tmp 12, Operand.tmp 14], argTypes := #[41, 3] }, type := 60, pos := "log.go:57", after := #[{ on := 0, ground := Ground.data }, { on := 2, ground := Ground.data }, { on := 2, ground := Ground.chain }], guard := none }) rfl (fun K hK => ?_) AllReadyH.nil
      go_simp
      refine HADD.mono ?_
      rintro ex w5 ⟨rfl, hb5⟩
      refine hK.out _ _ ((hb5.cell (p := ⟨w.heap.size, 0, none⟩) (World.block_lt_of_cell? _ _ hHeld)).trans hHeld) (fun hHeld => ?_)
      clear hK K
      try simp only [Act.put, List.setIfInBounds_toArray, List.set_cons_zero, List.set_cons_succ]
      refine wpAnyH_take (i := 4) (oi := { dst := some 11, op := Op.move (Operand.tmp 15), type := 60, pos := "log.go:57", after := #[{ on := 3, ground := Ground.data }], guard := none }) (v := (.tuple #[(.slice none 0 0), .bool false, (.iface 55 (.int .i64 4))])) rfl (by kernel_rfl) (by kernel_rfl) (by kernel_rfl) Quiet.panic (Or.inl ⟨by rfl, ?_⟩) (by assumption) ?_
      · intro wx hSw
        have s0 := hSw
        go_simp
      try simp only [Act.put, List.setIfInBounds_toArray, List.set_cons_zero, List.set_cons_succ]
      refine wpAnyH_take (i := 5) (oi := { dst := some 16, op := Op.extract (Operand.tmp 11) 0, type := 41, pos := "log.go:57", after := #[{ on := 4, ground := Ground.data }], guard := none }) (v := (.slice none 0 0)) rfl (by kernel_rfl) (by kernel_rfl) (by kernel_rfl) Quiet.panic (Or.inl ⟨by rfl, ?_⟩) (by assumption) ?_
      · intro wx hSw
        have s0 := hSw
        go_simp
      try simp only [Act.put, List.setIfInBounds_toArray, List.set_cons_zero, List.set_cons_succ]
      refine wpAnyH_take (i := 6) (oi := { dst := some 17, op := Op.extract (Operand.tmp 11) 1, type := 4, pos := "log.go:57", after := #[{ on := 4, ground := Ground.data }, { on := 8, ground := Ground.gcOnly Departure.lateStores }], guard := none }) (v := (.bool false)) rfl (by kernel_rfl) (by kernel_rfl) (by kernel_rfl) Quiet.panic (Or.inl ⟨by rfl, ?_⟩) (by assumption) ?_
      · intro wx hSw
        have s0 := hSw
        go_simp
      try simp only [Act.put, List.setIfInBounds_toArray, List.set_cons_zero, List.set_cons_succ]
      refine wpAnyH_take (i := 7) (oi := { dst := some 18, op := Op.extract (Operand.tmp 11) 2, type := 28, pos := "log.go:57", after := #[{ on := 4, ground := Ground.data }, { on := 9, ground := Ground.gcOnly Departure.lateStores }], guard := none }) (v := (.iface 55 (.int .i64 4))) rfl (by kernel_rfl) (by kernel_rfl) (by kernel_rfl) Quiet.panic (Or.inl ⟨by rfl, ?_⟩) (by assumption) ?_
      · intro wx hSw
        have s0 := hSw
        go_simp
      try simp only [Act.put, List.setIfInBounds_toArray, List.set_cons_zero, List.set_cons_succ]
      refine wpAnyH_take (i := 8) (oi := { dst := some 5, op := Op.assign (Operand.tmp 16), type := 41, pos := "log.go:57", after := #[{ on := 5, ground := Ground.data }, { on := 3, ground := Ground.chain }, { on := 0, ground := Ground.phase }, { on := 1, ground := Ground.phase }, { on := 2, ground := Ground.phase }, { on := 3, ground := Ground.phase }, { on := 4, ground := Ground.phase }, { on := 5, ground := Ground.phase }, { on := 6, ground := Ground.textOnly Departure.lateStores }, { on := 7, ground := Ground.textOnly Departure.lateStores }], guard := none }) (v := (.slice none 0 0)) rfl (by kernel_rfl) (by kernel_rfl) (by kernel_rfl) Quiet.panic (Or.inl ⟨by rfl, ?_⟩) (by assumption) ?_
      · intro wx hSw
        have s0 := hSw
        go_simp
      try simp only [Act.put, List.setIfInBounds_toArray, List.set_cons_zero, List.set_cons_succ]
      refine wpAnyH_take (i := 9) (oi := { dst := some 6, op := Op.assign (Operand.tmp 17), type := 4, pos := "log.go:57", after := #[{ on := 6, ground := Ground.data }, { on := 8, ground := Ground.chain }, { on := 0, ground := Ground.phase }, { on := 1, ground := Ground.phase }, { on := 2, ground := Ground.phase }, { on := 3, ground := Ground.phase }, { on := 4, ground := Ground.phase }, { on := 5, ground := Ground.phase }, { on := 6, ground := Ground.phase }, { on := 7, ground := Ground.textOnly Departure.lateStores }, { on := 8, ground := Ground.phase }], guard := none }) (v := (.bool false)) rfl (by kernel_rfl) (by kernel_rfl) (by kernel_rfl) Quiet.panic (Or.inl ⟨by rfl, ?_⟩) (by assumption) ?_
      · intro wx hSw
        have s0 := hSw
        go_simp
      try simp only [Act.put, List.setIfInBounds_toArray, List.set_cons_zero, List.set_cons_succ]
      refine wpAnyH_take (i := 10) (oi := { dst := some 7, op := Op.assign (Operand.tmp 18), type := 28, pos := "log.go:57", after := #[{ on := 7, ground := Ground.data }, { on := 9, ground := Ground.chain }, { on := 0, ground := Ground.phase }, { on := 1, ground := Ground.phase }, { on := 2, ground := Ground.phase }, { on := 3, ground := Ground.phase }, { on := 4, ground := Ground.phase }, { on := 5, ground := Ground.phase }, { on := 6, ground := Ground.phase }, { on := 7, ground := Ground.phase }, { on := 8, ground := Ground.phase }, { on := 9, ground := Ground.phase }], guard := none }) (v := (.iface 55 (.int .i64 4))) rfl (by kernel_rfl) (by kernel_rfl) (by kernel_rfl) Quiet.panic (Or.inl ⟨by rfl, ?_⟩) (by assumption) ?_
      · intro wx hSw
        have s0 := hSw
        go_simp
      try simp only [Act.put, List.setIfInBounds_toArray, List.set_cons_zero, List.set_cons_succ]
      refine wpAnyH_done (by kernel_rfl) (Quiet.normal ?_) _
      have hq := HTP.out w5 hb5
      clear HTP hHeld
      gi_wp2
      exact hq
    · have HAD : Hid (adI (zsOf ns (pre.map (fun y => y.1))) (nth ns x) = addL (zsOf ns (pre.map (fun y => y.1))) (nth ns x)) := if_neg hfu
      have HADD := add_fits hrow hzc hN (by omega)
      clear hfu
      have HTP : Hid (∀ W5 v', Below W.drew.heap.size W.drew W5 → W5.ownsRow W.drew.heap.size 66 2 v' (addL (zsOf ns (pre.map (fun y => y.1))) (nth ns x)).length (flat (addL (zsOf ns (pre.map (fun y => y.1))) (nth ns x))) →
          KeepsFrom W3.heap.size W (W5.setCell ⟨w.heap.size, 0, none⟩ v') ∧ KpH (.slice ao L cap) s1 (s1 + 1) W (W5.setCell ⟨w.heap.size, 0, none⟩ v') ∧ (∃ v, Boxed (W5.setCell ⟨w.heap.size, 0, none⟩ v') w.heap.size 41 v ∧ (W5.setCell ⟨w.heap.size, 0, none⟩ v').ownsRow w.heap.size 66 2 v (zsOf ns ((pre ++ [(⟨x, hx⟩ : Ix m)]).map (fun y => y.1))).length (flat (zsOf ns ((pre ++ [(⟨x, hx⟩ : Ix m)]).map (fun y => y.1)))) ∧ True) ∧
          Boxed (W5.setCell ⟨w.heap.size, 0, none⟩ v') s1 50 (.slice ao L cap) ∧ Boxed (W5.setCell ⟨w.heap.size, 0, none⟩ v') (s1 + 1) 3 (.int .i64 4) ∧ Below w.heap.size w (W5.setCell ⟨w.heap.size, 0, none⟩ v')) := by
        show ∀ W5 v', _ → _ → _
        intro W5 v' hb5 ho5
        have hs1 := HS1.out
        have hlt0 := kOd.lt
        have o6 : Off (fun k => k = w.heap.size) W5 (W5.setCell ⟨w.heap.size, 0, none⟩ v') := (Off.refl _ _).setCell (K := fun k => k = w.heap.size) (a := ⟨w.heap.size, 0, none⟩) rfl _
        have k5 : Boxed W5 w.heap.size 41 vz := (hb5.block _ kOd.lt).trans kOd
        have k1 : Boxed (W5.setCell ⟨w.heap.size, 0, none⟩ v') w.heap.size 41 v' := k5.set v'
        have k2 : Boxed (W5.setCell ⟨w.heap.size, 0, none⟩ v') s1 50 (.slice ao L cap) := (o6.block _ (Nat.lt_of_lt_of_le kSd.lt hb5.size) (by omega)).trans ((hb5.block _ kSd.lt).trans kSd)
        have k3 : Boxed (W5.setCell ⟨w.heap.size, 0, none⟩ v') (s1 + 1) 3 (.int .i64 4) := (o6.block _ (Nat.lt_of_lt_of_le kNd.lt hb5.size) (by omega)).trans ((hb5.block _ kNd.lt).trans kNd)
        have hsz3 := SZ3.out
        refine ⟨⟨Nat.le_trans hb5.size o6.size, fun k o hk ho _ => ?_⟩, fun _ => ⟨k2.cell, k3.cell⟩, ⟨v', k1, ?_, trivial⟩, k2, k3, ?_⟩
        · have hkl : k < W.drew.heap.size := (Array.getElem?_eq_some_iff.1 ho).1
          exact (o6.block k (Nat.lt_of_lt_of_le hkl hb5.size) (by omega)).trans ((hb5.block k hkl).trans ho)
        · rw [HS.out, HAD.out]
          exact own_mono (o6.own ho5 (fun k e e' => by have := (ho5.lt k e).1; omega)) hBd.size
        · exact hBd.trans ((hb5.mono hBd.size).trans ((Below.refl _ _).setCell (p := ⟨w.heap.size, 0, none⟩) (Nat.le_refl _) _))
      have HFZ : Hid (∀ W5, Below W.drew.heap.size W.drew W5 → W5.frozen? ⟨w.heap.size, 0, none⟩ = false) := by
        show ∀ W5, _ → _
        intro W5 hb5
        exact Boxed.frozen ((hb5.block _ kOd.lt).trans kOd)
      obtain ⟨az, cz, hvz⟩ := ownSh kRd
      subst hvz
      have y0 := kOd.cell
      clear kO kS kN hB hBd hcell hrow kOd kSd kNd kR kRd hzc hmay hN HS hpl
      generalize (!memB (zsOf ns (pre.map (fun y => y.1))) (nth ns x)) = nb at *
      generalize hal : (addL (zsOf ns (pre.map (fun y => y.1))) (nth ns x)).length = al at *
      generalize addL (zsOf ns (pre.map (fun y => y.1))) (nth ns x) = zl at *
      clear hal HAD
      generalize (zsOf ns (pre.map (fun y => y.1))).length = lz at *
      generalize nth ns x = n0 at *
      gi_wp2
      refine region_round_held (fun X => X.cell? ⟨w.heap.size, 0, none⟩ = some (.slice az lz cz)) (by kernel_rfl) (by kernel_rfl) y0 (fun hHeld => ?_)
      clear y0
      generalize W.drew = Wd at *
      refine wpAnyH_take (i := 0) (oi := { dst := some 12, op := Op.load 41 (Operand.tmp 3), type := 41, pos := "log.go:57", after := #[], guard := none }) (v := (.slice az lz cz)) rfl (by kernel_rfl) (by kernel_rfl) (by kernel_rfl) Quiet.panic (Or.inl ⟨by rfl, ?_⟩) (by assumption) ?_
      · intro wx hSw
        have s0 := hSw
        go_simp
      try simp only [Act.put, List.setIfInBounds_toArray, List.set_cons_zero, List.set_cons_succ]
      refine wpAnyH_take (i := 1) (oi := { dst := some 13, op := Op.move (Operand.tmp 4), type := 50, pos := "log.go:57", after := #[], guard := none }) (v := (.slice (some ⟨g, off + 4 * x, none⟩) 4 4)) rfl (by kernel_rfl) (by kernel_rfl) (by kernel_rfl) Quiet.panic (Or.inl ⟨by rfl, ?_⟩) (by assumption) ?_
      · intro wx hSw
        have s0 := hSw
        go_simp
      try simp only [Act.put, List.setIfInBounds_toArray, List.set_cons_zero, List.set_cons_succ]
      refine wpAnyH_ready (rs := [2]) (by kernel_rfl) (by simp) ?_
      refine AllReadyH.cons (o := { dst := some 14, op := Op.call { callee := Callee.value (Operand.func 50), args := #[Operand.tmp 13], argTypes := #[50] }, type := 3, pos := "log.go:57", after := #[{ on := 1, ground := Ground.data }], guard := none }) rfl (fun K hK => ?_) AllReadyH.nil
      go_simp
      refine HNUM.mono ?_
      rintro ex w4 ⟨rfl, hw4⟩
      obtain rfl := hw4.symm
      refine hK.out _ _ hHeld (fun hHeld => ?_)
      clear hK K
      try simp only [Act.put, List.setIfInBounds_toArray, List.set_cons_zero, List.set_cons_succ]
      refine wpAnyH_ready (rs := [3]) (by kernel_rfl) (by simp) ?_
      refine AllReadyH.cons (o := { dst := some 15, op := Op.call { callee := Callee.value (Operand.func 23), args := #[Operand.tmp 12, Operand.tmp 14], argTypes := #[41, 3] }, type := 60, pos := "log.go:57", after := #[{ on := 0, ground := Ground.data }, { on := 2, ground := Ground.data }, { on := 2, ground := Ground.chain }], guard := none }) rfl (fun K hK => ?_) AllReadyH.nil
      go_simp
      refine HADD.mono ?_
      rintro ex w5 ⟨v5, rfl, ho5, hb5⟩
      obtain ⟨a5, c5, hv5⟩ := ownSh ho5
      subst hv5
      refine hK.out _ _ ((hb5.cell (p := ⟨w.heap.size, 0, none⟩) (World.block_lt_of_cell? _ _ hHeld)).trans hHeld) (fun hHeld => ?_)
      clear hK K
      try simp only [Act.put, List.setIfInBounds_toArray, List.set_cons_zero, List.set_cons_succ]
      refine wpAnyH_take (i := 4) (oi := { dst := some 11, op := Op.move (Operand.tmp 15), type := 60, pos := "log.go:57", after := #[{ on := 3, ground := Ground.data }], guard := none }) (v := (.tuple #[(.slice a5 al c5), .bool nb, .nilIface])) rfl (by kernel_rfl) (by kernel_rfl) (by kernel_rfl) Quiet.panic (Or.inl ⟨by rfl, ?_⟩) (by assumption) ?_
      · intro wx hSw
        have s0 := hSw
        go_simp
      try simp only [Act.put, List.setIfInBounds_toArray, List.set_cons_zero, List.set_cons_succ]
      refine wpAnyH_take (i := 5) (oi := { dst := some 16, op := Op.extract (Operand.tmp 11) 0, type := 41, pos := "log.go:57", after := #[{ on := 4, ground := Ground.data }], guard := none }) (v := (.slice a5 al c5)) rfl (by kernel_rfl) (by kernel_rfl) (by kernel_rfl) Quiet.panic (Or.inl ⟨by rfl, ?_⟩) (by assumption) ?_
      · intro wx hSw
        have s0 := hSw
        go_simp
      try simp only [Act.put, List.setIfInBounds_toArray, List.set_cons_zero, List.set_cons_succ]
      refine wpAnyH_take (i := 6) (oi := { dst := some 17, op := Op.extract (Operand.tmp 11) 1, type := 4, pos := "log.go:57", after := #[{ on := 4, ground := Ground.data }, { on := 8, ground := Ground.gcOnly Departure.lateStores }], guard := none }) (v := (.bool nb)) rfl (by kernel_rfl) (by kernel_rfl) (by kernel_rfl) Quiet.panic (Or.inl ⟨by rfl, ?_⟩) (by assumption) ?_
      · intro wx hSw
        have s0 := hSw
        go_simp
      try simp only [Act.put, List.setIfInBounds_toArray, List.set_cons_zero, List.set_cons_succ]
      refine wpAnyH_take (i := 7) (oi := { dst := some 18, op := Op.extract (Operand.tmp 11) 2, type := 28, pos := "log.go:57", after := #[{ on := 4, ground := Ground.data }, { on := 9, ground := Ground.gcOnly Departure.lateStores }], guard := none }) (v := .nilIface) rfl (by kernel_rfl) (by kernel_rfl) (by kernel_rfl) Quiet.panic (Or.inl ⟨by rfl, ?_⟩) (by assumption) ?_
      · intro wx hSw
        have s0 := hSw
        go_simp
      try simp only [Act.put, List.setIfInBounds_toArray, List.set_cons_zero, List.set_cons_succ]
      refine wpAnyH_take (i := 8) (oi := { dst := some 5, op := Op.assign (Operand.tmp 16), type := 41, pos := "log.go:57", after := #[{ on := 5, ground := Ground.data }, { on := 3, ground := Ground.chain }, { on := 0, ground := Ground.phase }, { on := 1, ground := Ground.phase }, { on := 2, ground := Ground.phase }, { on := 3, ground := Ground.phase }, { on := 4, ground := Ground.phase }, { on := 5, ground := Ground.phase }, { on := 6, ground := Ground.textOnly Departure.lateStores }, { on := 7, ground := Ground.textOnly Departure.lateStores }], guard := none }) (v := (.slice a5 al c5)) rfl (by kernel_rfl) (by kernel_rfl) (by kernel_rfl) Quiet.panic (Or.inl ⟨by rfl, ?_⟩) (by assumption) ?_
      · intro wx hSw
        have s0 := hSw
        go_simp
      try simp only [Act.put, List.setIfInBounds_toArray, List.set_cons_zero, List.set_cons_succ]
      refine wpAnyH_take (i := 9) (oi := { dst := some 6, op := Op.assign (Operand.tmp 17), type := 4, pos := "log.go:57", after := #[{ on := 6, ground := Ground.data }, { on := 8, ground := Ground.chain }, { on := 0, ground := Ground.phase }, { on := 1, ground := Ground.phase }, { on := 2, ground := Ground.phase }, { on := 3, ground := Ground.phase }, { on := 4, ground := Ground.phase }, { on := 5, ground := Ground.phase }, { on := 6, ground := Ground.phase }, { on := 7, ground := Ground.textOnly Departure.lateStores }, { on := 8, ground := Ground.phase }], guard := none }) (v := (.bool nb)) rfl (by kernel_rfl) (by kernel_rfl) (by kernel_rfl) Quiet.panic (Or.inl ⟨by rfl, ?_⟩) (by assumption) ?_
      · intro wx hSw
        have s0 := hSw
        go_simp
      try simp only [Act.put, List.setIfInBounds_toArray, List.set_cons_zero, List.set_cons_succ]
      refine wpAnyH_take (i := 10) (oi := { dst := some 7, op := Op.assign (Operand.tmp 18), type := 28, pos := "log.go:57", after := #[{ on := 7, ground := Ground.data }, { on := 9, ground := Ground.chain }, { on := 0, ground := Ground.phase }, { on := 1, ground := Ground.phase }, { on := 2, ground := Ground.phase }, { on := 3, ground := Ground.phase }, { on := 4, ground := Ground.phase }, { on := 5, ground := Ground.phase }, { on := 6, ground := Ground.phase }, { on := 7, ground := Ground.phase }, { on := 8, ground := Ground.phase }, { on := 9, ground := Ground.phase }], guard := none }) (v := .nilIface) rfl (by kernel_rfl) (by kernel_rfl) (by kernel_rfl) Quiet.panic (Or.inl ⟨by rfl, ?_⟩) (by assumption) ?_
      · intro wx hSw
        have s0 := hSw
        go_simp
      try simp only [Act.put, List.setIfInBounds_toArray, List.set_cons_zero, List.set_cons_succ]
      refine wpAnyH_done (by kernel_rfl) (Quiet.normal ?_) _
      have hq := HTP.out w5 _ hb5 ho5
      have hf5 : w5.frozen? ⟨w.heap.size, 0, none⟩ = false := HFZ.out w5 hb5
      clear HTP ho5 HFZ
      gi_wp2
      exact hq
  case done =>
    rintro D ys W hD hys ⟨hO, kS, kN, hB⟩ hK
    obtain ⟨vz, kO, kR, _⟩ := hO
    rw [hys, zsOf_range HFIT.out m (by have := HM.out; omega), List.take_of_length_le (by have := HM.out; omega)] at kR
    have HFR : Hid ((W.putObj D (.deferred none)).ownsRow w.heap.size 66 2 vz (rgN ns).length (flat (rgN ns))) := kR.kept (grownBy_putObj' W D (.deferred none)) (by
      rcases kR.2 with ⟨e, _⟩ | ⟨g0, c0, cur, e, _, hg0, _⟩
      · rw [e]; exact .inl rfl
      · right
        rw [e]
        intro e'
        have e1 : g0 = D := Option.some.inj e'
        rw [e1, hK] at hg0
        cases hg0)
    have HBF : Hid (Below w.heap.size w (W.putObj D (.deferred none))) := hB.trans (belowK_b (w := w) (Nat.le_refl _) _ D _ _ (by have := HB3.out; omega) hK rfl rfl)
    obtain ⟨az, cz, hvz⟩ := ownSh kR
    subst hvz
    have kOc := kO.cell
    clear hys kO kS kN kR hB
    generalize hrl : (rgN ns).length = rl at kOc HFR
    have HRL : Hid ((rgN ns).length = rl) := hrl
    clear hrl
    gi_wp2
    refine ⟨by simp, .inl ⟨_, _, rfl, run_takeDeferred hK, ?_⟩⟩
    exact ⟨_, results_tmp rfl _ _ _, ⟨.slice az rl cz, rfl, (by rw [HRL.out]; exact HFR.out), HBF.out⟩⟩
  case stop =>
    rintro D c pre W _ hsp h _
    exact (h hsp).elim
end Go.Proofs.YtegelodkopommaaGreatDoor.Lo
