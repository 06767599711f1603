/- What Parse answers where the numbers are as many as are told. -/
import Derived.Test.YtoabfilliiopmaaDoorS
import Derived.Test.YtoabfilliiopmaaDoorY
namespace Go.Proofs.YtoabfilliiopmaaDoor
open Go.RowKit Go.Shelf Go.Lib
attribute [local go_sem] Oper.semAt_some
set_option linter.unusedVariables false
set_option linter.unusedSimpArgs false

theorem KpH.put {w : World} {b off L cap Bs Bn : Nat} (W : World) (l : Nat) (o o' : Obj) (_ : w.heap.size ≤ l) (h : W.heap[l]? = some o) (hc : o.isCells = false) (_ : o.isWalk = false) : KpH b off L cap Bs Bn W (W.putObj l o') := fun hR =>
  ⟨cell_kept hR.head (grownBy_putObj' W l o') (fun r e => by cases e; exact ⟨o, h, hc⟩), cell_kept hR.two (grownBy_putObj' W l o') (fun r e => by cases e; exact ⟨o, h, hc⟩)⟩
theorem V.below_dn {B : Nat} {a w : World} (h : Below B a w) (q : Nat) : Below B a (w.drewN q) := ⟨h.os, h.tape, h.output, h.size, h.block⟩
theorem cells_rng (W : World) (a b : Int) : ∀ j u, [Value.int .i64 a, Value.int .i64 b][j]? = some u → (W.alloc (.cells #[.int .i64 a, .int .i64 b] 67)).cell? ((⟨W.heap.size, 0, none⟩ : Addr).add j) = some u := by
  intro j u h
  match j, h with
  | 0, h => simp at h; subst h; simp [Addr.add]
  | 1, h => simp at h; subst h; simp [Addr.add]
  | j + 2, h => simp at h
def offOf (cp : Nat) : Nat := if cp = 3 then 0 else 3
theorem run_slice3 (g len cp : Nat) (h3 : 3 ≤ len) (w : World) : (Instr.slice 31 (.slice (some ⟨g, 0, none⟩) len cp) (some (.int .i64 3)) none none).run Tryd.prog w = .ok (.slice (some ⟨g, offOf cp, none⟩) (len - 3) (cp - 3)) w := by
  have h' : (3 : Int) ≤ (len : Int) := by omega
  have e := Tryd.underlying31
  unfold offOf
  by_cases h : cp = 3
  · rw [if_pos h]; go_simp
  · rw [if_neg h]; go_simp

set_option maxRecDepth 100000 in
set_option maxHeartbeats 4000000 in
theorem parse_go (s : ByteArray) (w : World) (hF : V.Forms w) (hl : s.size ≤ maxLen) (hi m d : Int) (rest : List Int) (h : rd 25 (V.ints s) = some (hi :: m :: d :: rest)) (hm : Mays (hi :: m :: d :: rest)) (he : (rest.length : Int) = 2 * m) :
    Calls Tryd.prog 45 #[.string s] w fun e w' => ((lastLo (hi - d) rest < 0 ∧ e = .returned (.tuple #[.slice none 0 0, errS])) ∨ (0 ≤ lastLo (hi - d) rest ∧ ∃ v, e = .returned (.tuple #[v, .nilIface]) ∧ Row w' v ((hi - d, hi) :: pairs (hi - d) rest) ∧ Fits v)) ∧ Below w.heap.size w w' := by
  have HC := numbers_yes s w hF hl _ h
  have hlen : (hi :: m :: d :: rest).length ≤ 25 := (rd_inv 25 _ _ (bytes_ints s) h).2.2
  have m0 := hm hi (by simp)
  have m1 := hm m (by simp)
  have m2 := hm d (by simp)
  simp only [errS] at HC ⊢
  refine (callsIn_wide (n := 5)).1 ?_
  have hfn : Fence.wide.fn 55 := trivial
  have hfc : Fence.wide.fn 56 := trivial
  have g3 : ¬ (((hi :: m :: d :: rest).length : Nat) : Int) < 3 := by simp; omega
  have g4 : (((hi :: m :: d :: rest).length : Nat) : Int) = 3 + 2 * m := by simp; omega
  have g5 : (1 : Int) < (((hi :: m :: d :: rest).length : Nat) : Int) := by simp; omega
  have g6 : (2 : Int) < (((hi :: m :: d :: rest).length : Nat) : Int) := by simp; omega
  have g7 : (3 : Int) ≤ (((hi :: m :: d :: rest).length : Nat) : Int) := by simp; omega
  obtain ⟨M, hMm'⟩ : ∃ M : Nat, (M : Int) = m := ⟨m.toNat, by omega⟩
  have hMm : Hid ((M : Int) = m) := hMm'
  have hRl : Hid (rest.length = 2 * M) := by show _ = _; omega
  generalize hL : (hi :: m :: d :: rest).length = len at *
  have HL : Hid ((hi :: m :: d :: rest).length = len) := hL
  clear hL hMm'
  have HM : Hid (Mays (hi :: m :: d :: rest)) := hm
  clear hm he h
  have G4 : Hid ((len : Int) = 3 + 2 * m) := g4
  have gd : decide ((3 : Int) + 2 * m < 3) = false := by simp; omega
  refine callsIn_of_wp_marks Tryd.func45 rfl trivial ?_ rfl
  simp only [Tryd.ntmps45, List.size_toArray, List.length_cons, List.length_nil, Nat.reduceAdd, Nat.reduceSub, Array.replicate_succ, Array.replicate_zero, List.push_toArray, List.append_toArray, List.nil_append, List.cons_append]
  gi_wp2_with (gi_at_call 55; refine (callsIn_wide.2 HC).mono ?_; rintro e w1 ⟨v, rfl, ho, hb1⟩; obtain ⟨g, cp, rfl, hcp, _, hg⟩ := ho.form (by simp); have q0 := ho.cell 0 (by simp); have q1 := ho.cell 1 (by simp); have q2 := ho.cell 2 (by simp); simp only [HL.out, List.getElem?_cons_succ, List.getElem?_cons_zero, Option.getD_some] at q0 q1 q2 hcp ⊢)
  gi_region
  have bx : Boxed (w1.alloc (.cells #[.int .i64 (hi - d)] 3)).drew w1.heap.size 3 (.int .i64 (hi - d)) := Boxed.new w1 3 _
  have sz1 : (w1.alloc (.cells #[.int .i64 (hi - d)] 3)).drew.heap.size = w1.heap.size + 1 := by simp [World.drew]
  have hB1 : Below w1.heap.size w1 (w1.alloc (.cells #[.int .i64 (hi - d)] 3)).drew := ((Below.refl _ w1).alloc (Nat.le_refl _) _).drew
  have q0' := (hB1.cell (p := ⟨g, 0, none⟩) hg).trans q0
  generalize (w1.alloc (.cells #[.int .i64 (hi - d)] 3)).drew = W1 at *
  have bc := bx.cell
  gi_wp2
  rename_i K hK
  have KEY : ∀ (Bo Br : Nat) (W2 : World), Boxed W2 w1.heap.size 3 (.int .i64 (hi - d)) → Boxed W2 Bo 35 (.slice (some ⟨Br, 0, none⟩) 1 1) → W2.ownsRow w1.heap.size 67 2 (.slice (some ⟨Br, 0, none⟩) 1 1) 1 (flat [(hi - d, hi)]) → Below w1.heap.size w1 W2 → W2.heap.size = w1.heap.size + 3 → w1.heap.size < Bo → Bo < W2.heap.size → K { tmps := #[.string s, undef, .slice none 0 0, .nilIface, (.slice (some ⟨g, 0, none⟩) len cp), .nilIface, .pointer (some ⟨w1.heap.size, 0, none⟩), .pointer (some ⟨Bo, 0, none⟩), undef, undef, .tuple #[(.slice (some ⟨g, 0, none⟩) len cp), .nilIface], .string s, .tuple #[(.slice (some ⟨g, 0, none⟩) len cp), .nilIface], (.slice (some ⟨g, 0, none⟩) len cp), .nilIface, .nilIface, .bool false, undef, (.slice (some ⟨g, 0, none⟩) len cp), .int .i64 (3 + 2 * m), .bool false, .bool false, (.slice (some ⟨g, 0, none⟩) len cp), .int .i64 (3 + 2 * m), (.slice (some ⟨g, 0, none⟩) len cp), .pointer (some ⟨g, 1, none⟩), .int .i64 m, .int .i64 (2 * m), .int .i64 (3 + 2 * m), .bool false, .bool false, undef, (.slice (some ⟨g, 0, none⟩) len cp), .pointer (some ⟨g, 0, none⟩), .int .i64 hi, (.slice (some ⟨g, 0, none⟩) len cp), .pointer (some ⟨g, 2, none⟩), .int .i64 d, .int .i64 (hi - d), .int .i64 (hi - d), (.slice (some ⟨g, 0, none⟩) len cp), .pointer (some ⟨g, 0, none⟩), .int .i64 hi, .agg #[.int .i64 (hi - d), .int .i64 hi], .slice (some ⟨Br, 0, none⟩) 1 1, undef, undef, undef, undef, undef, undef, undef, undef, undef, undef, undef, undef, undef, undef, undef, undef, undef, undef, undef, undef, undef, undef, undef, undef, undef], defers := [] } W2 := by
    intro Bo Br W2 bL bO oR hB2 sz2 hBo1 hBo2
    have SZ2 : Hid (W2.heap.size = w1.heap.size + 3) := sz2
    have HBo2 : Hid (Bo < W2.heap.size) := hBo2
    clear bx bc q0' hB1 sz1 sz2 hBo2
    refine hK _ _ ?_
    clear hK
    obtain ⟨off, hoff⟩ : ∃ off : Nat, offOf cp = off := ⟨_, rfl⟩
    obtain ⟨L, hL⟩ : ∃ L : Nat, len - 3 = L := ⟨_, rfl⟩
    obtain ⟨C, hC⟩ : ∃ C : Nat, cp - 3 = C := ⟨_, rfl⟩
    have hLM : L = 2 * M := by have := G4.out; have := hMm.out; omega
    have hLC : L ≤ C := by omega
    have hM12 : M ≤ 11 := by omega
    have hsl := run_slice3 g len cp (by omega)
    rw [hoff, hL, hC] at hsl
    have cl : Hid (∀ x, x < M → w1.cell? ⟨g, off + 2 * x, none⟩ = some (.int .i64 (rest[2 * x]?.getD 0)) ∧ w1.cell? ⟨g, off + 2 * x + 1, none⟩ = some (.int .i64 (rest[2 * x + 1]?.getD 0))) := by
      show ∀ x, _
      intro x hx
      have l0 := ho.cell (3 + 2 * x) (by have := hRl.out; simp; omega)
      have l1 := ho.cell (3 + 2 * x + 1) (by have := hRl.out; simp; omega)
      have e2 : off = 3 := by rw [← hoff]; unfold offOf; rw [if_neg (by omega)]
      subst e2
      rw [l0, l1]
      have e0 : 3 + 2 * x = 2 * x + 1 + 1 + 1 := by omega
      have e1 : 3 + 2 * x + 1 = 2 * x + 1 + 1 + 1 + 1 := by omega
      rw [e1, e0]
      simp only [List.getElem?_cons_succ]
      exact ⟨trivial, trivial⟩
    have HLM : Hid (L = 2 * M) := hLM
    have HLC : Hid (L ≤ C) := hLC
    have HM12 : Hid (M ≤ 11) := hM12
    have Hg : Hid (g < w1.heap.size) := hg
    have HB1 : Hid (Below w.heap.size w w1) := hb1
    clear hLM hLC hM12 hoff hL hC q0 q1 q2 g4 g5 g6 g7 gd HC ho hcp hlen hF hl hb1 hg HL G4 hMm
    gi_wp2_with (gi_at_call 56; refine (chunk_in 4 _ _ _ _).mono ?_; rintro e w' ⟨rfl, rfl⟩)
    have sz2 := SZ2.out
    have hBo2 := HBo2.out
    have hLM := HLM.out
    have hLC := HLC.out
    have hM12 := HM12.out
    have bS : Boxed ((W2.alloc (.cells #[.slice (some ⟨g, off, none⟩) L C] 31)).alloc (.cells #[.int .i64 2] 3)) W2.heap.size 31 (.slice (some ⟨g, off, none⟩) L C) := (Boxed.new W2 31 _).alloc _
    have bN : Boxed ((W2.alloc (.cells #[.slice (some ⟨g, off, none⟩) L C] 31)).alloc (.cells #[.int .i64 2] 3)) (W2.heap.size + 1) 3 (.int .i64 2) := by
      have := Boxed.new (W2.alloc (.cells #[.slice (some ⟨g, off, none⟩) L C] 31)) 3 (.int .i64 2)
      rwa [World.size_alloc] at this
    have kL0 := (bL.alloc (.cells #[.slice (some ⟨g, off, none⟩) L C] 31)).alloc (.cells #[.int .i64 2] 3)
    have kO0 := (bO.alloc (.cells #[.slice (some ⟨g, off, none⟩) L C] 31)).alloc (.cells #[.int .i64 2] 3)
    have kr0 := (oR.alloc (.cells #[.slice (some ⟨g, off, none⟩) L C] 31)).alloc (.cells #[.int .i64 2] 3)
    have hB30 : Below w1.heap.size w1 ((W2.alloc (.cells #[.slice (some ⟨g, off, none⟩) L C] 31)).alloc (.cells #[.int .i64 2] 3)) := (hB2.alloc hB2.size _).alloc (by simp; omega) _
    have sz3 : ((W2.alloc (.cells #[.slice (some ⟨g, off, none⟩) L C] 31)).alloc (.cells #[.int .i64 2] 3)).heap.size = W2.heap.size + 2 := by simp
    generalize (W2.alloc (.cells #[.slice (some ⟨g, off, none⟩) L C] 31)).alloc (.cells #[.int .i64 2] 3) = W3 at *
    refine wpIn_rangeFunc_ownG rfl (by decide) (gf := 61) (lb := #[.pointer (some ⟨W2.heap.size, 0, none⟩), .pointer (some ⟨W2.heap.size + 1, 0, none⟩)]) rfl trivial (enters_of Tryd.func61 (by kernel_rfl) rfl)
      (chunk_stops (5 - 1) (by decide) g off M L C W2.heap.size (W2.heap.size + 1) hLM (by omega) hLC W3 (by omega) (by omega) ⟨bS.cell, bN.cell⟩)
      (fun h k hR => k (h hR)) (KpH.put (w := W3)) (Below.refl _ _) (fun _ => rfl)
      (fun (pre : List (Ix M)) W => Boxed W w1.heap.size 3 (.int .i64 (aft rest (hi - d, [(hi - d, hi)]) (pre.map fun x => x.1)).1) ∧ (∃ v, Boxed W Bo 35 v ∧ W.ownsRow w1.heap.size 67 2 v (pre.length + 1) (flat (aft rest (hi - d, [(hi - d, hi)]) (pre.map fun x => x.1)).2) ∧ True) ∧ Boxed W W2.heap.size 31 (.slice (some ⟨g, off, none⟩) L C) ∧ Boxed W (W2.heap.size + 1) 3 (.int .i64 2) ∧ Below w1.heap.size w1 W)
      (fun _ _ _ => False)
      (OwnFrom.and (Own.from (boxed_own _ _ _) _) (OwnFrom.and (Own.from (holdsRow_own w1.heap.size Bo 35 67 2 (fun pre : List (Ix M) => pre.length + 1) (fun pre : List (Ix M) => flat (aft rest (hi - d, [(hi - d, hi)]) (pre.map fun x => x.1)).2) (fun _ _ => True)) _) (OwnFrom.and (Own.from (boxed_own _ _ _) _) (OwnFrom.and (Own.from (boxed_own _ _ _) _) (ownFrom_below (Nat.le_refl _) (by omega))))))
      (fun _ _ _ _ _ hs _ _ => hs)
      ⟨kL0, ⟨_, kO0, kr0, trivial⟩, bS, bN, hB30⟩
      (fun x => { tmps := #[.string s, undef, .slice none 0 0, .nilIface, (.slice (some ⟨g, 0, none⟩) len cp), .nilIface, .pointer (some ⟨w1.heap.size, 0, none⟩), .pointer (some ⟨Bo, 0, none⟩), .slice (some ⟨g, off + 2 * x.1, none⟩) 2 2, undef, .tuple #[(.slice (some ⟨g, 0, none⟩) len cp), .nilIface], .string s, .tuple #[(.slice (some ⟨g, 0, none⟩) len cp), .nilIface], (.slice (some ⟨g, 0, none⟩) len cp), .nilIface, .nilIface, .bool false, undef, (.slice (some ⟨g, 0, none⟩) len cp), .int .i64 (3 + 2 * m), .bool false, .bool false, (.slice (some ⟨g, 0, none⟩) len cp), .int .i64 (3 + 2 * m), (.slice (some ⟨g, 0, none⟩) len cp), .pointer (some ⟨g, 1, none⟩), .int .i64 m, .int .i64 (2 * m), .int .i64 (3 + 2 * m), .bool false, .bool false, undef, (.slice (some ⟨g, 0, none⟩) len cp), .pointer (some ⟨g, 0, none⟩), .int .i64 hi, (.slice (some ⟨g, 0, none⟩) len cp), .pointer (some ⟨g, 2, none⟩), .int .i64 d, .int .i64 (hi - d), .int .i64 (hi - d), (.slice (some ⟨g, 0, none⟩) len cp), .pointer (some ⟨g, 0, none⟩), .int .i64 hi, .agg #[.int .i64 (hi - d), .int .i64 hi], .slice (some ⟨Br, 0, none⟩) 1 1, (.slice (some ⟨g, 0, none⟩) len cp), .slice (some ⟨g, off, none⟩) L C, .func (.func 61) #[] #[.pointer (some ⟨W2.heap.size, 0, none⟩), .pointer (some ⟨W2.heap.size + 1, 0, none⟩)], .slice (some ⟨g, off + 2 * x.1, none⟩) 2 2, undef, undef, undef, undef, undef, undef, undef, undef, undef, undef, undef, undef, undef, undef, undef, undef, undef, undef, undef, undef, undef], defers := [] }) ?assign ?body ?done ?stop
    all_goals clear bL bO oR hB2 bS bN kL0 kO0 kr0 hB30 hsl hLM hLC sz2
    case assign =>
      intro l x W K hK
      clear sz3 hM12
      gi_wp2
      exact hK
    case body =>
      rintro l pre ⟨x, hx⟩ W ⟨kL, ⟨v, kO, kr, _⟩, kS, kN, hB⟩ hpl
      have hx : x < M := hx
      obtain ⟨cx0, cx1⟩ := cl.out x hx
      have z0 := (hB.cell (p := ⟨g, off + 2 * x, none⟩) Hg.out).trans cx0
      have z1 := (hB.cell (p := ⟨g, off + 2 * x + 1, none⟩) Hg.out).trans cx1
      have hbd := aft_bd (rest := rest) (fun z hz => HM.out z (by simp [hz])) (pre.map fun x => x.1) (hi - d, [(hi - d, hi)])
      have hal := aft_len rest (pre.map fun x => x.1) (hi - d, [(hi - d, hi)])
      rw [List.length_map] at hbd hal
      have na := getD_mays (rest := rest) (fun z hz => HM.out z (by simp [hz])) (2 * x)
      have nb := getD_mays (rest := rest) (fun z hz => HM.out z (by simp [hz])) (2 * x + 1)
      have HS : Hid (aft rest (hi - d, [(hi - d, hi)]) ((pre ++ [(⟨x, hx⟩ : Ix M)]).map fun x => x.1) = stp rest (aft rest (hi - d, [(hi - d, hi)]) (pre.map fun x => x.1)) x) := by
        show _ = _
        rw [List.map_append]; exact aft_snoc _ _ _ _
      simp only at hbd hal
      generalize aft rest (hi - d, [(hi - d, hi)]) (pre.map fun x => x.1) = st at *
      have hSt : Hid (stp rest st x = (st.1 - rest[2 * x]?.getD 0 - 2 - rest[2 * x + 1]?.getD 0, st.2 ++ [(st.1 - rest[2 * x]?.getD 0 - 2 - rest[2 * x + 1]?.getD 0, st.1 - rest[2 * x]?.getD 0 - 2)])) := rfl
      generalize rest[2 * x]?.getD 0 = na' at *
      generalize rest[2 * x + 1]?.getD 0 = nb' at *
      have hpl' : pre.length < 12 := by omega
      have bd1 : st.1 ≤ 1073741824 ∧ -60000000000 ≤ st.1 := by omega
      have HPL : Hid (pre.length < 12) := hpl'
      have kLc := kL.cell
      have kLf := kL.frozen
      have kOc := kO.cell
      have kOf := kO.frozen
      obtain ⟨gr, capr, rfl⟩ := ownsRow_succ kr
      have SZ3 : Hid (W3.heap.size = W2.heap.size + 2) := sz3
      clear cx0 cx1 cl hbd hal hpl hpl' m0 m1 m2 hM12 sz3
      gi_wp2
      refine region_round_quiet (F := Fence.wide) rfl (by kernel_rfl) (by kernel_rfl) rfl ?_
      repeat (gi_big_quiet_step (fail))
      refine wpQuietIn_nil ?_
      intro _ hw'
      obtain ⟨nq, hw''⟩ := hw'
      subst hw''
      have kLq : Boxed (W.drewN nq) w1.heap.size 3 (.int .i64 st.1) := kL
      have kOq : Boxed (W.drewN nq) Bo 35 (.slice (some ⟨gr, 0, none⟩) (pre.length + 1) capr) := kO
      have kSq : Boxed (W.drewN nq) W2.heap.size 31 (.slice (some ⟨g, off, none⟩) L C) := kS
      have kNq : Boxed (W.drewN nq) (W2.heap.size + 1) 3 (.int .i64 2) := kN
      have krq : (W.drewN nq).ownsRow w1.heap.size 67 2 (.slice (some ⟨gr, 0, none⟩) (pre.length + 1) capr) (pre.length + 1) (flat st.2) := kr
      have kLS := kLq.set (.int .i64 (st.1 - na' - 2 - nb'))
      have kOS := kOq.other (B' := w1.heap.size) (by omega) (.int .i64 (st.1 - na' - 2 - nb'))
      have kSS := kSq.other (B' := w1.heap.size) (by have := SZ2.out; omega) (.int .i64 (st.1 - na' - 2 - nb'))
      have kNS := kNq.other (B' := w1.heap.size) (by have := SZ2.out; omega) (.int .i64 (st.1 - na' - 2 - nb'))
      have krS := ownsRow_setCell_other (a := ⟨w1.heap.size, 0, none⟩) krq (fun e => (kLq.not_row (by decide) krq) e.symm) (.int .i64 (st.1 - na' - 2 - nb'))
      have hBS := (V.below_dn hB nq).setCell (p := ⟨w1.heap.size, 0, none⟩) (Nat.le_refl _) (.int .i64 (st.1 - na' - 2 - nb'))
      have KO : KeepsOthers W ((W.drewN nq).setCell ⟨w1.heap.size, 0, none⟩ (.int .i64 (st.1 - na' - 2 - nb'))) := ⟨(KeepsOthers.setCell (W.drewN nq) ⟨w1.heap.size, 0, none⟩ (.int .i64 (st.1 - na' - 2 - nb'))).size, (KeepsOthers.setCell (W.drewN nq) ⟨w1.heap.size, 0, none⟩ (.int .i64 (st.1 - na' - 2 - nb'))).same⟩
      have hszS : ((W.drewN nq).setCell ⟨w1.heap.size, 0, none⟩ (.int .i64 (st.1 - na' - 2 - nb'))).heap.size = W.heap.size := by simp
      have cs2 := cells_rng ((W.drewN nq).setCell ⟨w1.heap.size, 0, none⟩ (.int .i64 (st.1 - na' - 2 - nb'))) (st.1 - na' - 2 - nb') (st.1 - na' - 2)
      rw [hszS] at cs2
      have CS : Hid (∀ j u, [Value.int .i64 (st.1 - na' - 2 - nb'), Value.int .i64 (st.1 - na' - 2)][j]? = some u → (((W.drewN nq).setCell ⟨w1.heap.size, 0, none⟩ (.int .i64 (st.1 - na' - 2 - nb'))).alloc (.cells #[.int .i64 (st.1 - na' - 2 - nb'), .int .i64 (st.1 - na' - 2)] 67)).cell? ((⟨W.heap.size, 0, none⟩ : Addr).add j) = some u) := cs2
      have hszW : w1.heap.size ≤ W.heap.size := hB.size
      have HK1 : Hid (((W.drewN nq).setCell ⟨w1.heap.size, 0, none⟩ (.int .i64 (st.1 - na' - 2 - nb'))).ownsRow w1.heap.size 67 2 (.slice (some ⟨gr, 0, none⟩) (pre.length + 1) capr) (pre.length + 1) (flat st.2)) := krS
      clear cs2 krq kLq kOq kSq kNq
      obtain ⟨i0, hi0, hz0, hz1, hz2⟩ := info_parts infoR
      have HI : Hid (Tryd.prog.info? 67 = some i0 ∧ i0.zero = some (.agg #[.int .i64 0, .int .i64 0]) ∧ i0.size = 2 ∧ i0.bytes = 16) := ⟨hi0, hz0, hz1, hz2⟩
      clear hi0 hz0 hz1 hz2 krS
      gi_wp2_with (gi_at_builtin; refine wpListIn_append_own _ rfl _ _ 35 rfl w1.heap.size 67 i0 _ 2 16 Tryd.underlying35 HI.out.1 HI.out.2.1 HI.out.2.2.1 HI.out.2.2.2 rfl (by decide) _ _ _ rfl (HK1.out.alloc _) ⟨W.heap.size, 0, none⟩ 1 1 [Value.int .i64 (st.1 - na' - 2 - nb'), Value.int .i64 (st.1 - na' - 2)] rfl rfl CS.out (by intro u hu; simp at hu; rcases hu with rfl | rfl <;> rfl) (by have := HPL.out; unfold maxLen; omega) (by have := HPL.out; omega) (by simp; omega) ?_; intro v' w4 hown' hgrow _; obtain ⟨g', cap', rfl⟩ := ownsRow_succ hown'; obtain ⟨hv1, hv2, hr2, hk2, hb2⟩ := kOS.appended (by decide) HK1.out (by rw [hszS]; exact hszW) (Nat.le_of_lt hBo1) hown' hgrow; have hc1 := hv1.cell; have hf1 := hv1.frozen)
      have kL4 := ((kLS.alloc _).kept hgrow (kLS.not_row (by decide) HK1.out)).other (B' := Bo) (by omega) (.slice (some ⟨g', 0, none⟩) (pre.length + 1 + 1) cap')
      have kS4 := ((kSS.alloc _).kept hgrow (kSS.not_row (by decide) HK1.out)).other (B' := Bo) (by have := HBo2.out; omega) (.slice (some ⟨g', 0, none⟩) (pre.length + 1 + 1) cap')
      have kN4 := ((kNS.alloc _).kept hgrow (kNS.not_row (by decide) HK1.out)).other (B' := Bo) (by have := HBo2.out; omega) (.slice (some ⟨g', 0, none⟩) (pre.length + 1 + 1) cap')
      refine ⟨(KO.trans hk2).from _, fun _ => ⟨kS4.cell, kN4.cell⟩, ?_, ⟨_, hv2, ?_, trivial⟩, kS4, kN4, hBS.trans hb2⟩
      · rw [HS.out, hSt.out]; exact kL4
      · rw [HS.out, hSt.out, List.length_append, flat_append]; exact hr2
    case done =>
      rintro D ys W hD hys ⟨kL, ⟨v, kO, kr, _⟩, kS, kN, hB⟩ hK
      have hal := aft_all M rest (hi - d) [(hi - d, hi)] hRl.out
      rw [hys, hal] at kL kr
      have hyl : ys.length = M := by have := congrArg List.length hys; simpa using this
      rw [hyl] at kr
      have HKR : Hid (W.ownsRow w1.heap.size 67 2 v (M + 1) (flat ((hi - d, hi) :: pairs (hi - d) rest))) := kr
      obtain ⟨gr, capr, rfl⟩ := ownsRow_succ kr
      simp only at kL
      have kLc := kL.cell
      have kOc := kO.cell
      have hBw : Hid (Below w.heap.size w W) := HB1.out.trans (hB.mono HB1.out.size)
      have hDw : Hid (w.heap.size ≤ D) := by
        show _ ≤ _
        have := SZ2.out
        have := HB1.out.size
        omega
      have hRow : Hid (Row (W.putObj D (.deferred none)) (.slice (some ⟨gr, 0, none⟩) (M + 1) capr) ((hi - d, hi) :: pairs (hi - d) rest)) := row_of_own (ownsRow_putObj kr _ hK rfl) (by
        have := own_length (zs := (hi - d, hi) :: pairs (hi - d) rest) HKR.out
        omega)
      have hFit : Hid (Fits (.slice (some ⟨gr, 0, none⟩) (M + 1) capr)) := fits_own kr
      clear hal hys kr kS kN hyl hM12 sz3 hB
      by_cases hneg : lastLo (hi - d) rest < 0
      · gi_wp2
        refine ⟨by simp, .inl ⟨_, _, rfl, run_takeDeferred hK, ?_⟩⟩
        exact ⟨_, results_tmp2 rfl _ _ _, .inl ⟨hneg, rfl⟩, hBw.out.trans (belowK_b (w := w) (Nat.le_refl _) W D _ _ hDw.out hK rfl rfl)⟩
      · have hpos : 0 ≤ lastLo (hi - d) rest := by omega
        gi_wp2
        refine ⟨by simp, .inl ⟨_, _, rfl, run_takeDeferred hK, ?_⟩⟩
        exact ⟨_, results_tmp2 rfl _ _ _, .inr ⟨_, rfl, hRow.out, hFit.out⟩, hBw.out.trans (belowK_b (w := w) (Nat.le_refl _) W D _ _ hDw.out hK rfl rfl)⟩
    case stop =>
      rintro D c pre W _ _ h _
      exact h.elim
  gi_region
  · refine KEY (w1.heap.size + 1 + 1) (w1.heap.size + 1) _ ((bx.alloc _).alloc _) ?_ ?_ (((hB1.alloc (by omega) _).alloc (by simp; omega) _).drew) (by simp [World.drew]; omega) (by omega) (by simp [World.drew]; omega)
    · have := Boxed.new (W1.alloc (.cells #[.int .i64 (hi - d), .int .i64 hi] 67)) 35 (.slice (some ⟨w1.heap.size + 1, 0, none⟩) 1 1)
      rw [World.size_alloc, sz1] at this
      exact this
    · have := (World.ownsRow_lit (base := w1.heap.size) (e := 67) (size := 2) W1 #[.int .i64 (hi - d), .int .i64 hi] 1 (by omega) (by decide) rfl).alloc (.cells #[.slice (some ⟨w1.heap.size + 1, 0, none⟩) 1 1] 35)
      rw [sz1] at this
      exact this
  · refine KEY (w1.heap.size + 1) (w1.heap.size + 1 + 1) _ ((bx.alloc _).alloc _) ?_ ?_ (((hB1.alloc (by omega) _).alloc (by simp; omega) _).drew) (by simp [World.drew]; omega) (by omega) (by simp [World.drew]; omega)
    · have := (Boxed.new W1 35 (.slice (some ⟨w1.heap.size + 1 + 1, 0, none⟩) 1 1)).alloc (.cells #[.int .i64 (hi - d), .int .i64 hi] 67)
      rw [sz1] at this
      exact this
    · have := World.ownsRow_lit (base := w1.heap.size) (e := 67) (size := 2) (W1.alloc (.cells #[.slice (some ⟨w1.heap.size + 1 + 1, 0, none⟩) 1 1] 35)) #[.int .i64 (hi - d), .int .i64 hi] 1 (by simp; omega) (by decide) rfl
      rw [World.size_alloc, sz1] at this
      exact this
end Go.Proofs.YtoabfilliiopmaaDoor
