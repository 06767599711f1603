/- What joined answers: of two lists of ranges the one list in the one form that has all that either has. -/
import Derived.Test.YtegelodkopommaaGreatDoorRJ
import Derived.Laws.OwnMore
import Derived.Deep.AppendLies
namespace Go.Proofs.YtegelodkopommaaGreatDoor
open Go.RowKit Go.Lib Go.Sort Go.Shelf
set_option linter.unusedVariables false
set_option linter.unusedSimpArgs false

/-- What lies in out when the ranges ahead of k have been taken. -/
def Part (s : List R) (k : Nat) (o : List R) : Prop := (k = 0 ∧ o = []) ∨ ∃ front cur, o = front ++ [cur] ∧ join s = front ++ mrg cur (s.drop k)
theorem part_first {s : List R} (h : 0 < s.length) : Part s 1 [at' s 0] := by
  match s, h with
  | r :: rs, _ => exact .inr ⟨[], r, rfl, rfl⟩
theorem part_in {s front : List R} {cur : R} {k : Nat} (h : join s = front ++ mrg cur (s.drop k)) (hk : k < s.length) (ht : cur.1 ≤ (at' s k).2 + 1) : Part s (k + 1) (front ++ [(min cur.1 (at' s k).1, cur.2)]) := by
  refine .inr ⟨front, _, rfl, ?_⟩
  rw [h, drop_at hk, mrg, if_pos ht]
theorem part_next {s front : List R} {cur : R} {k : Nat} (h : join s = front ++ mrg cur (s.drop k)) (hk : k < s.length) (ht : ¬ cur.1 ≤ (at' s k).2 + 1) : Part s (k + 1) (front ++ [cur] ++ [at' s k]) := by
  refine .inr ⟨front ++ [cur], _, rfl, ?_⟩
  rw [h, drop_at hk, mrg, if_neg ht, List.append_assoc]; rfl
theorem part_done {s o : List R} (h : Part s s.length o) : o = join s := by
  rcases h with ⟨h0, rfl⟩ | ⟨front, cur, rfl, h⟩
  · rw [List.eq_nil_of_length_eq_zero h0]; rfl
  · rw [h, List.drop_length]; rfl
theorem rpart_length {s o : List R} {k : Nat} (h : Part s k o) : o.length ≤ s.length := by
  rcases h with ⟨_, rfl⟩ | ⟨front, cur, rfl, h⟩
  · simp
  · have a := join_length s
    rw [h, List.length_append] at a
    have : 0 < (mrg cur (s.drop k)).length := by
      generalize s.drop k = l
      clear h a
      induction l generalizing cur with
      | nil => simp [mrg]
      | cons r rs ih => rw [mrg]; split; exact ih _; simp
    simp only [List.length_append, List.length_cons, List.length_nil]
    omega
theorem flat_set (front : List R) (cur : R) (x : Int) : (flat (front ++ [cur])).set (front.length * 2) (.int .i64 x) = flat (front ++ [(x, cur.2)]) := by
  rw [flat_append, flat_append, List.set_append, flat_length]
  simp [flat, encR]
theorem flat_last (front : List R) (cur : R) : (flat (front ++ [cur]))[front.length * 2]? = some (.int .i64 cur.1) ∧ (flat (front ++ [cur]))[front.length * 2 + 1]? = some (.int .i64 cur.2) := by
  have h := flat_get (front ++ [cur]) front.length (by simp)
  have e : at' (front ++ [cur]) front.length = cur := by simp [at']
  rw [e] at h
  exact h

set_option maxRecDepth 100000 in
set_option maxHeartbeats 4000000 in
theorem joined_calls (va vb : Value) (xs ys : List R) (w : World) (hra : Row w va xs) (hrb : Row w vb ys) (hx : xs.length ≤ 1000) (hy : ys.length ≤ 1000)
    (gx : ∀ r, r ∈ xs ++ ys → 0 ≤ r.1 ∧ r.1 ≤ r.2 ∧ r.2 ≤ 1073741823) :
    Calls Tryz.prog 47 #[va, vb] w fun e w' => ∃ v zs, e = .returned v ∧ w'.ownsRow w.heap.size 66 2 v zs.length (flat zs) ∧ Norm zs ∧ (∀ n, Mem zs n ↔ Mem xs n ∨ Mem ys n) ∧ zs.length ≤ xs.length + ys.length ∧ Below w.heap.size w w' := by
  have HA : Hid (Row w va xs) := hra
  have HB : Hid (Row w vb ys) := hrb
  have HG : Hid (∀ r, r ∈ xs ++ ys → 0 ≤ r.1 ∧ r.1 ≤ r.2 ∧ r.2 ≤ 1073741823) := gx
  clear gx
  obtain ⟨aa, ca, rfl, la, na, za⟩ := hra
  obtain ⟨ab, cb, rfl, lb, nb, zb⟩ := hrb
  clear za zb na nb
  go_enter Tryz.func47, Tryz.ntmps47
  go_wp2_with fail
  have bel0 := (Below.refl w.heap.size w).alloc (Nat.le_refl _) (.cells #[.slice aa xs.length ca, .slice ab ys.length cb] 41)
  refine (concat_calls w.heap.size (.slice aa xs.length ca) (.slice ab ys.length cb) xs ys _ (by simp) (by simp) (by simp) (HA.out.below bel0) (HB.out.below bel0) hx hy).mono ?_
  rintro e w1 ⟨v1, rfl, hown1, hB1⟩
  have hBa := bel0.trans (hB1.mono bel0.size)
  go_wp2_with fail
  refine (sort_calls v1 (xs ++ ys) (xs.length + ys.length) w.heap.size w1 (own_mono hown1 (by simp)) (by simp; omega) hBa.size).mono ?_
  rintro e w2 ⟨rfl, ⟨s, hp, hd, hrs⟩, hB2⟩
  have hBb := hBa.trans hB2
  have HS : Hid (s.Perm (xs ++ ys) ∧ Desc s) := ⟨hp, hd⟩
  have hsl : s.length = xs.length + ys.length := by rw [hp.length_eq]; simp
  have hG : Hid (∀ j, j < s.length → 0 ≤ (at' s j).1 ∧ (at' s j).1 ≤ (at' s j).2 ∧ (at' s j).2 ≤ 1073741823) := fun j hj => HG.out _ (hp.mem_iff.1 (at_mem hj))
  clear hp hd
  have HR : Hid (Row w2 v1 s) := hrs
  obtain ⟨aS, cS, rfl, ls, ns, zs'⟩ := hrs
  clear ns
  have HZ : Hid (s = [] ∨ ∃ b off, aS = some ⟨b, off, none⟩ ∧ b < w2.heap.size ∧ Cells w2 b off s) := zs'
  clear zs' hown1 hB1 hB2
  have hlen : Hid (s.length = xs.length + ys.length) := hsl
  have hsl' : s.length ≤ 2000 := by omega
  clear hsl
  generalize hL : s.length = len at *
  have HL : Hid (s.length = len) := hL
  clear hL
  go_wp2_with fail
  go_loopw [6, 18] (fun o i wr => ∃ (k : Nat) (os : List R), k ≤ len ∧ i = .int .i64 k ∧ Hid (Part s k os) ∧ wr.ownsRow w2.heap.size 66 2 o os.length (flat os) ∧ Below w2.heap.size w2 wr) (fun _ i _ => len - (intOf i).toNat)
  case atStart => exact ⟨0, [], Nat.zero_le _, rfl, .inl ⟨rfl, rfl⟩, World.ownsRow_nil _ _ _ _, Below.refl _ _⟩
  case round =>
    obtain ⟨k, os, hk, rfl, hP, hown, hB⟩ := hrel
    have hos : os.length ≤ 2000 := by have := rpart_length hP.out; have := HL.out; omega
    by_cases hlt : k < len
    · have g1 : (k : Int) < (len : Int) := by omega
      have hkl : k < s.length := by have := HL.out; omega
      obtain ⟨b, off, rfl, hb, hC⟩ : ∃ b off, aS = some ⟨b, off, none⟩ ∧ b < w2.heap.size ∧ Cells w2 b off s := by
        rcases HZ.out with h | h
        · rw [h] at hkl; simp at hkl
        · exact h
      have c0 := (hC.below hb hB k hkl).1
      have c1 := (hC.below hb hB k hkl).2
      have bd := hG.out k hlt
      clear hC
      have HK : Hid (k < s.length) := hkl
      clear hkl
      generalize hr : at' s k = r at c0 c1 bd
      obtain ⟨lo, hi⟩ := r
      have HRr : Hid (at' s k = (lo, hi)) := hr
      clear hr
      simp only at c0 c1 bd
      have hBs := hB.size
      have bel1 := (Below.refl wr.heap.size wr).alloc (Nat.le_refl _) (.cells #[.int .i64 lo, .int .i64 hi] 66)
      have own1 := hown.alloc (.cells #[.int .i64 lo, .int .i64 hi] 66)
      have hBr := hB.alloc hBs (.cells #[.int .i64 lo, .int .i64 hi] 66)
      rcases hP.out with ⟨h0, h1⟩ | ⟨front, cur, h1, hj⟩
      · subst h0
        subst h1
        have hu : ∃ ao c, u6 = .slice ao 0 c := by
          rcases hown.2 with ⟨e, _⟩ | ⟨g, cap, cur, e, _⟩
          · exact ⟨_, _, e⟩
          · exact ⟨_, _, e⟩
        obtain ⟨ao, c, rfl⟩ := hu
        simp only [Nat.zero_mul, Nat.add_zero] at c0 c1
        go_wp2_with fail
        go_quiet (fail)
        have f0 : ((wr.alloc (.cells #[.int .i64 lo, .int .i64 hi] 66)).drewN nq).cell? ⟨wr.heap.size, 0, none⟩ = some (.int .i64 lo) := by simp
        have f1 : ((wr.alloc (.cells #[.int .i64 lo, .int .i64 hi] 66)).drewN nq).cell? ⟨wr.heap.size, 1, none⟩ = some (.int .i64 hi) := by simp
        have ownW : ((wr.alloc (.cells #[.int .i64 lo, .int .i64 hi] 66)).drewN nq).ownsRow w2.heap.size 66 2 (.slice ao 0 c) 0 (flat []) := own1
        have hBW := below_drewN hBr nq
        generalize (wr.alloc (.cells #[.int .i64 lo, .int .i64 hi] 66)).drewN nq = W1 at *
        clear c0 c1 own1 hBr bel1 hown
        go_wp2_with (at_builtin; refine append_row rfl (.tmp 47) (.tmp 49) rfl w2.heap.size _ _ _ rfl (ownW.alloc _) _ [(lo, hi)] rfl (row_new _ lo hi) (by simp only [List.length_append, List.length_cons, List.length_nil] at *; omega) (by simp; have := hBW.size; omega) ?_; intro v3 w3 hown3 hb3)
        have hB3 : Below w2.heap.size w2 w3 := (hBW.alloc hBW.size _).trans hb3
        exact ⟨⟨1, [(lo, hi)], by omega, by go_num, (show Hid (Part s 1 [(lo, hi)]) from (HRr.out ▸ part_first HK.out)), by simpa [flat] using hown3, hB3⟩, by simp [intOf]; omega⟩
      · subst h1
        obtain ⟨cl, ch⟩ := cur
        have HJ : Hid (join s = front ++ mrg (cl, ch) (s.drop k)) := hj
        clear hj hP
        obtain ⟨g, cap, rfl, hg1, hg2⟩ := hown.form (by simp)
        have hF : front.length + 1 ≤ 2000 := by simp at hos; omega
        have cl0 := hown.cellAt (front.length * 2) (by simp <;> omega)
        have cl1 := hown.cellAt (front.length * 2 + 1) (by simp <;> omega)
        rw [(flat_last front (cl, ch)).1] at cl0
        rw [(flat_last front (cl, ch)).2] at cl1
        have hw1 : IntKind.i64.wrap (front.length : Int) = (front.length : Int) := by simp [IntKind.wrap, IntKind.bits, IntKind.signed]; omega
        simp only [List.length_append, List.length_cons, List.length_nil] at hown own1 ⊢
        generalize hm : front.length = m at *
        have HM : Hid (front.length = m) := hm
        clear hm
        have gm : (0 : Int) ≤ (m : Int) := by omega
        have gm1 : (m : Int) < ((m + 1 : Nat) : Int) := by omega
        have HT : Hid (at' s k = (lo, hi)) := HRr
        by_cases h4 : cl ≤ hi + 1
        · have HP1 : Hid (Part s (k + 1) (front ++ [(min cl lo, ch)])) := by
            show _
            have := part_in HJ.out HK.out (by rw [HRr.out]; exact h4)
            rw [HRr.out] at this
            exact this
          go_wp2_with fail
          have bel1 := (Below.refl wr.heap.size wr).alloc (Nat.le_refl _) (.cells #[.int .i64 lo, .int .i64 hi] 66)
          generalize hW : wr.alloc (.cells #[.int .i64 lo, .int .i64 hi] 66) = W1 at *
          have gW : wr.heap.size < W1.heap.size := by rw [← hW]; simp
          have e0 : ∀ n os, (grow (W1.drewN n) os).cell? ⟨wr.heap.size, 0, none⟩ = some (.int .i64 lo) := cell_grown gW (by rw [← hW]; simp)
          have e1 : ∀ n os, (grow (W1.drewN n) os).cell? ⟨wr.heap.size, 1, none⟩ = some (.int .i64 hi) := cell_grown gW (by rw [← hW]; simp)
          have e2 : ∀ n os, (grow (W1.drewN n) os).cell? ⟨g, m * 2, none⟩ = some (.int .i64 cl) := cell_grown (by show g < _; omega) ((bel1.cell (by exact hg2)).trans cl0)
          have e3 : ∀ n os, (grow (W1.drewN n) os).cell? ⟨g, m * 2 + 1, none⟩ = some (.int .i64 ch) := cell_grown (by show g < _; omega) ((bel1.cell (by exact hg2)).trans cl1)
          clear hW c0 c1 cl0 cl1 hown
          have mx := mixed
          generalize hn : m + 1 = n at *
          have HN : Hid (m + 1 = n) := hn
          clear hn
          go_quiet_grown (first | (go_at_call 51; refine Calls.grown_of (touches_grow lo hi cl ch _ (by omega) bd.2.2)))
          have f0 := e0 nq osq
          have f1 := e1 nq osq
          have f2 := e2 nq osq
          have f3 := e3 nq osq
          have bg := below_grow (below_drewN (Below.refl W1.heap.size W1) nq) (Nat.le_refl _) osq
          have ownW := own_below own1 bg
          have hBW : Below w2.heap.size w2 (grow (W1.drewN nq) osq) := hBr.trans (bg.mono hBr.size)
          generalize grow (W1.drewN nq) osq = W2 at *
          clear e0 e1 e2 e3 own1 hBr bel1 bg
          have fz := ownW.frozenAt (m * 2)
          go_wp2_with fail
          go_region
          go_wp2_with fail
          have hst := (ownW.stored (m * 2) (.int .i64 (min cl lo))).1
          have hst2 : ((W2.setCell ⟨g, m * 2, none⟩ (.int .i64 (min cl lo))).drew).ownsRow w2.heap.size 66 2 (.slice (some ⟨g, 0, none⟩) n cap) (front ++ [(min cl lo, ch)]).length (flat (front ++ [(min cl lo, ch)])) := by
            have e1 : (front ++ [(min cl lo, ch)]).length = n := by have := HM.out; have := HN.out; simp; omega
            have e2 := flat_set front (cl, ch) (min cl lo)
            rw [HM.out] at e2
            rw [e1, ← e2]
            exact hst
          exact ⟨⟨k + 1, front ++ [(min cl lo, ch)], by omega, by go_num, HP1, hst2, (hBW.setCell (p := ⟨g, m * 2, none⟩) hg1 _).drew⟩, by simp [intOf]; omega⟩
        · have HP1 : Hid (Part s (k + 1) (front ++ [(cl, ch)] ++ [(lo, hi)])) := by
            show _
            have := part_next HJ.out HK.out (by rw [HRr.out]; exact h4)
            rw [HRr.out] at this
            exact this
          go_wp2_with fail
          have bel1 := (Below.refl wr.heap.size wr).alloc (Nat.le_refl _) (.cells #[.int .i64 lo, .int .i64 hi] 66)
          generalize hW : wr.alloc (.cells #[.int .i64 lo, .int .i64 hi] 66) = W1 at *
          have gW : wr.heap.size < W1.heap.size := by rw [← hW]; simp
          have e0 : ∀ n os, (grow (W1.drewN n) os).cell? ⟨wr.heap.size, 0, none⟩ = some (.int .i64 lo) := cell_grown gW (by rw [← hW]; simp)
          have e1 : ∀ n os, (grow (W1.drewN n) os).cell? ⟨wr.heap.size, 1, none⟩ = some (.int .i64 hi) := cell_grown gW (by rw [← hW]; simp)
          have e2 : ∀ n os, (grow (W1.drewN n) os).cell? ⟨g, m * 2, none⟩ = some (.int .i64 cl) := cell_grown (by show g < _; omega) ((bel1.cell (by exact hg2)).trans cl0)
          have e3 : ∀ n os, (grow (W1.drewN n) os).cell? ⟨g, m * 2 + 1, none⟩ = some (.int .i64 ch) := cell_grown (by show g < _; omega) ((bel1.cell (by exact hg2)).trans cl1)
          clear hW c0 c1 cl0 cl1 hown
          have mx := mixed
          generalize hn : m + 1 = n at *
          have HN : Hid (m + 1 = n) := hn
          clear hn
          go_quiet_grown (first | (go_at_call 51; refine Calls.grown_of (touches_grow lo hi cl ch _ (by omega) bd.2.2)))
          have f0 := e0 nq osq
          have f1 := e1 nq osq
          have f2 := e2 nq osq
          have f3 := e3 nq osq
          have bg := below_grow (below_drewN (Below.refl W1.heap.size W1) nq) (Nat.le_refl _) osq
          have ownW := own_below own1 bg
          have hBW : Below w2.heap.size w2 (grow (W1.drewN nq) osq) := hBr.trans (bg.mono hBr.size)
          generalize grow (W1.drewN nq) osq = W2 at *
          clear e0 e1 e2 e3 own1 hBr bel1 bg
          go_wp2_with (at_builtin; refine append_row rfl (.tmp 47) (.tmp 49) rfl w2.heap.size _ _ _ rfl (ownW.alloc _) _ [(lo, hi)] rfl (row_new _ lo hi) (by simp only [List.length_append, List.length_cons, List.length_nil] at *; omega) (by simp; have := hBW.size; omega) ?_; intro v3 w3 hown3 hb3)
          have hB3 : Below w2.heap.size w2 w3 := (hBW.alloc hBW.size _).trans hb3
          exact ⟨⟨k + 1, front ++ [(cl, ch)] ++ [(lo, hi)], by omega, by go_num, HP1, (by
            have e2 : (front ++ [(cl, ch)] ++ [(lo, hi)]).length = n + [(lo, hi)].length := by have := HM.out; have := HN.out; simp; omega
            rw [e2, flat_append]; exact hown3), hB3⟩, by simp [intOf]; omega⟩
    · obtain rfl : k = len := by omega
      have e1 : os = join s := part_done (by rw [HL.out]; exact hP.out)
      go_wp2_with fail
      go_ret
      refine ⟨_, os, rfl, own_mono hown hBb.size, ?_, ?_, ?_, ?_⟩
      · rw [e1]; exact join_norm s (fun r hr => (HG.out r (HS.out.1.mem_iff.1 hr)).2.1) HS.out.2
      · intro n
        rw [e1, join_mem s (fun r hr => (HG.out r (HS.out.1.mem_iff.1 hr)).2.1) HS.out.2, mem_perm HS.out.1, mem_append]
      · have := join_length s; rw [← e1] at this; have := hlen.out; have := HL.out; omega
      · exact hBb.trans (hB.mono hBb.size)
end Go.Proofs.YtegelodkopommaaGreatDoor
