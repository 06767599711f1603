/- The document's With and In. -/
import Derived.Test.YtegelodkopommaaDoorAD
import Derived.Test.YtegelodkopommaaDoorRB
import Derived.Test.YtegelodkopommaaDoorI
import Derived.Laws.StructEq
namespace Go.Proofs.YtegelodkopommaaDoor
open Go.RowKit Go.Lib Go.Sort
set_option linter.unusedVariables false
set_option linter.unusedSimpArgs false
/-- append as in 'append_row', and nothing but the block of out has turned. -/
theorem append_row2 {w : World} {ops : Array Oper} {rest : List Oper} {o : Oper} {a : Act} {Q : Exit → Act → World → Prop} (hgd : o.guard = none) (s x : Operand)
    (ho : o.op = .call { callee := .builtin .append, args := #[s, x], argTypes := #[34, 34] }) (base : Nat) (v : Value) (n : Nat) (ys : List Value) (hs : a.eval s = v) (hown : w.ownsRow base 37 2 v n ys)
    (B : Nat) (lo hi : Int) (hx : a.eval x = .slice (some ⟨B, 0, none⟩) 1 1) (h0 : w.cell? ⟨B, 0, none⟩ = some (.int .i64 lo)) (h1 : w.cell? ⟨B, 1, none⟩ = some (.int .i64 hi)) (hn : n + 1 ≤ 1000000) (hbase : base ≤ w.heap.size)
    (h : ∀ v' w', w'.ownsRow base 37 2 v' (n + 1) (ys ++ flat [(lo, hi)]) → w.grownBy w' v.ownBlock → wpList Tryd.prog ops Q rest (a.put o.dst v') w') : wpList Tryd.prog ops Q (o :: rest) a w := by
  obtain ⟨i0, hi', hz0, hz1, hz2⟩ := info_parts infoR
  refine wpList_append_own _ hgd s x 34 ho base 37 i0 _ 2 16 Tryd.underlying34 hi' hz0 hz1 hz2 rfl (by decide) v n ys hs hown ⟨B, 0, none⟩ 1 1 (flat [(lo, hi)]) hx (flat_length _) ?_ (fun u hu => flat_one u hu) (by unfold maxLen; omega) (by omega) hbase ?_
  · intro j u hu
    match j, hu with
    | 0, hu => simp [flat, encR] at hu; subst hu; rw [Addr.add_lit]; exact h0
    | 1, hu => simp [flat, encR] at hu; subst hu; rw [Addr.add_lit]; exact h1
    | j + 2, hu => simp [flat, encR] at hu
  · intro v' w' h1 hg _
    exact h v' w' h1 hg

/-- The block in which the parameter x lies. -/
structure XB (w : World) (X : Nat) (xl xh : Int) : Prop where
  c0 : w.cell? ⟨X, 0, none⟩ = some (.int .i64 xl)
  c1 : w.cell? ⟨X, 1, none⟩ = some (.int .i64 xh)
  f0 : w.frozen? ⟨X, 0, none⟩ = false
  f1 : w.frozen? ⟨X, 1, none⟩ = false
  lt : X < w.heap.size
theorem XB.below {w w' : World} {X : Nat} {xl xh : Int} (h : XB w X xl xh) (hb : Below w.heap.size w w') : XB w' X xl xh :=
  ⟨(hb.cell (p := ⟨X, 0, none⟩) h.lt).trans h.c0, (hb.cell (p := ⟨X, 1, none⟩) h.lt).trans h.c1, (hb.frozen (p := ⟨X, 0, none⟩) h.lt).trans h.f0, (hb.frozen (p := ⟨X, 1, none⟩) h.lt).trans h.f1, Nat.lt_of_lt_of_le h.lt hb.size⟩
theorem XB.grown {w w' : World} {X base n : Nat} {xl xh : Int} {v : Value} {xs : List Value} (h : XB w X xl xh) (hg : w.grownBy w' v.ownBlock) (hown : w.ownsRow base 37 2 v n xs) (hX : X < base) : XB w' X xl xh := by
  have hne : some X ≠ v.ownBlock := fun e => by have := (hown.lt X e.symm).1; omega
  exact ⟨(hg.cell_far ⟨X, 0, none⟩ h.lt hne).trans h.c0, (hg.cell_far ⟨X, 1, none⟩ h.lt hne).trans h.c1, (hg.frozen_far ⟨X, 0, none⟩ h.lt hne).trans h.f0, (hg.frozen_far ⟨X, 1, none⟩ h.lt hne).trans h.f1, Nat.lt_of_lt_of_le h.lt hg.size⟩
theorem XB.set {w : World} {X : Nat} {xl xh : Int} (h : XB w X xl xh) (a b : Int) : XB (w.setCell ⟨X, 0, none⟩ (.int .i64 a)) X a xh ∧ XB (w.setCell ⟨X, 1, none⟩ (.int .i64 b)) X xl b := by
  have fs : ∀ (X o : Nat) (q : Addr) (u : Value), (w.setCell ⟨X, o, none⟩ u).frozen? q = w.frozen? q := fun X o q u => by rw [setCell_eq, frozen?_mapBlock]
  exact ⟨⟨World.cell?_setCell_same _ _ _ h.c0, (World.cell?_setCell_other _ _ _ _ (by simp)).trans h.c1, (fs _ _ _ _).trans h.f0, (fs _ _ _ _).trans h.f1, by simpa using h.lt⟩, ⟨(World.cell?_setCell_other _ _ _ _ (by simp)).trans h.c0, World.cell?_setCell_same _ _ _ h.c1, (fs _ _ _ _).trans h.f0, (fs _ _ _ _).trans h.f1, by simpa using h.lt⟩⟩
theorem with_r1 (x r : R) (p : Bool) (rs : List R) (h : x.2 + 1 < r.1) : withF x p (r :: rs) = r :: withF x p rs := by rw [withF, if_pos h]
theorem with_r2 (x r : R) (rs : List R) (h : ¬ x.2 + 1 < r.1) (h2 : r.2 < x.1 - 1) : withF x true (r :: rs) = r :: withF x true rs ∧ withF x false (r :: rs) = x :: r :: withF x true rs := by
  constructor <;> rw [withF, if_neg h, if_pos h2] <;> rfl
theorem with_r3 (x r : R) (p : Bool) (rs : List R) (h : ¬ x.2 + 1 < r.1) (h2 : ¬ r.2 < x.1 - 1) : withF x p (r :: rs) = withF (if r.1 < x.1 then r.1 else x.1, if x.2 < r.2 then r.2 else x.2) p rs := by
  rw [withF, if_neg h, if_neg h2]

set_option maxRecDepth 100000 in
set_option maxHeartbeats 4000000 in
theorem rwith_near (ao : Option Addr) (len cap : Nat) (zs : List R) (xl0 xh0 : Int) (w : World) (hlen : zs.length = len) (hl : len ≤ 1000) (hz : zs = [] ∨ ∃ b off, ao = some ⟨b, off, none⟩ ∧ b < w.heap.size ∧ Cells w b off zs)
    (hg : ∀ r, r ∈ zs → 0 ≤ r.1 ∧ r.1 ≤ r.2 ∧ r.2 ≤ 1073741823) (hx : 0 ≤ xl0 ∧ xl0 ≤ xh0 ∧ xh0 ≤ 1073741823) :
    Calls Tryd.prog 16 #[.slice ao len cap, .agg #[.int .i64 xl0, .int .i64 xh0]] w fun e w' => ∃ v, e = .returned v ∧ w'.ownsRow w.heap.size 37 2 v (withF (xl0, xh0) false zs).length (flat (withF (xl0, xh0) false zs)) ∧ Below w.heap.size w w' := by
  have HL : Hid (zs.length = len) := hlen
  have HZ : Hid (zs = [] ∨ ∃ b off, ao = some ⟨b, off, none⟩ ∧ b < w.heap.size ∧ Cells w b off zs) := hz
  have HG : Hid (∀ r, r ∈ zs → 0 ≤ r.1 ∧ r.1 ≤ r.2 ∧ r.2 ≤ 1073741823) := hg
  clear hlen hz hg
  go_enter Tryd.func16, Tryd.ntmps16
  go_wp2_with fail
  go_loopw [5, 6, 7] (fun o p i wr => ∃ (k : Nat) (os : List R) (xl xh : Int) (pb : Bool), k ≤ len ∧ i = .int .i64 k ∧ p = .bool pb ∧ os.length ≤ k + pb.toNat ∧ (0 ≤ xl ∧ xl ≤ xh ∧ xh ≤ 1073741823) ∧ Hid (withF (xl0, xh0) false zs = os ++ withF (xl, xh) pb (zs.drop k))
      ∧ wr.ownsRow (w.heap.size + 1) 37 2 o os.length (flat os) ∧ XB wr w.heap.size xl xh ∧ Below w.heap.size w wr) (fun _ _ i _ => len - (intOf i).toNat)
  case atStart => exact ⟨0, [], xl0, xh0, false, Nat.zero_le _, rfl, rfl, by simp, hx, rfl, World.ownsRow_nil _ _ _ _, ⟨by simp, by simp, by simp, by simp, by simp⟩, (Below.refl _ _).alloc (Nat.le_refl _) _⟩
  case round =>
    obtain ⟨k, os, xl, xh, pb, hk, rfl, rfl, hos, bx, hE, hown, hX, hB⟩ := hrel
    have hlt1 := hX.lt
    have hpb : pb.toNat ≤ 1 := by cases pb <;> simp
    have hlt0 : w.heap.size + 1 ≤ wr.heap.size := hlt1
    by_cases hlt : k < len
    · have g1 : (k : Int) < (len : Int) := by omega
      have hkl : k < zs.length := by have := HL.out; omega
      obtain ⟨b, off, rfl, hb, hC⟩ : ∃ b off, ao = some ⟨b, off, none⟩ ∧ b < w.heap.size ∧ Cells w b off zs := by
        rcases HZ.out with h | h
        · rw [h] at hkl; simp at hkl
        · exact h
      have c0 := (hC.below hb hB k hkl).1
      have c1 := (hC.below hb hB k hkl).2
      have bd := HG.out _ (at_mem hkl)
      have HD : Hid (zs.drop k = at' zs k :: zs.drop (k + 1)) := drop_at hkl
      clear hC hkl
      generalize at' zs k = r at c0 c1 bd HD
      obtain ⟨lo, hi⟩ := r
      simp only at c0 c1 bd
      have bel1 := (Below.refl wr.heap.size wr).alloc (Nat.le_refl _) (.cells #[.int .i64 lo, .int .i64 hi] 37)
      have own1 := hown.alloc (.cells #[.int .i64 lo, .int .i64 hi] 37)
      have hX1 := hX.below bel1
      have y0 := hX1.c0
      have y1 := hX1.c1
      have z0 := hX1.f0
      have z1 := hX1.f1
      have hBr := hB.alloc hB.size (.cells #[.int .i64 lo, .int .i64 hi] 37)
      have bel2 := (Below.refl _ (wr.alloc (.cells #[.int .i64 lo, .int .i64 hi] 37))).alloc (Nat.le_refl _) (.cells #[.int .i64 lo, .int .i64 hi] 37)
      have bel2x := (Below.refl _ (wr.alloc (.cells #[.int .i64 lo, .int .i64 hi] 37))).alloc (Nat.le_refl _) (.cells #[.int .i64 xl, .int .i64 xh] 37)
      by_cases h1 : xh + 1 < lo
      · have HF : Hid (withF (xl0, xh0) false zs = (os ++ [(lo, hi)]) ++ withF (xl, xh) pb (zs.drop (k + 1))) := by
          show _ = _
          rw [hE.out, HD.out, with_r1 _ _ _ _ h1, List.append_assoc]; rfl
        clear hE
        go_wp2_with (at_builtin; refine append_row2 rfl (.tmp 25) (.tmp 27) rfl (w.heap.size + 1) _ _ _ rfl (own1.alloc _) (wr.heap.size + 1) lo hi rfl (by simp) (by simp) (by omega) (by simp; omega) ?_; intro v3 w3 hown3 hg3)
        have hX3 := (hX1.below bel2).grown hg3 (own1.alloc _) (Nat.lt_succ_self _)
        have hB3 : Below w.heap.size w w3 := (hBr.alloc hBr.size _).grown hg3 ((hBr.alloc hBr.size _).size) (fun j e => by have := (hown.lt j e).1; omega)
        exact ⟨⟨k + 1, os ++ [(lo, hi)], xl, xh, pb, by omega, by go_num, rfl, by simp; omega, bx, HF, (by rw [flat_append, List.length_append]; exact hown3), hX3, hB3⟩, by simp [intOf]; omega⟩
      · by_cases h2 : hi < xl - 1
        · cases pb with
          | true =>
            simp only [Bool.toNat_true] at hos hpb
            have HF : Hid (withF (xl0, xh0) false zs = (os ++ [(lo, hi)]) ++ withF (xl, xh) true (zs.drop (k + 1))) := by
              show _ = _
              rw [hE.out, HD.out, (with_r2 (xl, xh) (lo, hi) _ h1 h2).1, List.append_assoc]; rfl
            clear hE
            go_wp2_with (at_builtin; refine append_row2 rfl (.tmp 41) (.tmp 43) rfl (w.heap.size + 1) _ _ _ rfl (own1.alloc _) (wr.heap.size + 1) lo hi rfl (by simp) (by simp) (by omega) (by simp; omega) ?_; intro v3 w3 hown3 hg3)
            have hX3 := (hX1.below bel2).grown hg3 (own1.alloc _) (Nat.lt_succ_self _)
            have hB3 : Below w.heap.size w w3 := (hBr.alloc hBr.size _).grown hg3 ((hBr.alloc hBr.size _).size) (fun j e => by have := (hown.lt j e).1; omega)
            exact ⟨⟨k + 1, os ++ [(lo, hi)], xl, xh, true, by omega, by go_num, rfl, by simp; omega, bx, HF, (by rw [flat_append, List.length_append]; exact hown3), hX3, hB3⟩, by simp [intOf]; omega⟩
          | false =>
            simp only [Bool.toNat_false] at hos hpb
            have HF : Hid (withF (xl0, xh0) false zs = (os ++ [(xl, xh)] ++ [(lo, hi)]) ++ withF (xl, xh) true (zs.drop (k + 1))) := by
              show _ = _
              rw [hE.out, HD.out, (with_r2 (xl, xh) (lo, hi) _ h1 h2).2, List.append_assoc, List.append_assoc]; rfl
            have HNE : Hid (some wr.heap.size ≠ u5.ownBlock) := fun e => by have := (hown.lt _ e.symm).2; omega
            clear hE
            go_wp2_with (first
              | (at_builtin; refine append_row2 rfl (.tmp 37) (.tmp 39) rfl (w.heap.size + 1) _ _ _ rfl (own1.alloc _) (wr.heap.size + 1) xl xh rfl (by simp) (by simp) (by omega) (by simp; omega) ?_; intro v3 w3 hown3 hg3; have rr0 : w3.cell? ⟨wr.heap.size, 0, none⟩ = some (.int .i64 lo) := (hg3.cell_far ⟨wr.heap.size, 0, none⟩ (by simp; omega) HNE.out).trans (by simp); have rr1 : w3.cell? ⟨wr.heap.size, 1, none⟩ = some (.int .i64 hi) := (hg3.cell_far ⟨wr.heap.size, 1, none⟩ (by simp; omega) HNE.out).trans (by simp); have sz3 : w.heap.size + 1 ≤ w3.heap.size := by have := hg3.size; simp at this; omega)
              | (at_builtin; refine append_row2 rfl (.tmp 41) (.tmp 43) rfl (w.heap.size + 1) _ _ _ rfl (hown3.alloc _) w3.heap.size lo hi rfl (by simp) (by simp) (by omega) (by simp; omega) ?_; intro v4 w4 hown4 hg4))
            have hX3 := (hX1.below bel2x).grown hg3 (own1.alloc _) (Nat.lt_succ_self _)
            have hB3 : Below w.heap.size w w3 := (hBr.alloc hBr.size _).grown hg3 ((hBr.alloc hBr.size _).size) (fun j e => by have := (hown.lt j e).1; omega)
            have bel3 := (Below.refl w3.heap.size w3).alloc (Nat.le_refl _) (.cells #[.int .i64 lo, .int .i64 hi] 37)
            have hX4 := (hX3.below bel3).grown hg4 (hown3.alloc _) (Nat.lt_succ_self _)
            have hB4 : Below w.heap.size w w4 := (hB3.alloc hB3.size _).grown hg4 ((hB3.alloc hB3.size _).size) (fun j e => by have := (hown3.lt j e).1; omega)
            exact ⟨⟨k + 1, os ++ [(xl, xh)] ++ [(lo, hi)], xl, xh, true, by omega, by go_num, rfl, by simp; omega, bx, HF, (by rw [flat_append, flat_append, List.length_append, List.length_append]; exact hown4), hX4, hB4⟩, by simp [intOf]; omega⟩
        · have HF : Hid (withF (xl0, xh0) false zs = os ++ withF (if lo < xl then lo else xl, if xh < hi then hi else xh) pb (zs.drop (k + 1))) := by
            show _ = _
            rw [hE.out, HD.out, with_r3 _ _ _ _ h1 h2]
          clear hE
          have hneX : wr.heap.size ≠ w.heap.size := by omega
          have x0 := hX.c0
          have x1 := hX.c1
          have x2 := hX.f0
          have x3 := hX.f1
          have s2 := (hX.set lo hi).1.c1
          have s3 := (hX.set lo hi).1.f1
          have q0 : w.heap.size < w.heap.size + 1 := Nat.lt_succ_self _
          by_cases h3 : lo < xl
          · rw [if_pos h3] at HF
            by_cases h4 : xh < hi
            · rw [if_pos h4] at HF
              go_wp2_with fail
              exact ⟨⟨k + 1, os, lo, hi, pb, by omega, by go_num, rfl, by omega, by omega, HF, (ownsRow_setCell_below (ownsRow_setCell_below hown (a := ⟨w.heap.size, 0, none⟩) q0 _) (a := ⟨w.heap.size, 1, none⟩) q0 _).alloc _, (((hX.set lo hi).1.set lo hi).2).below ((Below.refl _ _).alloc (Nat.le_refl _) _), ((hB.setCell (p := ⟨w.heap.size, 0, none⟩) (Nat.le_refl _) _).setCell (p := ⟨w.heap.size, 1, none⟩) (Nat.le_refl _) _).alloc (((hB.setCell (p := ⟨w.heap.size, 0, none⟩) (Nat.le_refl _) _).setCell (p := ⟨w.heap.size, 1, none⟩) (Nat.le_refl _) _).size) _⟩, by simp [intOf]; omega⟩
            · rw [if_neg h4] at HF
              go_wp2_with fail
              exact ⟨⟨k + 1, os, lo, xh, pb, by omega, by go_num, rfl, by omega, by omega, HF, (ownsRow_setCell_below hown (a := ⟨w.heap.size, 0, none⟩) q0 _).alloc _, ((hX.set lo hi).1).below ((Below.refl _ _).alloc (Nat.le_refl _) _), (hB.setCell (p := ⟨w.heap.size, 0, none⟩) (Nat.le_refl _) _).alloc ((hB.setCell (p := ⟨w.heap.size, 0, none⟩) (Nat.le_refl _) _).size) _⟩, by simp [intOf]; omega⟩
          · rw [if_neg h3] at HF
            by_cases h4 : xh < hi
            · rw [if_pos h4] at HF
              go_wp2_with fail
              exact ⟨⟨k + 1, os, xl, hi, pb, by omega, by go_num, rfl, by omega, by omega, HF, (ownsRow_setCell_below hown (a := ⟨w.heap.size, 1, none⟩) q0 _).alloc _, ((hX.set lo hi).2).below ((Below.refl _ _).alloc (Nat.le_refl _) _), (hB.setCell (p := ⟨w.heap.size, 1, none⟩) (Nat.le_refl _) _).alloc ((hB.setCell (p := ⟨w.heap.size, 1, none⟩) (Nat.le_refl _) _).size) _⟩, by simp [intOf]; omega⟩
            · rw [if_neg h4] at HF
              go_wp2_with fail
              exact ⟨⟨k + 1, os, xl, xh, pb, by omega, by go_num, rfl, by omega, bx, HF, own1, hX1, hBr⟩, by simp [intOf]; omega⟩
    · obtain rfl : k = len := by omega
      have e1 : zs.drop k = [] := List.drop_eq_nil_of_le (by have := HL.out; omega)
      have y0 := hX.c0
      have y1 := hX.c1
      cases pb with
      | true =>
        have HF : Hid (withF (xl0, xh0) false zs = os) := by
          show _ = _
          rw [hE.out, e1]; simp [withF]
        clear hE e1
        go_wp2_with fail
        go_ret
        exact ⟨_, rfl, by rw [HF.out]; exact own_mono hown (by omega), hB⟩
      | false =>
        have HF : Hid (withF (xl0, xh0) false zs = os ++ [(xl, xh)]) := by
          show _ = _
          rw [hE.out, e1]; simp [withF]
        clear hE e1
        go_wp2_with (at_builtin; refine append_row2 rfl (.tmp 63) (.tmp 65) rfl (w.heap.size + 1) _ _ _ rfl (hown.alloc _) wr.heap.size xl xh rfl (by simp) (by simp) (by omega) (by simp; omega) ?_; intro v3 w3 hown3 hg3)
        go_ret
        refine ⟨_, rfl, ?_, (hB.alloc hB.size _).grown hg3 ((hB.alloc hB.size _).size) (fun j e => by have := (hown.lt j e).1; omega)⟩
        rw [HF.out]
        rw [flat_append, List.length_append]; exact own_mono hown3 (by omega)

/-- One number more. -/
theorem dwith_calls (v : Value) (cm : List R) (n : Int) (w : World) (h : Row w v cm) (hk : chk cm = 0) (hn : isN n = true) : Calls Tryd.prog 16 #[v, .agg #[.int .i64 n, .int .i64 n]] w fun e w' => ∃ v', e = .returned v' ∧ w'.ownsRow w.heap.size 37 2 v' (addL cm n).length (flat (addL cm n)) ∧ Below w.heap.size w w' := by
  obtain ⟨h12, hg, hN⟩ := (chk_ok cm).1 hk
  have hi := (isN_iff n).1 hn
  obtain ⟨ao, c, rfl, _, _, h⟩ := h
  exact rwith_near ao _ c cm n n w rfl (by omega) h (fun r hr => ⟨(hg r hr).1, norm_le hN r hr, (hg r hr).2⟩) ⟨hi.1, Int.le_refl _, hi.2⟩
set_option maxRecDepth 100000 in
set_option maxHeartbeats 2000000 in
theorem rin_near (ao : Option Addr) (len cap : Nat) (zs : List R) (n : Int) (w : World) (hlen : zs.length = len) (hl : len ≤ 9223372036854775807) (hz : zs = [] ∨ ∃ b off, ao = some ⟨b, off, none⟩ ∧ b < w.heap.size ∧ Cells w b off zs) :
    Calls Tryd.prog 17 #[.slice ao len cap, .int .i64 n] w fun e w' => e = .returned (.bool (memB zs n)) ∧ Below w.heap.size w w' := by
  have HL : Hid (zs.length = len) := hlen
  have HZ : Hid (zs = [] ∨ ∃ b off, ao = some ⟨b, off, none⟩ ∧ b < w.heap.size ∧ Cells w b off zs) := hz
  clear hlen hz
  go_enter Tryd.func17, Tryd.ntmps17
  go_wp2_with fail
  go_loopw [5] (fun i wr => ∃ k : Nat, k ≤ len ∧ i = .int .i64 k ∧ Hid (memB zs n = memB (zs.drop k) n) ∧ Below w.heap.size w wr) (fun i _ => len - (intOf i).toNat)
  case atStart => exact ⟨0, Nat.zero_le _, rfl, rfl, Below.refl _ _⟩
  case round =>
    obtain ⟨k, hk, rfl, hE, hB⟩ := hrel
    by_cases hlt : k < len
    · have g1 : (k : Int) < (len : Int) := by omega
      have hkl : k < zs.length := by have := HL.out; omega
      obtain ⟨b, off, rfl, hb, hC⟩ : ∃ b off, ao = some ⟨b, off, none⟩ ∧ b < w.heap.size ∧ Cells w b off zs := by
        rcases HZ.out with h | h
        · rw [h] at hkl; simp at hkl
        · exact h
      have c0 := (hC.below hb hB k hkl).1
      have c1 := (hC.below hb hB k hkl).2
      have HD : Hid (memB zs n = (inB (at' zs k) n || memB (zs.drop (k + 1)) n)) := by
        show _ = _
        rw [hE.out, drop_at hkl]; rfl
      clear hC hkl hE
      generalize at' zs k = r at c0 c1 HD
      obtain ⟨lo, hi⟩ := r
      simp only at c0 c1
      by_cases h1 : lo ≤ n
      · by_cases h2 : n ≤ hi
        · have HF : Hid (memB zs n = true) := by
            show _ = _
            rw [HD.out]; simp [inB, h1, h2]
          clear HD
          go_wp2_with fail
          go_ret
          exact ⟨by rw [HF.out]; rfl, hB⟩
        · have HF : Hid (memB zs n = memB (zs.drop (k + 1)) n) := by
            show _ = _
            rw [HD.out, show inB (lo, hi) n = false by simp [inB]; omega]; rfl
          clear HD
          go_wp2_with fail
          exact ⟨⟨k + 1, by omega, by go_num, HF, hB⟩, by simp [intOf]; omega⟩
      · have HF : Hid (memB zs n = memB (zs.drop (k + 1)) n) := by
          show _ = _
          rw [HD.out, show inB (lo, hi) n = false by simp [inB]; omega]; rfl
        clear HD
        go_wp2_with fail
        exact ⟨⟨k + 1, by omega, by go_num, HF, hB⟩, by simp [intOf]; omega⟩
    · obtain rfl : k = len := by omega
      have e1 : zs.drop k = [] := List.drop_eq_nil_of_le (by have := HL.out; omega)
      have HF : Hid (memB zs n = false) := by
        show _ = _
        rw [hE.out, e1]; rfl
      clear hE e1
      go_wp2_with fail
      go_ret
      exact ⟨by rw [HF.out]; rfl, hB⟩
theorem rin_calls (v : Value) (zs : List R) (n : Int) (w : World) (h : Row w v zs) :
    Calls Tryd.prog 17 #[v, .int .i64 n] w fun e w' => e = .returned (.bool (memB zs n)) ∧ Below w.heap.size w w' := by
  obtain ⟨ao, c, rfl, hl, hn, h⟩ := h
  exact rin_near ao _ c zs n w rfl hl h
end Go.Proofs.YtegelodkopommaaDoor
