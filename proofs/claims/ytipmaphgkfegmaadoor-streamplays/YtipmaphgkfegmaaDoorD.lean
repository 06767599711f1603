/- Slices of ranges: how they lie, and those that a call made itself; Ready and Gaps. -/
import Derived.Test.YtipmaphgkfegmaaDoorB
import Derived.Laws.AppendOwn
import Derived.Laws.AppendOwnNone
import Derived.Maps.AppendAt
namespace Go.Proofs.YtipmaphgkfegmaaDoor
open Go.RowKit Go.Lib Go.Sort
set_option linter.unusedVariables false
set_option linter.unusedSimpArgs false

def at' (zs : List R) (j : Nat) : R := zs[j]?.getD (0, 0)
def Cells (w : World) (b off : Nat) (zs : List R) : Prop := ∀ j, j < zs.length → w.cell? ⟨b, off + j * 2, none⟩ = some (.int .i64 (at' zs j).1) ∧ w.cell? ⟨b, off + j * 2 + 1, none⟩ = some (.int .i64 (at' zs j).2)
/-- The slice's value v holds the ranges zs in the world w. -/
def Row (w : World) (v : Value) (zs : List R) : Prop := ∃ ao c, v = .slice ao zs.length c ∧ zs.length ≤ 9223372036854775807 ∧ (ao = none → c = 0) ∧ (zs = [] ∨ ∃ b off, ao = some ⟨b, off, none⟩ ∧ b < w.heap.size ∧ Cells w b off zs)
theorem Cells.below {w w' : World} {b off : Nat} {zs : List R} (h : Cells w b off zs) (hb : b < w.heap.size) (bel : Below w.heap.size w w') : Cells w' b off zs := fun j hj =>
  ⟨(bel.cell (p := ⟨b, off + j * 2, none⟩) hb).trans (h j hj).1, (bel.cell (p := ⟨b, off + j * 2 + 1, none⟩) hb).trans (h j hj).2⟩
theorem Row.below {w w' : World} {v : Value} {zs : List R} (h : Row w v zs) (bel : Below w.heap.size w w') : Row w' v zs := by
  obtain ⟨ao, c, rfl, hl, hn, h⟩ := h
  refine ⟨ao, c, rfl, hl, hn, ?_⟩
  rcases h with h | ⟨b, off, rfl, hb, hc⟩
  · exact .inl h
  · exact .inr ⟨b, off, rfl, Nat.lt_of_lt_of_le hb bel.size, hc.below hb bel⟩
theorem Row.nil (w : World) : Row w (.slice none 0 0) [] := ⟨none, 0, rfl, by simp, fun _ => rfl, .inl rfl⟩
def encR (r : R) : List Value := [.int .i64 r.1, .int .i64 r.2]
def flat (zs : List R) : List Value := zs.flatMap encR
theorem flat_length (zs : List R) : (flat zs).length = zs.length * 2 := by
  induction zs with
  | nil => rfl
  | cons r rs ih => simp only [flat, List.flatMap_cons, List.length_append] at *; rw [ih]; simp [encR]; omega
theorem flat_append (a b : List R) : flat (a ++ b) = flat a ++ flat b := by simp [flat]
theorem flat_get : ∀ (zs : List R) (j : Nat), j < zs.length → (flat zs)[j * 2]? = some (.int .i64 (at' zs j).1) ∧ (flat zs)[j * 2 + 1]? = some (.int .i64 (at' zs j).2)
  | [], j, h => by simp at h
  | r :: rs, 0, _ => by simp [flat, encR, at']
  | r :: rs, j + 1, h => by
    have i := flat_get rs j (by simpa using h)
    have e1 : (j + 1) * 2 = j * 2 + 1 + 1 := by omega
    have e2 : flat (r :: rs) = .int .i64 r.1 :: .int .i64 r.2 :: flat rs := rfl
    have e3 : at' (r :: rs) (j + 1) = at' rs j := by simp [at']
    rw [e1, e2, e3]
    simpa using i
theorem flat_one {zs : List R} : ∀ u, u ∈ flat zs → u.oneCell' = true := by
  intro u hu
  simp only [flat, List.mem_flatMap] at hu
  obtain ⟨r, _, h⟩ := hu
  simp [encR] at h
  rcases h with rfl | rfl <;> rfl
theorem infoR : (Tryd.prog.info? 56).map (fun i => (i.zero, i.size, i.bytes)) = some (some (.agg #[.int .i64 0, .int .i64 0]), 2, 16) := by kernel_rfl

theorem own_lt {w : World} {base : Nat} {g n cap : Nat} {xs : List Value} (h : w.ownsRow base 56 2 (.slice (some ⟨g, 0, none⟩) n cap) n xs) : base ≤ g ∧ g < w.heap.size := h.lt g rfl
theorem cells_of_own {w : World} {base g n cap : Nat} {zs : List R} (h : w.ownsRow base 56 2 (.slice (some ⟨g, 0, none⟩) n cap) n (flat zs)) : Cells w g 0 zs := by
  intro j hj
  have f := flat_get zs j hj
  have c0 := h.cells (g := g) rfl _ _ f.1
  have c1 := h.cells (g := g) rfl _ _ f.2
  rw [Addr.add_lit] at c0 c1
  exact ⟨c0, by rw [← Nat.add_assoc] at c1; exact c1⟩
theorem own_length {w : World} {base n : Nat} {v : Value} {zs : List R} (h : w.ownsRow base 56 2 v n (flat zs)) : zs.length = n := by
  have := h.1; rw [flat_length] at this; omega
theorem row_of_own {w : World} {base n : Nat} {v : Value} {zs : List R} (h : w.ownsRow base 56 2 v n (flat zs)) (hl : zs.length ≤ 1000000) : Row w v zs := by
  have hn := own_length h
  rcases h.2 with ⟨rfl, h0⟩ | ⟨g, cap, cur, rfl, hb, hg, hr⟩
  · exact ⟨none, 0, by rw [hn, h0], by omega, fun _ => rfl, .inl (List.eq_nil_of_length_eq_zero (by omega))⟩
  · exact ⟨some ⟨g, 0, none⟩, cap, by rw [hn], by omega, (fun x => by cases x), .inr ⟨g, 0, rfl, (own_lt h).2, cells_of_own h⟩⟩
theorem own_below {w w' : World} {B e size n : Nat} {v : Value} {xs : List Value} (h : w.ownsRow B e size v n xs) (hb : Below w.heap.size w w') : w'.ownsRow B e size v n xs := by
  refine ⟨h.1, ?_⟩
  rcases h.2 with hn | ⟨g, cap, cur, rfl, hB, hgg, hr⟩
  · exact .inl hn
  · exact .inr ⟨g, cap, cur, rfl, hB, (hb.block g (Array.getElem?_eq_some_iff.1 hgg).1).trans hgg, hr⟩

theorem own_mono {w : World} {B B' e size n : Nat} {v : Value} {xs : List Value} (h : w.ownsRow B e size v n xs) (hb : B' ≤ B) : w.ownsRow B' e size v n xs := by
  refine ⟨h.1, ?_⟩
  rcases h.2 with hn | ⟨g, cap, cur, rfl, hB, hr⟩
  · exact .inl hn
  · exact .inr ⟨g, cap, cur, rfl, Nat.le_trans hb hB, hr⟩
theorem own_shape {w : World} {base : Nat} {v : Value} {n : Nat} {xs : List Value} (h : w.ownsRow base 56 2 v n xs) (hn : n ≠ 0) : ∃ g cap, v = .slice (some ⟨g, 0, none⟩) n cap := by
  rcases h.2 with ⟨rfl, h0⟩ | ⟨g, cap, cur, rfl, _⟩
  · exact absurd h0 hn
  · exact ⟨g, cap, rfl⟩
theorem cells_two_new (w : World) (a b : Int) (j : Nat) (u : Value) (hu : (flat [(a, b)])[j]? = some u) : (w.alloc (.cells #[.int .i64 a, .int .i64 b] 56)).cell? ((⟨w.heap.size, 0, none⟩ : Addr).add j) = some u := by
  match j, hu with
  | 0, hu => simp [flat, encR] at hu; subst hu; rw [Addr.add_lit]; simp
  | 1, hu => simp [flat, encR] at hu; subst hu; rw [Addr.add_lit]; simp
  | j + 2, hu => simp [flat, encR] at hu

set_option maxRecDepth 100000 in
set_option maxHeartbeats 2000000 in
theorem ready_quiet {w : World} {B sb : Nat} {s : St} (h : Obj w B sb s) : Calls Tryd.prog 9 #[.pointer (some ⟨sb, 0, none⟩)] w fun e w' => e = .returned (.int .i64 (rdy s : Int)) ∧ ∃ m, w' = w.drewN m := by
  have ht := h.inv.t
  have c0 := h.ct
  have HS : Hid (∀ n, n < 60 - s.tk → (∀ i, i < n → s.cm (s.tk + i) = true) → s.cm (s.tk + n) = false → (rdy s : Int) = n) := by
    show ∀ n, _ → _ → _ → _
    intro n h1 h2 h3
    rw [rdy, run_stop _ _ _ n h2 h1 h3]
  have HA : Hid ((∀ i, i < 60 - s.tk → s.cm (s.tk + i) = true) → (rdy s : Int) = 60 - (s.tk : Int)) := by
    show _ → _
    intro h1
    rw [rdy, run_all _ _ _ h1]
    omega
  obtain ⟨r, hr⟩ : ∃ r : Int, (rdy s : Int) = r := ⟨_, rfl⟩
  rw [hr]
  rw [hr] at HS HA
  clear hr
  have HC : Hid (∀ i, i < 60 → w.cell? ⟨sb, 60 + i, none⟩ = some (.bool (s.cm i))) := h.cc
  have hr0 := wrap_small (60 - (s.tk : Int)) (by omega) (by omega)
  clear h
  generalize hT : s.tk = T at *
  have HM : Hid (∀ i, s.cm i = s.cm i) := fun _ => rfl
  generalize s.cm = cm at HS HA HC
  clear HM hT
  go_enter Tryd.func9, Tryd.ntmps9
  go_wp2_with fail
  go_loopg [11] (60 - T) (fun gk s11 wr => ∃ k m : Nat, gk + k = 60 - T ∧ s11 = .int .i64 k ∧ Hid (∀ i, i < k → cm (T + i) = true) ∧ Hid (wr = w.drewN m))
  case atStart => exact ⟨0, 0, rfl, rfl, (show ∀ i, i < 0 → cm (T + i) = true from fun i hi => by omega), rfl⟩
  case round =>
    obtain ⟨k, m, hk, rfl, hE, HW⟩ := hrel
    have HK : Hid (gk + k = 60 - T) := hk
    clear hk
    have d0 : wr.cell? ⟨sb, 120, none⟩ = some (.int .i64 (T : Int)) := by rw [HW.out]; exact c0
    have HW2 : Hid (∀ q, ∃ m, wr.drewN q = w.drewN m) := by show ∀ q, _; intro q; rw [HW.out, World.drewN_drewN]; exact ⟨_, rfl⟩
    by_cases g : (k : Int) < 60 - (T : Int)
    · have x1 : wr.cell? ⟨sb, 60 + (T + k), none⟩ = some (.bool (cm (T + k))) := by rw [HW.out]; exact HC.out (T + k) (by omega)
      have u1 := wrap_small ((T : Int) + (k : Int)) (by omega) (by omega)
      cases hc : cm (T + k) with
      | true =>
        rw [hc] at x1
        have HE : Hid (∀ i, i < k + 1 → cm (T + i) = true) := by
          show ∀ i, _ → _
          intro i hi
          by_cases e : i = k
          · rw [e]; exact hc
          · exact hE.out i (by omega)
        clear hc hE
        go_wp2_with fail
        go_quiet (fail)
        go_wp2_with fail
        go_roundg (60 - T - (k + 1))
        case measure => have := HK.out; omega
        case rel =>
          obtain ⟨m2, e2⟩ := HW2.out _
          exact ⟨k + 1, m2, by have := HK.out; omega, by go_num, HE, e2⟩
      | false =>
        rw [hc] at x1
        have HR : Hid (r = (k : Int)) := HS.out k (by omega) hE.out hc
        clear hc hE
        go_wp2_with fail
        go_quiet (fail)
        go_wp2_with fail
        go_ret
        exact ⟨by rw [HR.out]; rfl, HW2.out _⟩
    · have HR : Hid (r = 60 - (T : Int)) := HA.out fun i hi => hE.out i (by have := HK.out; omega)
      go_wp2_with fail
      go_ret
      exact ⟨by rw [HR.out]; rfl, HW2.out 0⟩
theorem ready_calls {w : World} {B sb : Nat} {s : St} (h : Obj w B sb s) : Calls Tryd.prog 9 #[.pointer (some ⟨sb, 0, none⟩)] w fun e w' => e = .returned (.int .i64 (rdy s : Int)) ∧ Below w.heap.size w w' :=
  (ready_quiet h).mono fun e w' ⟨h1, m, h2⟩ => ⟨h1, by rw [h2]; exact below_drewN (Below.refl _ _) m⟩

set_option maxRecDepth 100000 in
set_option maxHeartbeats 2000000 in
theorem gaps_own {w : World} {B sb : Nat} {s : St} (h : Obj w B sb s) : Calls Tryd.prog 10 #[.pointer (some ⟨sb, 0, none⟩)] w fun e w' => ∃ v, e = .returned v ∧ w'.ownsRow w.heap.size 56 2 v (gaps s).length (flat (gaps s)) ∧ Below w.heap.size w w' := by
  obtain ⟨i0, hi0, hz0, hz1, hz2⟩ := info_parts infoR
  have hsb := h.lt
  have HC : Hid (∀ i, i < 60 → w.cell? ⟨sb, 60 + i, none⟩ = some (.bool (s.cm i))) := h.cc
  have HG : Hid (gaps s = (gp s.cm 60).1) := rfl
  clear h
  generalize s.cm = cm at HC HG
  go_enter Tryd.func10, Tryd.ntmps10
  go_wp2_with fail
  go_loopg [3, 4, 6] 60 (fun gk s3 s4 s6 wr => ∃ (k n : Nat) (ao : Option Addr) (c : Nat) (l : List R), gk + k = 60 ∧ Hid (gp cm k = (l, n)) ∧ s3 = .slice ao l.length c ∧ s4 = .int .i64 n ∧ s6 = .int .i64 k ∧ wr.ownsRow w.heap.size 56 2 (.slice ao l.length c) l.length (flat l) ∧ Below w.heap.size w wr)
  case atStart => exact ⟨0, 0, none, 0, [], rfl, rfl, rfl, rfl, rfl, World.ownsRow_nil _ _ _ _, Below.refl _ _⟩
  case round =>
    obtain ⟨k, n, ao, c, l, hk, hG, rfl, rfl, rfl, hown, hB⟩ := hrel
    have HK : Hid (gk + k = 60) := hk
    clear hk
    by_cases g : (k : Int) < 60
    · have hle := gp_le cm k
      rw [hG.out] at hle
      simp only at hle
      obtain ⟨hle1, hle2⟩ := hle
      have x1 := (hB.cell (p := ⟨sb, 60 + k, none⟩) hsb).trans (HC.out k (by omega))
      cases hc : cm k with
      | false =>
        rw [hc] at x1
        have HE : Hid (gp cm (k + 1) = (l, n)) := by show _ = _; rw [gp_no hc]; exact hG.out
        clear hc hG
        go_wp2_with fail
        go_roundg (60 - (k + 1))
        case measure => have := HK.out; omega
        case rel => exact ⟨k + 1, n, ao, c, l, by have := HK.out; omega, HE, rfl, rfl, by go_num, hown, hB⟩
      | true =>
        rw [hc] at x1
        by_cases g2 : (n : Int) < (k : Int)
        · have HE : Hid (gp cm (k + 1) = (l ++ [((n : Int), (k : Int) - 1)], k + 1)) := by
            show _ = _
            rw [gp_far hc (by rw [hG.out]; show n < k; omega), hG.out]
          clear hc hG
          have u1 := wrap_small ((k : Int) - 1) (by omega) (by omega)
          have ba : Below wr.heap.size wr (wr.alloc (.cells #[.int .i64 (n : Int), .int .i64 ((k : Int) - 1)] 56)) := (Below.refl _ _).alloc (Nat.le_refl _) _
          have hrow := own_below hown ba
          have hB2 := hB.trans (ba.mono hB.size)
          have hle2 : w.heap.size ≤ (wr.alloc (.cells #[.int .i64 (n : Int), .int .i64 ((k : Int) - 1)] 56)).heap.size := hB2.size
          go_wp2_with (at_builtin; refine wpList_append_own_at _ rfl (.tmp 19) (.tmp 24) 35 rfl w.heap.size 56 i0 _ 2 16 Tryd.underlying35 hi0 hz0 hz1 hz2 rfl (by decide) _ _ (flat l) rfl hrow ⟨wr.heap.size, 0, none⟩ 1 1 (flat [((n : Int), (k : Int) - 1)]) rfl rfl (cells_two_new wr _ _) (fun u hu => flat_one u hu) (by unfold maxLen; omega) (by omega) hle2 ?_; intro v3 w12 ho12 hg12 _ hl12; obtain ⟨g3, cap3, rfl⟩ := own_shape ho12 (by omega))
          have hB3 := hB2.grown hg12 hle2 (fun k e => (hrow.lt k e).1)
          have hl2 : (l ++ [((n : Int), (k : Int) - 1)]).length = l.length + 1 := by simp
          go_roundg (60 - (k + 1))
          case measure => have := HK.out; omega
          case rel => exact ⟨k + 1, k + 1, some ⟨g3, 0, none⟩, cap3, _, by have := HK.out; omega, HE, by rw [hl2], by go_num, by go_num, by rw [hl2, flat_append]; exact ho12, hB3⟩
        · have HE : Hid (gp cm (k + 1) = (l, k + 1)) := by
            show _ = _
            rw [gp_near hc (by rw [hG.out]; show k ≤ n; omega), hG.out]
          clear hc hG
          go_wp2_with fail
          go_roundg (60 - (k + 1))
          case measure => have := HK.out; omega
          case rel => exact ⟨k + 1, k + 1, ao, c, l, by have := HK.out; omega, HE, rfl, by go_num, by go_num, hown, hB⟩
    · have HE : Hid (gaps s = l) := by
        have h1 : k = 60 := by have := HK.out; omega
        show _ = _
        rw [HG.out, ← h1, hG.out]
      clear HG hG
      go_wp2_with fail
      go_ret
      exact ⟨_, rfl, by rw [HE.out]; exact hown, hB⟩
theorem gaps_calls {w : World} {B sb : Nat} {s : St} (h : Obj w B sb s) : Calls Tryd.prog 10 #[.pointer (some ⟨sb, 0, none⟩)] w fun e w' => ∃ v, e = .returned v ∧ Row w' v (gaps s) ∧ Below w.heap.size w w' :=
  (gaps_own h).mono fun e w' ⟨v, h1, h2, h3⟩ => ⟨v, h1, row_of_own h2 (Nat.le_trans (gp_le s.cm 60).2 (by omega)), h3⟩
end Go.Proofs.YtipmaphgkfegmaaDoor
