/- LossTells' walk: now or wait is wrong. -/
import Derived.Test.YtingcgadolcanaaDoorT
import Derived.Deep.DeepCutAuto
namespace Go.Proofs.YtingcgadolcanaaDoor
open Go.RowKit Go.Lib Go.Sort
set_option linter.unusedVariables false
set_option linter.unusedSimpArgs false

theorem any_next {α : Type} (p : α → Bool) (d : α) {l : List α} {k : Nat} (hk : k < l.length) : (l.take (k + 1)).any p = ((l.take k).any p || p (l[k]?.getD d)) := by
  rw [List.take_succ_eq_append_getElem hk, List.any_append]
  simp [hk]
theorem lostL_next (acks : List R) (now wait : Int) {zs : List S3} {k : Nat} (hk : k < zs.length) : lostL acks now wait (zs.take (k + 1)) = lostL acks now wait (zs.take k) ++ (if memB acks (at3 zs k).1 = true then [] else if lostB acks now wait (at3 zs k) = true then [(at3 zs k).1] else []) := by
  unfold lostL
  rw [left_next acks hk, List.filter_append, List.map_append]
  congr 1
  cases h : memB acks (at3 zs k).1 <;> cases h2 : lostB acks now wait (at3 zs k) <;> simp [h2]
set_option maxRecDepth 100000 in
set_option maxHeartbeats 8000000 in
theorem tells_C (ao : Option Addr) (len cap : Nat) (ro : Option Addr) (m rc : Nat) (now wait : Int) (w : World) (zs : List S3) (hlen : zs.length = len) (h30 : len ≤ 30) (hok : ∀ s, s ∈ zs → okS s = true) (hzz : zs = [] ∨ ∃ b off, ao = some ⟨b, off, none⟩ ∧ b < w.heap.size ∧ Cells3 w b off zs) (wy : Int) (hwy : wayL zs = wy) (acks : List R) (hmm : acks.length = m) (hml : m ≤ 9223372036854775807) (haz : acks = [] ∨ ∃ b off, ro = some ⟨b, off, none⟩ ∧ b < w.heap.size ∧ Cells w b off acks) (hor : now < 0 ∨ (¬ now < 0 ∧ 100000 < now) ∨ (¬ now < 0 ∧ ¬ 100000 < now ∧ wait < 1) ∨ (¬ now < 0 ∧ ¬ 100000 < now ∧ ¬ wait < 1 ∧ 100000 < wait))
    (KR : Hid (∀ w1 , Below w.heap.size w w1 → Calls Tryd.prog 4 #[.slice ao len cap] w1 fun e w' => e = .returned (.int .i64 (0)) ∧ Below w1.heap.size w1 w'))
    (KC : Hid (∀ w1 , Below w.heap.size w w1 → Calls Tryd.prog 6 #[.slice ao len cap] w1 fun e w' => e = .returned (errV (0)) ∧ Below w1.heap.size w1 w'))
    (KE : Hid (∀ w1 (f : Int), Below w.heap.size w w1 → Calls Tryd.prog 5 #[errV f, .int .i64 f] w1 fun e w' => e = .returned (.bool true) ∧ Below w1.heap.size w1 w'))
    (KW : Hid (∀ w1 , Below w.heap.size w w1 → Calls Tryd.prog 7 #[.slice ao len cap] w1 fun e w' => e = .returned (.tuple #[.int .i64 (wy), errV (0)]) ∧ Below w1.heap.size w1 w'))
    (KN : Hid (∀ w1 , Below w.heap.size w w1 → Calls Tryd.prog 8 #[.slice ro m rc] w1 fun e w' => e = .returned (.int .i64 (0)) ∧ Below w1.heap.size w1 w'))
    (KL : Hid (∀ w1 , Below w.heap.size w w1 → Calls Tryd.prog 10 #[.slice ao len cap, .slice ro m rc] w1 fun e w' => ∃ u', e = .returned (.tuple #[u', errV (0)]) ∧ Row3 w' u' (leftL acks zs) ∧ Below w1.heap.size w1 w'))
    (KO : Hid (∀ w1 , Below w.heap.size w w1 → Calls Tryd.prog 12 #[.slice ao len cap, .slice ro m rc, .int .i64 now, .int .i64 wait] w1 fun e w' => ∃ y, e = .returned (.tuple #[y, errV (1)]) ∧ IRow w' y ([]) ∧ Below w1.heap.size w1 w'))
    (KI : Hid (∀ w1 (n : Int), Below w.heap.size w w1 → Calls Tryd.prog 9 #[.slice ro m rc, .int .i64 n] w1 fun e w' => e = .returned (.bool (memB acks n)) ∧ Below w1.heap.size w1 w')) :
    Calls Tryd.prog 3 #[.slice ao len cap, .slice ro m rc, .int .i64 now, .int .i64 wait] w fun e w' => e = .returned (.bool true) ∧ Below w.heap.size w w' := by
  have HM : Hid (acks.length = m) := hmm
  have HA : Hid (acks = [] ∨ ∃ b off, ro = some ⟨b, off, none⟩ ∧ b < w.heap.size ∧ Cells w b off acks) := haz
  clear hmm haz
  obtain ⟨i3, hi3, hy0, hy1, hy2⟩ := info_parts info3
  obtain ⟨i1, hi1, hx0, hx1, hx2⟩ := info_parts infoI
  have HL : Hid (zs.length = len) := hlen
  have HO : Hid (∀ s, s ∈ zs → okS s = true) := hok
  have HZ : Hid (zs = [] ∨ ∃ b off, ao = some ⟨b, off, none⟩ ∧ b < w.heap.size ∧ Cells3 w b off zs) := hzz
  have HWY : Hid (wayL zs = wy) := hwy
  clear hlen hok hzz hwy
  have hB0 := Below.refl w.heap.size w
  go_enter Tryd.func3, Tryd.ntmps3
  go_wp2_with fail
  refine (KR.out _ hB0).mono ?_
  rintro e w1 ⟨rfl, hb1⟩
  have hB1 := hB0.trans (hb1.mono hB0.size)
  go_wp2_with fail
  refine (KC.out _ hB1).mono ?_
  rintro e w2 ⟨rfl, hb2⟩
  have hB2 := hB1.trans (hb2.mono hB1.size)
  go_wp2_with fail
  refine (KE.out _ (0) hB2).mono ?_
  rintro e w3 ⟨rfl, hb3⟩
  have hB3 := hB2.trans (hb3.mono hB2.size)
  go_wp2_with fail
  go_loopg [11, 12] len (fun gg s11 s12 wr => ∃ (n0L : Nat) (y : Int), n0L ≤ len ∧ len - n0L ≤ gg ∧ s12 = .int .i64 n0L ∧ s11 = .int .i64 y ∧ Hid (y = wayL (zs.take n0L)) ∧ Hid (Below w3.heap.size w3 wr))
  case atStart => exact ⟨0, 0, Nat.zero_le _, by omega, rfl, rfl, (show (0 : Int) = _ by simp [wayL]), Below.refl _ _⟩
  case round =>
    obtain ⟨n0L, y, hk, hgg, rfl, rfl, HY, HBr⟩ := hrel
    by_cases hlt : n0L < len
    · have hltz : (n0L : Int) < (len : Int) := by omega
      have hkl : n0L < zs.length := by have := HL.out; omega
      obtain ⟨b0, off, rfl, hb, hC⟩ : ∃ b off, ao = some ⟨b, off, none⟩ ∧ b < w.heap.size ∧ Cells3 w b off zs := by
        rcases HZ.out with h | h
        · rw [h] at hkl; simp at hkl
        · exact h
      obtain ⟨c0, c1, c2⟩ := hC.below hb (hB3.trans (HBr.out.mono hB3.size)) n0L hkl
      have hs := (okS_iff _).1 (HO.out _ (at3_mem hkl))
      have hw := way_small HO.out n0L (by omega)
      have HN : Hid (wayL (zs.take (n0L + 1)) = wayL (zs.take n0L) + (at3 zs n0L).2.2) := way_next hkl
      clear hC hkl
      rw [← HY.out] at hw
      generalize at3 zs n0L = s at c0 c1 c2 hs HN
      obtain ⟨a, b, z⟩ := s
      simp only at c0 c1 c2 hs HN
      have vz : IntKind.i64.wrap (y + z) = y + z := wrap_small _ (by omega) (by omega)
      go_wp2_with fail
      go_roundg (len - (n0L + 1))
      case measure => omega
      case rel => exact ⟨n0L + 1, y + z, by omega, Nat.le_refl _, by go_num, rfl, (show _ = _ by rw [HN.out, HY.out]), HBr.out⟩
    · obtain rfl : n0L = len := by omega
      have hltz : ¬ (n0L : Int) < (n0L : Int) := by omega
      obtain rfl : y = wy := by rw [HY.out, List.take_of_length_le (by have := HL.out; omega)]; exact HWY.out
      have hb4 := HBr.out
      have hB4 := hB3.trans (hb4.mono hB3.size)
      clear HY HBr
      generalize wr = w4 at hb4 hB4 ⊢
      go_wp2_with fail
      refine (KW.out _ hB4).mono ?_
      rintro e w5 ⟨rfl, hb5⟩
      have hB5 := hB4.trans (hb5.mono hB4.size)
      go_wp2_with fail
      refine (KE.out _ 0 hB5).mono ?_
      rintro e w6 ⟨rfl, hb6⟩
      have hB6 := hB5.trans (hb6.mono hB5.size)
      go_wp2_with fail
      refine (KN.out _ hB6).mono ?_
      rintro e w7 ⟨rfl, hb7⟩
      have hB7 := hB6.trans (hb7.mono hB6.size)
      go_upto_region 14 with fail
      go_cut [88] (fun s88 wx => s88 = .bool true ∧ wx = w7)
      case first =>
        rcases hor with q1 | ⟨q1, q2⟩ | ⟨q1, q2, q3⟩ | ⟨q1, q2, q3, q4⟩
        all_goals
          go_wp2_with fail
          go_meet
          exact ⟨rfl, rfl⟩
      case rest =>
        have hw := hcut.2
        obtain ⟨rfl, _⟩ := hcut
        subst wc
        go_wp2_with fail
        go_loopg [18, 19, 20] n0L (fun gg s18 s19 s20 wr => ∃ k : Nat, k ≤ n0L ∧ n0L - k ≤ gg ∧ s20 = .int .i64 k ∧ Hid (Duo wr w7.heap.size s18 (leftL acks (zs.take k)) s19 ([])) ∧ Hid (Below w7.heap.size w7 wr))
        case atStart => exact ⟨0, Nat.zero_le _, by omega, rfl, (show Duo _ _ _ _ _ _ by simpa [leftL, lostL] using Duo.new w7), Below.refl _ _⟩
        case round =>
          obtain ⟨k, hk, hgg, rfl, HD, HBr⟩ := hrel
          by_cases hlt : k < n0L
          · have hltz : (k : Int) < (n0L : Int) := by omega
            have hkl : k < zs.length := by have := HL.out; omega
            obtain ⟨b0, off, rfl, hb0, hC⟩ : ∃ b off, ao = some ⟨b, off, none⟩ ∧ b < w.heap.size ∧ Cells3 w b off zs := by
              rcases HZ.out with h | h
              · rw [h] at hkl; simp at hkl
              · exact h
            have hBw : Below w.heap.size w wr := hB7.trans (HBr.out.mono hB7.size)
            have hCr := hC.below hb0 hBw
            obtain ⟨c0, c1, c2⟩ := hCr k hkl
            have hs := (okS_iff _).1 (HO.out _ (at3_mem hkl))
            have hin := KI.out wr (at3 zs k).1 hBw
            have HLN : Hid (leftL acks (zs.take (k + 1)) = leftL acks (zs.take k) ++ (if memB acks (at3 zs k).1 = true then [] else [at3 zs k])) := left_next acks hkl
            have HXN : Hid (lostL acks now wait (zs.take (k + 1)) = lostL acks now wait (zs.take k) ++ (if memB acks (at3 zs k).1 = true then [] else if lostB acks now wait (at3 zs k) = true then [(at3 zs k).1] else [])) := lostL_next acks now wait hkl
            have hLK : (leftL acks (zs.take k)).length ≤ 30 := Nat.le_trans (left_length acks _) (by rw [List.length_take]; omega)
            have hXK : (lostL acks now wait (zs.take k)).length ≤ 30 := by unfold lostL; rw [List.length_map]; exact Nat.le_trans (List.length_filter_le _ _) hLK
            have hb0r : b0 < wr.heap.size := Nat.lt_of_lt_of_le hb0 hBw.size
            clear hC hCr hkl
            generalize at3 zs k = s at c0 c1 c2 hs HLN HXN hin
            obtain ⟨a, b, c⟩ := s
            simp only at c0 c1 c2 hs HLN HXN hin
            cases hq : memB acks a with
            | true =>
              rw [hq] at hin
              have HL1 : Hid (leftL acks (zs.take (k + 1)) = leftL acks (zs.take k)) := by show _ = _; rw [HLN.out, if_pos hq, List.append_nil]
              have HX1 : Hid (lostL acks now wait (zs.take (k + 1)) = lostL acks now wait (zs.take k)) := by show _ = _; rw [HXN.out, if_pos hq, List.append_nil]
              clear HLN HXN
              go_wp2_with (go_at_call 9; refine hin.mono ?_; rintro e wI ⟨rfl, hbI⟩)
              go_roundg (n0L - (k + 1))
              case measure => omega
              case rel => exact ⟨k + 1, by omega, Nat.le_refl _, by go_num, (show Duo _ _ _ _ _ _ by rw [HL1.out]; exact HD.out.below hbI), HBr.out.trans (hbI.mono HBr.out.size)⟩
            | false =>
              rw [hq] at hin
              have HL1 : Hid (leftL acks (zs.take (k + 1)) = leftL acks (zs.take k) ++ [(a, b, c)]) := by show _ = _; rw [HLN.out, if_neg (by simp [hq])]
              have HX1 : Hid (lostL acks now wait (zs.take (k + 1)) = lostL acks now wait (zs.take k) ++ (if lostB acks now wait (a, b, c) = true then [a] else [])) := by show _ = _; rw [HXN.out, if_neg (by simp [hq])]
              clear HLN HXN
              go_wp2_with (first | (go_at_call 9; refine hin.mono ?_; rintro e wI ⟨rfl, hbI⟩; have e0 := (hbI.cell (p := ⟨b0, off + k * 3, none⟩) hb0r).trans c0; have e1 := (hbI.cell (p := ⟨b0, off + k * 3 + 1, none⟩) hb0r).trans c1; have e2 := (hbI.cell (p := ⟨b0, off + k * 3 + 2, none⟩) hb0r).trans c2; have hD7 := (HD.out.below hbI).below ((Below.refl _ wI).alloc (Nat.le_refl _) (.cells #[.int .i64 a, .int .i64 b, .int .i64 c] 30))) | (at_builtin; refine wpList_append_own_at _ rfl (.tmp 107) (.tmp 112) 22 rfl w7.heap.size 30 i3 _ 3 24 Tryd.underlying22 hi3 hy0 hy1 hy2 rfl (by decide) _ _ (flat3 (leftL acks (zs.take k))) rfl hD7.r1 ⟨wI.heap.size, 0, none⟩ 1 1 (flat3 [(a, b, c)]) rfl rfl (cell_three_new wI (a, b, c) 30) (fun u hu => flat3_one u hu) (by unfold maxLen; omega) (by omega) hD7.le ?_; intro v8 wJ ho8 hg8 _ hl8))
              have hD8 := hD7.app1 (s := (a, b, c)) ho8 hg8 hl8
              have hBJ : Below w7.heap.size w7 wJ := ((HBr.out.trans (hbI.mono HBr.out.size)).alloc (by have := HBr.out.size; have := hbI.size; omega) _).grown hg8 hD7.le (fun j e => (hD7.lt1 e).1)
              go_roundg (n0L - (k + 1))
              case measure => omega
              case rel => exact ⟨k + 1, by omega, Nat.le_refl _, by go_num, (show Duo _ _ _ _ _ _ by rw [HL1.out]; exact hD8), hBJ⟩
          · obtain rfl : k = n0L := by omega
            have hltz : ¬ (k : Int) < (k : Int) := by omega
            have hb8 := HBr.out
            have hB8 := hB7.trans (hb8.mono hB7.size)
            have HT : Hid (zs.take k = zs) := List.take_of_length_le (by have := HL.out; omega)
            have hr18 : Row3 wr u18 (leftL acks zs) := by
              have := HD.out.r1
              rw [HT.out] at this
              exact row3_of_own this (Nat.le_trans (left_length acks zs) (by have := HL.out; omega))
            have hr19 : IRow wr u19 ([]) := by
              have := HD.out.r2
              skip
              exact irow_of_own this (by simp)
            clear HD HBr
            generalize wr = w8 at hb8 hB8 hr18 hr19 ⊢
            go_wp2_with fail
            refine (KL.out _ hB8).mono ?_
            rintro e w9 ⟨u9, rfl, hr9, hb9⟩
            have hB9 := hB8.trans (hb9.mono hB8.size)
            go_wp2_with fail
            refine (KE.out _ (0) hB9).mono ?_
            rintro e w10 ⟨rfl, hb10⟩
            have hB10 := hB9.trans (hb10.mono hB9.size)
            have hs8 : Below w8.heap.size w8 w10 := hb9.trans (hb10.mono hb9.size)
            go_wp2_with fail
            refine (same3_eq _ _ (leftL acks zs) _ (hr9.below hb10) (hr18.below hs8)).mono ?_
            rintro e w11 ⟨rfl, hb11⟩
            have hB11 := hB10.trans (hb11.mono hB10.size)
            go_wp2_with fail
            refine (KO.out _ hB11).mono ?_
            rintro e w12 ⟨u12, rfl, hr12, hb12⟩
            have hB12 := hB11.trans (hb12.mono hB11.size)
            go_wp2_with fail
            refine (KE.out _ (1) hB12).mono ?_
            rintro e w13 ⟨rfl, hb13⟩
            have hB13 := hB12.trans (hb13.mono hB12.size)
            have ht8 : Below w8.heap.size w8 w13 := hs8.trans ((hb11.trans ((hb12.trans (hb13.mono hb12.size)).mono hb11.size)).mono hs8.size)
            go_wp2_with fail
            refine (sameI_eq _ _ ([]) _ (hr12.below hb13) (hr19.below ht8)).mono ?_
            rintro e w14 ⟨rfl, hb14⟩
            have hB14 := hB13.trans (hb14.mono hB13.size)
            go_wp2_with fail
            go_ret
            exact ⟨rfl, hB14⟩
end Go.Proofs.YtingcgadolcanaaDoor
