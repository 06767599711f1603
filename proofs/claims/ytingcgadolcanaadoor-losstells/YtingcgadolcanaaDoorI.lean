/- What Lost answers where all is right. -/
import Derived.Test.YtingcgadolcanaaDoorH
namespace Go.Proofs.YtingcgadolcanaaDoor
open Go.RowKit Go.Lib Go.Sort
set_option linter.unusedVariables false
set_option linter.unusedSimpArgs false

set_option maxRecDepth 100000 in
set_option maxHeartbeats 2000000 in
theorem lost_yes (u v : Value) (zs : List S3) (acks : List R) (now wait : Int) (w : World) (hZ : Row3 w u zs) (hR : Row w v acks) (h : both zs acks = 0) (hnow : isT now = true) (hwait : isW wait = true) :
    Calls Tryd.prog 12 #[u, v, .int .i64 now, .int .i64 wait] w fun e w' => ∃ vo, e = .returned (.tuple #[vo, .nilIface]) ∧ IRow w' vo (lostL acks now wait zs) ∧ Below w.heap.size w w' := by
  have eg : ∀ args w, (callFunc 23 args).run Tryd.prog w = .ok (.enter 23 args) w := enters_of Tryd.func23 (by kernel_rfl) rfl
  have bel : Below w.heap.size w (w.alloc (.cells #[v] 23)) := (Below.refl _ _).alloc (Nat.le_refl _) _
  have h1 := both_calls u v zs acks _ (hZ.below bel) (hR.below bel)
  rw [h, errV0] at h1
  have hT := st_calls now
  have hW := sw_calls wait
  rw [hnow] at hT
  rw [hwait] at hW
  have HL : Hid (∀ w1, Below w.heap.size w w1 → Calls Tryd.prog 21 #[u, v] w1 fun e w' => ∃ u', e = .returned u' ∧ Row3 w' u' (leftL acks zs) ∧ Below w1.heap.size w1 w') := fun w1 hb => left_calls u v zs acks w1 (both_len h) (hZ.below hb) (hR.below hb)
  have HO : Hid (∀ s, s ∈ leftL acks zs → okS s = true) := fun s hs => (sc_good (both_0 h).1).2.1 s (left_sub hs).1
  have HN : Hid ((leftL acks zs).length ≤ 30) := Nat.le_trans (left_length acks zs) (sc_good (both_0 h).1).1
  have HP : Hid (∀ w1 (n : Int), Below (w.alloc (.cells #[v] 23)).heap.size (w.alloc (.cells #[v] 23)) w1 → Calls Tryd.prog 23 #[.int .i64 n, .pointer (some ⟨w.heap.size, 0, none⟩)] w1 fun e w' => e = .returned (.bool (reachB acks n)) ∧ Below w1.heap.size w1 w') := fun w1 n hb =>
    reach_calls n w.heap.size v acks w1 ((hb.cell (p := ⟨w.heap.size, 0, none⟩) (by simp)).trans (box_row w v 23)) (hR.below (bel.trans (hb.mono bel.size)))
  have HE : Hid (lostL acks now wait zs = lostT acks now wait (leftL acks zs) (leftL acks zs).length) := by
    show _ = _
    unfold lostL lostT
    rw [List.take_length]
  have tnow := (isT_iff now).1 hnow
  have twait := (isW_iff wait).1 hwait
  obtain ⟨i0, hi0, hz0, hz1, hz2⟩ := info_parts infoI
  obtain ⟨bo, d, rfl, hx1, hx2, hx3⟩ := hR
  obtain ⟨ao, cc, rfl, hx4, hx5, hx6⟩ := hZ
  clear h hnow hwait hx1 hx2 hx3 hx4 hx5 hx6
  generalize leftL acks zs = ls at HL HO HN HE
  generalize acks.length = m at *
  generalize zs.length = len at *
  go_enter Tryd.func12, Tryd.ntmps12
  go_wp2_with (first | (go_at_call 20; refine h1.mono ?_; rintro e w1 ⟨rfl, hb1⟩; have hk1 := (hb1.cell (p := ⟨w.heap.size, 0, none⟩) (by simp)).trans (box_row w _ 23)) | (go_at_call 17; refine (hT _).mono ?_; rintro e w1' ⟨rfl, rfl⟩) | (go_at_call 22; refine (hW _).mono ?_; rintro e w1' ⟨rfl, rfl⟩) | (go_at_call 21; refine (HL.out _ (bel.trans (hb1.mono bel.size))).mono ?_; rintro e w2 ⟨u2, rfl, ho2, hb2⟩; obtain ⟨co, ce, rfl, hl2, hn2, hz2'⟩ := ho2))
  have HZ2 : Hid (ls = [] ∨ ∃ b off, co = some ⟨b, off, none⟩ ∧ b < w2.heap.size ∧ Cells3 w2 b off ls) := hz2'
  have hB2 := hb1.trans (hb2.mono hb1.size)
  have hBs := hB2.size
  have hN30 : ls.length ≤ 30 := HN.out
  have HM2 : Hid (ls.length = ls.length) := rfl
  generalize hlen2 : ls.length = m2 at hl2 hN30 HN HE HM2 ⊢
  replace HM2 : Hid (ls.length = m2) := hlen2
  clear hlen2 hz2' hn2 h1 hT hW HL hk1
  go_loopg [12, 14, 35] m2 (fun gg s12 _ s35 wr => ∃ k : Nat, k ≤ m2 ∧ m2 - k ≤ gg ∧ s35 = .int .i64 k ∧ wr.ownsRow w2.heap.size 3 1 s12 (lostT acks now wait ls k).length (ints (lostT acks now wait ls k)) ∧ Hid (Below w2.heap.size w2 wr))
  case atStart => exact ⟨0, Nat.zero_le _, by omega, rfl, by simpa [lostT, ints] using World.ownsRow_nil w2 w2.heap.size 3 1, Below.refl _ _⟩
  case round =>
    obtain ⟨k, hk, hgg, rfl, hrow, HBr⟩ := hrel
    have hBr := HBr.out
    by_cases hlt : k < m2
    · have hltz : (k : Int) < (m2 : Int) := by omega
      have hkl : k < ls.length := by have := HM2.out; omega
      obtain ⟨b0, off, rfl, hb0, hC⟩ : ∃ b off, co = some ⟨b, off, none⟩ ∧ b < w2.heap.size ∧ Cells3 w2 b off ls := by
        rcases HZ2.out with h | h
        · rw [h] at hkl; simp at hkl
        · exact h
      obtain ⟨c0, c1, c2⟩ := hC.below hb0 hBr k hkl
      have hok := (okS_iff _).1 (HO.out _ (at3_mem hkl))
      have HY : Hid (lostB acks now wait (at3 ls k) = true → lostT acks now wait ls (k + 1) = lostT acks now wait ls k ++ [(at3 ls k).1]) := lostT_yes hkl
      have HX : Hid (lostB acks now wait (at3 ls k) = false → lostT acks now wait ls (k + 1) = lostT acks now wait ls k) := lostT_not hkl
      have hle := lostT_le acks now wait ls k
      clear hC hkl
      generalize at3 ls k = s at c0 c1 c2 hok HY HX
      obtain ⟨a, b, c⟩ := s
      simp only at c0 c1 c2 hok
      have v3 : IntKind.i64.wrap (a + 3) = a + 3 := wrap_small _ (by omega) (by omega)
      have v1 : IntKind.i64.wrap (a + 1) = a + 1 := wrap_small _ (by omega) (by omega)
      have vb : IntKind.i64.wrap (now - b) = now - b := wrap_small _ (by omega) (by omega)
      have hBa : Below (w.alloc (.cells #[.slice bo m d] 23)).heap.size (w.alloc (.cells #[.slice bo m d] 23)) (wr.alloc (.cells #[.int .i64 a, .int .i64 b, .int .i64 c] 30)) := (hB2.trans (hBr.mono hBs)).alloc (by have := hBr.size; omega) _
      have hbox : Below wr.heap.size wr (wr.alloc (.cells #[.int .i64 a, .int .i64 b, .int .i64 c] 30)) := (Below.refl _ _).alloc (Nat.le_refl _) _
      have hr3 := fun W hb => HP.out W (a + 3) hb
      have hr1 := fun W hb => HP.out W (a + 1) hb
      clear hBr
      cases h3 : reachB acks (a + 3) with
      | true =>
        have HF : Hid (lostT acks now wait ls (k + 1) = lostT acks now wait ls k ++ [a]) := HY.out (by simp [lostB, h3])
        rw [h3] at hr3
        clear HX HY hr1 v1 vb
        go_wp2_with (first | ((first | go_at_fn 23 | go_at_call 23); refine (hr3 _ hBa).mono ?_; rintro e w3 ⟨rfl, hb3⟩; have hB3 := hBa.trans (hb3.mono hBa.size); have hbw := hbox.trans (hb3.mono hbox.size); have x0 := (hb3.cell (p := ⟨wr.heap.size, 0, none⟩) (by simp)).trans (World.cell_new0 wr a b c); have x1 := (hb3.cell (p := ⟨wr.heap.size, 1, none⟩) (by simp)).trans (World.cell_new1 wr a b c); have hl3 : wr.heap.size < w3.heap.size := Nat.lt_of_lt_of_le (by simp) hb3.size) | (at_builtin; refine wpList_append_own _ rfl (.tmp 59) (.tmp 62) 34 rfl w2.heap.size 3 i0 _ 1 8 Tryd.underlying34 hi0 hz0 hz1 hz2 rfl (by decide) _ _ (ints (lostT acks now wait ls k)) rfl (own_below' hrow (hbw.alloc hbw.size _)) ⟨w3.heap.size, 0, none⟩ 1 1 (ints [a]) rfl rfl (cell_one_new _ _ _) (by intro u hu; simp [ints] at hu; subst hu; rfl) (by unfold maxLen; omega) (by omega) (by have := HBr.out.size; have := hbw.size; simp; omega) ?_; intro v5 w5 ho5 hg5 _))
        go_roundg (m2 - (k + 1))
        case measure => omega
        case rel =>
          refine ⟨k + 1, by omega, Nat.le_refl _, by go_num, ?_, ?_⟩
          · rw [HF.out]
            simpa [ints_append, ints_length] using ho5
          · exact HBr.out.trans (((hbw.mono HBr.out.size).alloc (by have := hbw.size; have := HBr.out.size; omega) _).grown hg5 (by have := hbw.size; have := HBr.out.size; simp; omega) (fun j e => (hrow.lt j e).1))
      | false =>
        rw [h3] at hr3
        cases h4 : reachB acks (a + 1) with
        | false =>
          have HF : Hid (lostT acks now wait ls (k + 1) = lostT acks now wait ls k) := HX.out (by simp [lostB, h3, h4])
          rw [h4] at hr1
          clear HX HY vb
          go_wp2_with (first | ((first | go_at_fn 23 | go_at_call 23); refine (hr3 _ hBa).mono ?_; rintro e w3 ⟨rfl, hb3⟩; have hB3 := hBa.trans (hb3.mono hBa.size); have hbw := hbox.trans (hb3.mono hbox.size); have x0 := (hb3.cell (p := ⟨wr.heap.size, 0, none⟩) (by simp)).trans (World.cell_new0 wr a b c); have x1 := (hb3.cell (p := ⟨wr.heap.size, 1, none⟩) (by simp)).trans (World.cell_new1 wr a b c); have hl3 : wr.heap.size < w3.heap.size := Nat.lt_of_lt_of_le (by simp) hb3.size) | ((first | go_at_fn 23 | go_at_call 23); refine (hr1 _ hB3).mono ?_; rintro e w4 ⟨rfl, hb4⟩; have hbw4 := hbw.trans (hb4.mono hbw.size); have y0 := (hb4.cell (p := ⟨wr.heap.size, 0, none⟩) hl3).trans x0; have y1 := (hb4.cell (p := ⟨wr.heap.size, 1, none⟩) hl3).trans x1))
          go_roundg (m2 - (k + 1))
          case measure => omega
          case rel => exact ⟨k + 1, by omega, Nat.le_refl _, by go_num, by rw [HF.out]; exact own_below' hrow hbw4, HBr.out.trans (hbw4.mono HBr.out.size)⟩
        | true =>
          rw [h4] at hr1
          by_cases h5 : wait ≤ now - b
          · have HF : Hid (lostT acks now wait ls (k + 1) = lostT acks now wait ls k ++ [a]) := HY.out (by simp [lostB, h4, h5])
            clear HX HY
            go_wp2_with (first | ((first | go_at_fn 23 | go_at_call 23); refine (hr3 _ hBa).mono ?_; rintro e w3 ⟨rfl, hb3⟩; have hB3 := hBa.trans (hb3.mono hBa.size); have hbw := hbox.trans (hb3.mono hbox.size); have x0 := (hb3.cell (p := ⟨wr.heap.size, 0, none⟩) (by simp)).trans (World.cell_new0 wr a b c); have x1 := (hb3.cell (p := ⟨wr.heap.size, 1, none⟩) (by simp)).trans (World.cell_new1 wr a b c); have hl3 : wr.heap.size < w3.heap.size := Nat.lt_of_lt_of_le (by simp) hb3.size) | ((first | go_at_fn 23 | go_at_call 23); refine (hr1 _ hB3).mono ?_; rintro e w4 ⟨rfl, hb4⟩; have hbw4 := hbw.trans (hb4.mono hbw.size); have y0 := (hb4.cell (p := ⟨wr.heap.size, 0, none⟩) hl3).trans x0; have y1 := (hb4.cell (p := ⟨wr.heap.size, 1, none⟩) hl3).trans x1) | (at_builtin; refine wpList_append_own _ rfl (.tmp 59) (.tmp 62) 34 rfl w2.heap.size 3 i0 _ 1 8 Tryd.underlying34 hi0 hz0 hz1 hz2 rfl (by decide) _ _ (ints (lostT acks now wait ls k)) rfl (own_below' hrow (hbw4.alloc hbw4.size _)) ⟨w4.heap.size, 0, none⟩ 1 1 (ints [a]) rfl rfl (cell_one_new _ _ _) (by intro u hu; simp [ints] at hu; subst hu; rfl) (by unfold maxLen; omega) (by omega) (by have := HBr.out.size; have := hbw4.size; simp; omega) ?_; intro v5 w5 ho5 hg5 _))
            go_roundg (m2 - (k + 1))
            case measure => omega
            case rel =>
              refine ⟨k + 1, by omega, Nat.le_refl _, by go_num, ?_, ?_⟩
              · rw [HF.out]
                simpa [ints_append, ints_length] using ho5
              · exact HBr.out.trans (((hbw4.mono HBr.out.size).alloc (by have := hbw4.size; have := HBr.out.size; omega) _).grown hg5 (by have := hbw4.size; have := HBr.out.size; simp; omega) (fun j e => (hrow.lt j e).1))
          · have HF : Hid (lostT acks now wait ls (k + 1) = lostT acks now wait ls k) := HX.out (by simp [lostB, h3, h5])
            clear HX HY
            go_wp2_with (first | ((first | go_at_fn 23 | go_at_call 23); refine (hr3 _ hBa).mono ?_; rintro e w3 ⟨rfl, hb3⟩; have hB3 := hBa.trans (hb3.mono hBa.size); have hbw := hbox.trans (hb3.mono hbox.size); have x0 := (hb3.cell (p := ⟨wr.heap.size, 0, none⟩) (by simp)).trans (World.cell_new0 wr a b c); have x1 := (hb3.cell (p := ⟨wr.heap.size, 1, none⟩) (by simp)).trans (World.cell_new1 wr a b c); have hl3 : wr.heap.size < w3.heap.size := Nat.lt_of_lt_of_le (by simp) hb3.size) | ((first | go_at_fn 23 | go_at_call 23); refine (hr1 _ hB3).mono ?_; rintro e w4 ⟨rfl, hb4⟩; have hbw4 := hbw.trans (hb4.mono hbw.size); have y0 := (hb4.cell (p := ⟨wr.heap.size, 0, none⟩) hl3).trans x0; have y1 := (hb4.cell (p := ⟨wr.heap.size, 1, none⟩) hl3).trans x1))
            go_roundg (m2 - (k + 1))
            case measure => omega
            case rel => exact ⟨k + 1, by omega, Nat.le_refl _, by go_num, by rw [HF.out]; exact own_below' hrow hbw4, HBr.out.trans (hbw4.mono HBr.out.size)⟩
    · obtain rfl : k = m2 := by omega
      have hltz : ¬ (k : Int) < (k : Int) := by omega
      have HF : Hid (lostL acks now wait zs = lostT acks now wait ls k) := by
        show _ = _
        rw [HE.out]
      have hle := lostT_le acks now wait ls k
      go_wp2_with fail
      go_ret2
      refine ⟨_, rfl, ?_, bel.trans ((hB2.trans (hBr.mono hBs)).mono bel.size)⟩
      rw [HF.out]
      exact irow_of_own hrow (by omega)
end Go.Proofs.YtingcgadolcanaaDoor
