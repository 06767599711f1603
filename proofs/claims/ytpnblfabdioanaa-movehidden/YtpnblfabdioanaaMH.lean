/- The walk of the law MoveHidden. -/
import Derived.Test.YtpnblfabdioanaaMG
import Derived.Test.YtpnblfabdioanaaP
import Derived.Deep.CutBlock
import Derived.Laws.MakeOwn
namespace Go.Proofs.Ytpnblfabdioanaa
open Go.RowKit Go.Lib Go.Sort
set_option linter.unusedVariables false
set_option linter.unusedSimpArgs false

def T1 : Mv := offS (Mv.start 2) 7
def T2 : Mv := offS T1 8
def T3 : Mv := cmS T2 1 10
def T4 : Mv := akS T3 1 99 5
def T5 : Mv := anS T4 1 99 6 9
def T6 : Mv := mvS T5 1
theorem t1 : issF (Mv.start 2) 7 = 0 := by decide
theorem t2 : issF (offS (Mv.start 2) 7) 8 = 0 := by decide
theorem t3 : cmF (offS (offS (Mv.start 2) 7) 8) 1 10 = 0 := by decide
theorem t4 : akF (cmS (offS (offS (Mv.start 2) 7) 8) 1 10) 1 99 5 = 0 := by decide
theorem t5 : Ox.ansB (akS (cmS (offS (offS (Mv.start 2) 7) 8) 1 10) 1 99 5).os 1 99 6 9 = true := by decide
theorem t6 : Ox.ansF 1 99 6 9 = 0 := by decide
theorem t7 : mvF (anS (akS (cmS (offS (offS (Mv.start 2) 7) 8) 1 10) 1 99 5) 1 99 6 9) 1 = 0 := by decide
theorem t8 : whI (mvS (anS (akS (cmS (offS (offS (Mv.start 2) 7) 8) 1 10) 1 99 5) 1 99 6 9) 1) = 1 := by decide
theorem t9 : whQ (mvS (anS (akS (cmS (offS (offS (Mv.start 2) 7) 8) 1 10) 1 99 5) 1 99 6 9) 1) = 1 := by decide
theorem t0 : whF (mvS (anS (akS (cmS (offS (offS (Mv.start 2) 7) 8) 1 10) 1 99 5) 1 99 6 9) 1) = 0 := by decide
theorem infoN : (Try.prog.info? 3).map (fun i => (i.zero, i.size, i.bytes)) = some (some (.int .i64 0), 1, 8) := by kernel_rfl
theorem made_row (w : World) : ∃ M : Array Value, (∀ W : World, (Instr.makeSlice 35 (.int .i64 100) (.int .i64 100)).run Try.prog W = .ok (.slice (some ⟨W.heap.size, 0, none⟩) 100 100) (W.alloc (.cells M 3))) ∧ ∀ W : World, Nts 100 (W.alloc (.cells M 3)) W.heap.size (fun _ => 0) := by
  obtain ⟨i0, hi, hz0, hz1, hz2⟩ := info_parts infoN
  refine ⟨madeCells (Value.int .i64 0).cells (100 * i0.size), fun W => ?_, fun W => ?_⟩
  · have h := run_make (P := Try.prog) W 35 3 i0 (.int .i64 0) Try.underlying35 hi hz0 .i64 .i64 100 100 (by omega) (by omega) (by rw [hz2]; decide) (by decide)
    simpa using h
  · have hs : (madeCells (Value.int .i64 0).cells (100 * i0.size)) = Array.replicate 100 (.int .i64 0) := by
      rw [hz1, show (Value.int .i64 0).cells = #[.int .i64 0] from rfl]
      exact Array.ext (by simp [size_madeCells]) (fun i h1 h2 => by simp [madeCells, Nat.mod_one])
    rw [hs]
    refine ⟨by simp, fun i hi => ?_, fun i hi => ?_⟩
    · simp [hi]
    · simp

set_option maxRecDepth 100000 in
set_option maxHeartbeats 8000000 in
theorem hidden_lo (n : Int) (v : Value) (w : World) (c : n < 1) (hb : Ix.limitB n = false) : Calls Try.prog 3 #[.int .i64 n, v] w fun e w' => e = .returned (.bool true) ∧ Below w.heap.size w w' := by
  go_enter Try.func3, Try.ntmps3
  go_wp2_with fail
  refine (q_new 2 (by decide) (Below.refl w.heap.size w)).mono ?_
  rintro e w0 ⟨mb0, rfl, h0, _⟩
  have hs := q_offer h0 7
  rw [t1, errV_0] at hs
  go_wp2_with fail
  refine hs.mono ?_
  rintro e w1 ⟨rfl, h1⟩
  clear hs
  have hs := q_offer h1 8
  rw [t2, errV_0] at hs
  go_wp2_with fail
  refine hs.mono ?_
  rintro e w2 ⟨rfl, h2⟩
  clear hs
  have hs := q_came h2 1 10
  rw [t3, errV_0] at hs
  go_wp2_with fail
  refine hs.mono ?_
  rintro e w3 ⟨rfl, h3⟩
  clear hs
  have hs := q_ask h3 1 99 5
  rw [t4, errV_0] at hs
  go_wp2_with fail
  refine hs.mono ?_
  rintro e w4 ⟨rfl, h4⟩
  clear hs
  have hs := q_answer h4 1 99 6 9
  rw [t5, t6, errV_0] at hs
  go_wp2_with fail
  refine hs.mono ?_
  rintro e w5 ⟨rfl, h5⟩
  clear hs
  have hs := q_move h5 1
  rw [t7, errV_0] at hs
  go_wp2_with fail
  refine hs.mono ?_
  rintro e w6 ⟨rfl, h6⟩
  clear hs
  have hs := q_where h6
  rw [t8, t9, t0, errV_0] at hs
  go_wp2_with fail
  refine hs.mono ?_
  rintro e w7 ⟨rfl, h7⟩
  clear hs
  have hb7 := h7.bel
  clear h0 h1 h2 h3 h4 h5 h6 h7
  go_wp2_with fail
  refine (mnew_no n _ hb).mono ?_
  rintro e w8 ⟨rfl, rfl⟩
  go_wp2_with fail
  go_ret
  exact ⟨by simp, hb7⟩

set_option maxRecDepth 100000 in
set_option maxHeartbeats 8000000 in
theorem hidden_hi (n : Int) (v : Value) (w : World) (c : 8 < n) (hb : Ix.limitB n = false) : Calls Try.prog 3 #[.int .i64 n, v] w fun e w' => e = .returned (.bool true) ∧ Below w.heap.size w w' := by
  go_enter Try.func3, Try.ntmps3
  go_wp2_with fail
  refine (q_new 2 (by decide) (Below.refl w.heap.size w)).mono ?_
  rintro e w0 ⟨mb0, rfl, h0, _⟩
  have hs := q_offer h0 7
  rw [t1, errV_0] at hs
  go_wp2_with fail
  refine hs.mono ?_
  rintro e w1 ⟨rfl, h1⟩
  clear hs
  have hs := q_offer h1 8
  rw [t2, errV_0] at hs
  go_wp2_with fail
  refine hs.mono ?_
  rintro e w2 ⟨rfl, h2⟩
  clear hs
  have hs := q_came h2 1 10
  rw [t3, errV_0] at hs
  go_wp2_with fail
  refine hs.mono ?_
  rintro e w3 ⟨rfl, h3⟩
  clear hs
  have hs := q_ask h3 1 99 5
  rw [t4, errV_0] at hs
  go_wp2_with fail
  refine hs.mono ?_
  rintro e w4 ⟨rfl, h4⟩
  clear hs
  have hs := q_answer h4 1 99 6 9
  rw [t5, t6, errV_0] at hs
  go_wp2_with fail
  refine hs.mono ?_
  rintro e w5 ⟨rfl, h5⟩
  clear hs
  have hs := q_move h5 1
  rw [t7, errV_0] at hs
  go_wp2_with fail
  refine hs.mono ?_
  rintro e w6 ⟨rfl, h6⟩
  clear hs
  have hs := q_where h6
  rw [t8, t9, t0, errV_0] at hs
  go_wp2_with fail
  refine hs.mono ?_
  rintro e w7 ⟨rfl, h7⟩
  clear hs
  have hb7 := h7.bel
  clear h0 h1 h2 h3 h4 h5 h6 h7
  go_wp2_with fail
  refine (mnew_no n _ hb).mono ?_
  rintro e w8 ⟨rfl, rfl⟩
  have c0 : ¬ n < 1 := by omega
  go_wp2_with fail
  go_ret
  exact ⟨by simp, hb7⟩

set_option maxRecDepth 100000 in
set_option maxHeartbeats 8000000 in
theorem hidden_yes (n : Int) (ao : Option Addr) (len sc : Nat) (w : World) (hb : Ix.limitB n = true) (hS : len = 0 ∨ ∃ b off, ao = some ⟨b, off, none⟩ ∧ Steps w b off len) : Calls Try.prog 3 #[.int .i64 n, .slice ao len sc] w fun e w' => e = .returned (.bool true) ∧ Below w.heap.size w w' := by
  have HS : Hid (len = 0 ∨ ∃ b off, ao = some ⟨b, off, none⟩ ∧ Steps w b off len) := hS
  clear hS
  obtain ⟨MK, hmk, HMK'⟩ := made_row w
  have HMK : Hid (∀ W : World, Nts 100 (W.alloc (.cells MK 3)) W.heap.size (fun _ => 0)) := HMK'
  clear HMK'
  go_enter Try.func3, Try.ntmps3
  go_wp2_with fail
  refine (q_new 2 (by decide) (Below.refl w.heap.size w)).mono ?_
  rintro e w0 ⟨mb0, rfl, h0, _⟩
  have hs := q_offer h0 7
  rw [t1, errV_0] at hs
  go_wp2_with fail
  refine hs.mono ?_
  rintro e w1 ⟨rfl, h1⟩
  clear hs
  have hs := q_offer h1 8
  rw [t2, errV_0] at hs
  go_wp2_with fail
  refine hs.mono ?_
  rintro e w2 ⟨rfl, h2⟩
  clear hs
  have hs := q_came h2 1 10
  rw [t3, errV_0] at hs
  go_wp2_with fail
  refine hs.mono ?_
  rintro e w3 ⟨rfl, h3⟩
  clear hs
  have hs := q_ask h3 1 99 5
  rw [t4, errV_0] at hs
  go_wp2_with fail
  refine hs.mono ?_
  rintro e w4 ⟨rfl, h4⟩
  clear hs
  have hs := q_answer h4 1 99 6 9
  rw [t5, t6, errV_0] at hs
  go_wp2_with fail
  refine hs.mono ?_
  rintro e w5 ⟨rfl, h5⟩
  clear hs
  have hs := q_move h5 1
  rw [t7, errV_0] at hs
  go_wp2_with fail
  refine hs.mono ?_
  rintro e w6 ⟨rfl, h6⟩
  clear hs
  have hs := q_where h6
  rw [t8, t9, t0, errV_0] at hs
  go_wp2_with fail
  refine hs.mono ?_
  rintro e w7 ⟨rfl, h7⟩
  clear hs
  have hb7 := h7.bel
  clear h0 h1 h2 h3 h4 h5 h6 h7
  go_wp2_with fail
  refine (q_new n hb hb7).mono ?_
  rintro e w8 ⟨mb, rfl, h8, _⟩
  clear hb7
  go_wp2_with fail
  obtain ⟨F0, hM0, hB0⟩ := h8
  have hD0 : Hd w (w8.alloc (.cells MK 3)) mb w8.heap.size F0 (Mv.start n) (fun _ => 0) :=
    ⟨hM0.below ((Below.refl _ _).alloc (Nat.le_refl _) _), HMK.out w8, fun e => by have := hM0.lt e; omega, hB0.size, hB0.alloc hB0.size _⟩
  clear hM0 hB0 hmk HMK
  generalize w8.heap.size = ub at hD0 ⊢
  generalize w8.alloc (.cells MK 3) = W0 at hD0 ⊢
  go_loopg [20, 21] 60 (fun gk s20 s21 wr => ∃ (k : Nat) (F : Nat → Prop) (s : Mv) (us : Nat → Int) (la : Int), gk + k = 60 ∧ s20 = .int .i64 la ∧ s21 = .int .i64 k ∧ Hd w wr mb ub F s us ∧ Hid (Jv s us la) ∧ Hid (s.ls.Pairwise (fun a b => a.1 < b.1)))
  case atStart => exact ⟨0, F0, _, _, -1, rfl, rfl, rfl, hD0, Jv.start n, (show ([] : List Ix.R).Pairwise (fun a b => a.1 < b.1) from List.Pairwise.nil)⟩
  case round =>
    clear hD0
    obtain ⟨k, F, s, us, la, hk, rfl, rfl, hD, HV, HR⟩ := hrel
    have HK : Hid (gk + k = 60) := hk
    clear hk
    by_cases g1 : (k : Int) < (len : Int)
    · by_cases g2 : (k : Int) < 60
      · obtain ⟨b, off, rfl, hSt⟩ : ∃ b off, ao = some ⟨b, off, none⟩ ∧ Steps w b off len := by
          rcases HS.out with e | e
          · omega
          · exact e
        have hlen : len ≤ 9223372036854775807 := hSt.2.1
        obtain ⟨ar, cr, zs, hcell, hI⟩ := row_at' hSt (Below.refl _ _) (k := k) (by omega)
        have hzl : zs.length ≤ 9223372036854775807 := hI.1
        have HC : Hid (w.cell? ⟨b, off + k, none⟩ = some (.slice ar zs.length cr)) := hcell
        have hbw : b < w.heap.size := hSt.1
        have HI : Hid (Ints w ar zs) := hI
        have hP0 := Hp.new hD
        clear hSt hcell hI hD
        go_wp2_with fail
        generalize wr.heap.size = V at hP0 ⊢
        generalize wr.alloc (.cells #[.int .i64 0, .int .i64 0, .int .i64 0, .int .i64 0, .int .i64 0] 36) = W1 at hP0 ⊢
        go_loopg [23] 5 (fun gj s23 wr2 => ∃ (j : Nat) (ys : Nat → Int), gj + j = 5 ∧ s23 = .int .i64 j ∧ Hp w wr2 mb ub V F s us ys)
        case atStart => exact ⟨0, _, rfl, rfl, hP0⟩
        case round =>
          clear hP0
          obtain ⟨j, ys, hj, rfl, hP⟩ := hrel
          have HJ : Hid (gk + j = 5) := hj
          clear hj
          have rc := (hP.hd.bel.cell (p := ⟨b, off + k, none⟩) hbw).trans HC.out
          by_cases q1 : (j : Int) < (zs.length : Int) ∧ (j : Int) < 5
          · obtain ⟨q1, q2⟩ := q1
            obtain ⟨rb, ro, rfl, hrb, hcj⟩ : ∃ rb ro, ar = some ⟨rb, ro, none⟩ ∧ rb < w.heap.size ∧ ∀ j, j < zs.length → w.cell? ⟨rb, ro + j, none⟩ = some (.int .i64 (iat zs j)) := by
              rcases HI.out.2.2 with e | e
              · rw [e] at q1; simp at q1; omega
              · exact e
            have xj := (hP.hd.bel.cell (p := ⟨rb, ro + j, none⟩) hrb).trans (hcj j (by omega))
            generalize iat zs j = z at xj
            clear hcj
            have hP2 := hP.set (show j < 5 by omega) z
            have vc := hP.box.c j (by omega)
            have vf := hP.box.f j (by omega)
            go_wp2_with fail
            go_roundg (5 - (j + 1))
            case measure => have := HJ.out; omega
            case rel => exact ⟨j + 1, _, by have := HJ.out; omega, by go_num, hP2⟩
          · go_upto_region 23 with fail
            go_cut [131] (fun s131 wx => s131 = .bool false ∧ wx = wr)
            case first =>
              by_cases q2 : (j : Int) < (zs.length : Int)
              · have q3 : ¬ (j : Int) < 5 := fun e => q1 ⟨q2, e⟩
                clear q1
                go_wp2_with fail
                go_meet
                exact ⟨rfl, rfl⟩
              · clear q1
                go_wp2_with fail
                go_meet
                exact ⟨rfl, rfl⟩
            case rest =>
              obtain ⟨rfl, rfl⟩ := hcut
              clear q1 rc
              have v0 := hP.box.c 0 (by decide)
              have v1 := hP.box.c 1 (by decide)
              have v2 := hP.box.c 2 (by decide)
              have v3 := hP.box.c 3 (by decide)
              have v4 := hP.box.c 4 (by decide)
              generalize ys 0 = y0 at v0
              generalize ys 1 = y1 at v1
              generalize ys 2 = y2 at v2
              generalize ys 3 = y3 at v3
              generalize ys 4 = y4 at v4
              go_upto_block 4 with fail
              go_cut [] (fun wx => ∃ (F1 : Nat → Prop) (s1 : Mv), Hd w wx mb ub F1 s1 us ∧ St s s1)
              case first =>
                by_cases s0 : y0 = 0
                · subst s0
                  have hs := h_offer hP y1
                  go_wp2_with fail
                  refine hs.mono ?_
                  rintro e w11 ⟨r, rfl, F1, s1, hP1, hst⟩
                  clear hs
                  go_wp2_with fail
                  go_meet
                  exact ⟨F1, s1, hP1.hd, hst⟩
                · have b0 : (y0 == 0) = false := by simpa using s0
                  by_cases s1 : y0 = 1
                  · subst s1
                    have hs := h_came hP y1 y2
                    go_wp2_with fail
                    refine hs.mono ?_
                    rintro e w11 ⟨r, rfl, F1, s1, hP1, hst⟩
                    clear hs
                    go_wp2_with fail
                    go_meet
                    exact ⟨F1, s1, hP1.hd, hst⟩
                  · have b1 : (y0 == 1) = false := by simpa using s1
                    by_cases s2 : y0 = 2
                    · subst s2
                      have hs := h_came hP y1 y2
                      go_wp2_with fail
                      refine hs.mono ?_
                      rintro e w11 ⟨r, rfl, F1, s1, hP1, hst⟩
                      clear hs
                      go_wp2_with fail
                      go_meet
                      exact ⟨F1, s1, hP1.hd, hst⟩
                    · have b2 : (y0 == 2) = false := by simpa using s2
                      by_cases s3 : y0 = 3
                      · subst s3
                        have hs := h_send hP y1 y2
                        go_wp2_with fail
                        refine hs.mono ?_
                        rintro e w11 ⟨r, rfl, F1, s1, hP1, hst⟩
                        clear hs
                        go_wp2_with fail
                        go_meet
                        exact ⟨F1, s1, hP1.hd, hst⟩
                      · have b3 : (y0 == 3) = false := by simpa using s3
                        by_cases s4 : y0 = 4
                        · subst s4
                          have hs := h_ask hP y1 y2 y3
                          go_wp2_with fail
                          refine hs.mono ?_
                          rintro e w11 ⟨r, rfl, F1, s1, hP1, hst⟩
                          clear hs
                          go_wp2_with fail
                          go_meet
                          exact ⟨F1, s1, hP1.hd, hst⟩
                        · have b4 : (y0 == 4) = false := by simpa using s4
                          by_cases s5 : y0 = 5
                          · subst s5
                            have hs := h_answer hP y1 y2 y3 y4
                            go_wp2_with fail
                            refine hs.mono ?_
                            rintro e w11 ⟨r, rfl, F1, s1, hP1, hst⟩
                            clear hs
                            go_wp2_with fail
                            go_meet
                            exact ⟨F1, s1, hP1.hd, hst⟩
                          · have b5 : (y0 == 5) = false := by simpa using s5
                            have hs := h_move hP y1
                            go_wp2_with fail
                            refine hs.mono ?_
                            rintro e w11 ⟨r, rfl, F1, s1, hP1, hst⟩
                            clear hs
                            go_wp2_with fail
                            go_meet
                            exact ⟨F1, s1, hP1.hd, hst⟩
              case rest =>
                obtain ⟨F1, s1, hD1, hst⟩ := hcut
                clear hP v0 v1 v2 v3 v4
                have HS1 : Hid (St s s1) := hst
                have hpk := hD1.mv.pok
                have HPK : Hid (Pok s1) := hpk
                clear hst hpk
                go_wp2_with fail
                go_loopg [24] 4 (fun gj s24 wr2 => ∃ (j : Nat), gj + j = 4 ∧ s24 = .int .i64 j ∧ Hd w wr2 mb ub F1 s1 us)
                case atStart => exact ⟨0, rfl, rfl, hD1⟩
                case round =>
                  clear hD1
                  obtain ⟨j, hj, rfl, hD⟩ := hrel
                  have HJ : Hid (gk + j = 4) := hj
                  clear hj
                  by_cases q1 : (j : Int) < 4
                  · have hpath := m_path hD.mv j (by omega)
                    obtain ⟨f1, f2, f3⟩ := Px.flt_zero (HPK.out j (by omega))
                    have f4 := Px.byB_yes f1
                    have f5 := Px.byB_yes f2
                    cases hk : s1.pk j with
                    | true =>
                      rw [hk] at hpath
                      clear f1 f2 f3
                      generalize s1.pi j = i0 at *
                      generalize s1.po j = o0 at *
                      go_wp2_with fail
                      refine hpath.mono ?_
                      rintro e w12 ⟨rfl, hb12⟩
                      have hD2 := (hD.below hb12).below (Px.below_put w12 i0 o0 true)
                      clear hpath hb12 hD
                      go_wp2_with fail
                      go_roundg (4 - (j + 1))
                      case measure => have := HJ.out; omega
                      case rel => exact ⟨j + 1, by have := HJ.out; omega, by go_num, hD2⟩
                    | false =>
                      rw [hk] at hpath f3
                      simp only [Px.bnd] at f3
                      clear f1 f2
                      generalize s1.pi j = i0 at *
                      generalize s1.po j = o0 at *
                      have f6 : ¬ 3 * i0 < o0 := by omega
                      go_wp2_with fail
                      refine hpath.mono ?_
                      rintro e w12 ⟨rfl, hb12⟩
                      have hD2 := (hD.below hb12).below (Px.below_put w12 i0 o0 false)
                      clear hpath hb12 hD
                      go_wp2_with fail
                      go_roundg (4 - (j + 1))
                      case measure => have := HJ.out; omega
                      case rel => exact ⟨j + 1, by have := HJ.out; omega, by go_num, hD2⟩
                  · have hwh := m_where hD.mv
                    have hinv := hD.mv.inv
                    rcases Jv.step HV.out HS1.out HR.out hinv with ⟨hl, hJ⟩ | ⟨hl, a, q, ha, ea, ka, eq, hq, hJ⟩
                    · have e1 : whF s1 = 5 := by simp [whF, hl]
                      have e2 : whI s1 = 0 := by simp [whI, hl]
                      have e3 : whQ s1 = 0 := by simp [whQ, hl]
                      rw [e1, e2, e3, errV_f (by decide)] at hwh
                      have HV2 : Hid (Jv s1 us la) := hJ
                      have HR2 : Hid (s1.ls.Pairwise (fun a b => a.1 < b.1)) := hinv.rise
                      clear e1 e2 e3 hl hJ hinv
                      go_wp2_with fail
                      refine hwh.mono ?_
                      rintro e w13 ⟨rfl, hb13⟩
                      have hD3 := hD.below hb13
                      clear hwh hb13 hD
                      go_wp2_with fail
                      go_roundg (60 - (k + 1))
                      case measure => have := HK.out; omega
                      case rel => exact ⟨k + 1, F1, s1, us, la, by have := HK.out; omega, rfl, by go_num, hD3, HV2, HR2⟩
                    · have e1 : whF s1 = 0 := by simp [whF, hl]
                      have e2 : whI s1 = (a : Int) := by simp [whI, hl, ea]
                      have e3 : whQ s1 = (q : Int) := by simp [whQ, hl, eq]
                      rw [e1, e2, e3, errV_0] at hwh
                      have HR2 : Hid (s1.ls.Pairwise (fun a b => a.1 < b.1)) := hinv.rise
                      have HEA : Hid (s1.wh = (a : Int)) := ea
                      clear e1 e2 e3 hl hinv ea eq
                      go_wp2_with fail
                      refine hwh.mono ?_
                      rintro e w13 ⟨rfl, hb13⟩
                      have hD3 := hD.below hb13
                      have hpath := m_path hD3.mv a ha
                      rw [ka] at hpath
                      clear hwh hb13 hD ka
                      generalize s1.pi a = i0 at hpath
                      generalize s1.po a = o0 at hpath
                      go_wp2_with fail
                      refine hpath.mono ?_
                      rintro e w14 ⟨rfl, hb14⟩
                      have hD4 := (hD3.below hb14).below (Px.below_put w14 i0 o0 true)
                      clear hpath hb14 hD3
                      have hq99 : ¬ (99 : Int) < (q : Int) := by omega
                      have hq100 : (q : Int) < 100 := by omega
                      rcases hJ with ⟨hla, hJ⟩ | ⟨hla, hu, hJ⟩
                      · have HV2 : Hid (Jv s1 us (a : Int)) := hJ
                        clear hJ
                        subst hla
                        go_wp2_with fail
                        go_roundg (60 - (k + 1))
                        case measure => have := HK.out; omega
                        case rel => exact ⟨k + 1, F1, s1, us, (a : Int), by have := HK.out; omega, rfl, by go_num, hD4, HV2, HR2⟩
                      · have HV2 : Hid (Jv s1 (up1 us q 1) (a : Int)) := hJ
                        have hne : ((a : Int) != la) = true := by simpa using hla
                        have u0 := hD4.row.c q hq
                        have uf := hD4.row.f q hq
                        rw [hu] at u0
                        have hD5 := hD4.use hq 1
                        clear hJ hla hu hD4
                        unfold Px.put at u0 uf hD5
                        go_wp2_with fail
                        go_roundg (60 - (k + 1))
                        case measure => have := HK.out; omega
                        case rel => exact ⟨k + 1, F1, s1, _, (a : Int), by have := HK.out; omega, rfl, by go_num, hD5, HV2, HR2⟩
      · go_wp2_with fail
        go_ret
        exact ⟨rfl, hD.bel⟩
    · go_wp2_with fail
      go_ret
      exact ⟨rfl, hD.bel⟩
theorem hidden_walk (n : Int) {v : Value} {w : World} (hv : StepsArg w v) : Calls Try.prog 3 #[.int .i64 n, v] w fun e w' => e = .returned (.bool true) ∧ Below w.heap.size w w' := by
  cases hb : Ix.limitB n with
  | true =>
    obtain ⟨ao, len, c, rfl, hS⟩ := hv
    exact hidden_yes n ao len c w hb hS
  | false =>
    rcases Ix.limitB_no hb with h | h
    · exact hidden_lo n v w h hb
    · exact hidden_hi n v w h hb
end Go.Proofs.Ytpnblfabdioanaa
