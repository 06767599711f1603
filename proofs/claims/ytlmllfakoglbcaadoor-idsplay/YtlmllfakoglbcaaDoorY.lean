/- The walk of the law IDsPlay. -/
import Derived.Test.YtlmllfakoglbcaaDoorQ
import Derived.Deep.CutBlock
namespace Go.Proofs.YtlmllfakoglbcaaDoor
open Go.RowKit Go.Lib Go.Sort Go.Shelf
set_option linter.unusedVariables false
set_option linter.unusedSimpArgs false

set_option maxRecDepth 100000 in
set_option maxHeartbeats 8000000 in
theorem play_no1 (n : Int) (ao : Option Addr) (len cap : Nat) (w : World) (hH : Handle w) (h : limitB n = false) (c : n < 1) : Calls Tryd.prog 5 #[.int .i64 n, .slice ao len cap] w fun e w' => e = .returned (.bool true) ∧ Below w.heap.size w w' := by
  go_enter Tryd.func5, Tryd.ntmps5
  go_wp2_with (first | (go_at_call 6; refine (new_no n _ h).mono ?_; rintro e w1 ⟨rfl, rfl⟩) | (go_at_call 9; refine (same_err 1 1 _ hH).mono ?_; rintro e w2 ⟨rfl, hb2⟩))
  go_ret
  exact ⟨by simp, hb2⟩

set_option maxRecDepth 100000 in
set_option maxHeartbeats 8000000 in
theorem play_no2 (n : Int) (ao : Option Addr) (len cap : Nat) (w : World) (hH : Handle w) (h : limitB n = false) (c : 8 < n) : Calls Tryd.prog 5 #[.int .i64 n, .slice ao len cap] w fun e w' => e = .returned (.bool true) ∧ Below w.heap.size w w' := by
  go_enter Tryd.func5, Tryd.ntmps5
  go_wp2_with (first | (go_at_call 6; refine (new_no n _ h).mono ?_; rintro e w1 ⟨rfl, rfl⟩) | (go_at_call 9; refine (same_err 1 1 _ hH).mono ?_; rintro e w2 ⟨rfl, hb2⟩))
  go_ret
  exact ⟨by simp, hb2⟩

theorem new_any (L : Int) (w : World) (h : limitB L = true) : Calls Tryd.prog 6 #[.int .i64 L] w fun e w' => ∃ sb bm v, e = .returned (.tuple #[.pointer (some ⟨sb, 0, none⟩), .nilIface]) ∧ Obj w' w.heap.size sb bm v L [] [] ∧ Below w.heap.size w w' :=
  (new_yes L w h).mono fun e w' ⟨he, hO, hb⟩ => ⟨_, _, _, he, hO, hb⟩
theorem live_name2 {L : Int} {ns : List Int} {gs : List Bool} (inv : Inv L ns (lv 0 ns gs)) (n : Int) : ∃ (p : Nat) (jq : Int), (∀ i, i < (lv 0 ns gs).length → i ≠ p → (at' (lv 0 ns gs) i).2 ≠ n) ∧
    ((p < (lv 0 ns gs).length ∧ at' (lv 0 ns gs) p = (jq, n) ∧ ∃ j : Nat, jq = (j : Int) ∧ ns[j]? = some n ∧ isIn (lv 0 ns gs) (j : Int) = true) ∨ (p = (lv 0 ns gs).length ∧ (n ∉ ns ∨ ∃ j : Nat, ns[j]? = some n ∧ isIn (lv 0 ns gs) (j : Int) = false))) := by
  rcases live_name inv n with ⟨j, p, h1, h2, h3, h4, h5⟩ | ⟨h1, h2⟩
  · exact ⟨p, (j : Int), h5, .inl ⟨h3, h4, j, rfl, h1, h2⟩⟩
  · exact ⟨(lv 0 ns gs).length, 0, fun i hi _ => h1 i hi, .inr ⟨rfl, h2⟩⟩
theorem row_at' {w wr : World} {b off len : Nat} (h : Steps w b off len) (hb : Below w.heap.size w wr) {k : Nat} (hk : k < len) : ∃ ar cr zs, wr.cell? ⟨b, off + k, none⟩ = some (.slice ar zs.length cr) ∧ Ints w ar zs := by
  obtain ⟨ar, cr, zs, h1, h2⟩ := h.2.2 k hk
  exact ⟨ar, cr, zs, (hb.cell (p := ⟨b, off + k, none⟩) h.1).trans h1, h2⟩
set_option maxRecDepth 100000 in
set_option maxHeartbeats 8000000 in
theorem play_yes (L : Int) (ao : Option Addr) (len sc : Nat) (w : World) (hH : Handle w) (h : limitB L = true) (hS : len = 0 ∨ ∃ b off, ao = some ⟨b, off, none⟩ ∧ Steps w b off len) : Calls Tryd.prog 5 #[.int .i64 L, .slice ao len sc] w fun e w' => e = .returned (.bool true) ∧ Below w.heap.size w w' := by
  have HS : Hid (len = 0 ∨ ∃ b off, ao = some ⟨b, off, none⟩ ∧ Steps w b off len) := hS
  clear hS
  obtain ⟨l1, l8⟩ := limitB_yes h
  go_enter Tryd.func5, Tryd.ntmps5
  go_wp2_with fail
  refine (new_any L _ h).mono ?_
  rintro e w1 ⟨sb, bm, v1, rfl, hO1, hb1⟩
  go_wp2_with fail
  refine (same_nil 0 _).mono ?_
  rintro e w2 ⟨rfl, hb2⟩
  have hO2 := hO1.below hb2
  have hB2 := hb1.trans (hb2.mono hb1.size)
  have b3 : Below w2.heap.size w2 (w2.alloc (.cells #[.int .i64 L, .slice none 0 0, .slice none 0 0] 42)) := (Below.refl _ _).alloc (Nat.le_refl _) _
  have hE0 : Two w (w2.alloc (.cells #[.int .i64 L, .slice none 0 0, .slice none 0 0] 42)) sb bm w2.heap.size v1 (.slice none 0 0) (.slice none 0 0) L [] (lv 0 [] []) [] [] :=
    ⟨hO2.below b3, Ref.new w2 _ hB2.size L, (fun k hk hr => by
      have h1 := hO2.lt hk
      rcases hr with e | e | e
      · omega
      · cases e
      · cases e), hB2.trans (b3.mono hB2.size)⟩
  go_wp2_with fail
  clear hO1 hb1 hO2 hb2 hB2 b3
  generalize w2.heap.size = mb at hE0 ⊢
  generalize w2.alloc (.cells #[.int .i64 L, .slice none 0 0, .slice none 0 0] 42) = W0 at hE0 ⊢
  go_loopg [10] 150 (fun gk s10 wr => ∃ (k : Nat) (vs va vg : Value) (ns : List Int) (gs : List Bool), gk + k = 150 ∧ s10 = .int .i64 k ∧ Hid (gs.length = ns.length) ∧ Two w wr sb bm mb vs va vg L ns (lv 0 ns gs) ns gs)
  case atStart => exact ⟨0, _, _, _, [], [], rfl, rfl, (show ([] : List Bool).length = ([] : List Int).length from rfl), hE0⟩
  case round =>
    clear hE0
    obtain ⟨k, vs, va, vg, ns, gs, hk, rfl, HL, hE⟩ := hrel
    have HK : Hid (gk + k = 150) := hk
    clear hk
    have hmany : ns.length ≤ 100 := hE.obj.inv.many
    by_cases g1 : (k : Int) < (len : Int)
    · by_cases g2 : (k : Int) < 150
      · obtain ⟨b, off, rfl, hSt⟩ : ∃ b off, ao = some ⟨b, off, none⟩ ∧ Steps w b off len := by
          rcases HS.out with e | e
          · omega
          · exact e
        have hlen : len ≤ 9223372036854775807 := hSt.2.1
        obtain ⟨ar, cr, zs, hcell, hI⟩ := row_at' hSt (Below.refl _ _) (k := k) (by omega)
        have hzl : zs.length ≤ 9223372036854775807 := hI.1
        have HC : Hid (w.cell? ⟨b, off + k, none⟩ = some (.slice ar zs.length cr)) := hcell
        have hbw : b < w.heap.size := hSt.1
        have HI : Hid (Ints w ar zs) := hI
        have hVn := IdBox.new wr 0 0 43
        have hE1 := hE.alloc (.cells #[.int .i64 0, .int .i64 0] 43)
        have hVf : Hid (∀ q, own sb bm vs q ∨ rown mb va vg q → q < wr.heap.size) := fun q hq => hE.lt hq
        have hVw : w.heap.size ≤ wr.heap.size := hE.bel.size
        clear hSt hcell hI hE
        go_wp2_with fail
        generalize wr.heap.size = V at hVn hVf hVw ⊢
        generalize wr.alloc (.cells #[.int .i64 0, .int .i64 0] 43) = W1 at hVn hE1 ⊢
        go_loopg [12] 2 (fun gj s12 wr2 => ∃ (j : Nat) (y0 y1 : Int), gj + j = 2 ∧ s12 = .int .i64 j ∧ wf64 y0 ∧ wf64 y1 ∧ IdBox wr2 V y0 y1 ∧ Two w wr2 sb bm mb vs va vg L ns (lv 0 ns gs) ns gs)
        case atStart => exact ⟨0, 0, 0, rfl, rfl, wf_zero, wf_zero, hVn, hE1⟩
        case round =>
          clear hVn hE1
          obtain ⟨j, y0, y1, hj, rfl, hw0, hw1, hV, hE⟩ := hrel
          have HJ : Hid (gk + j = 2) := hj
          clear hj
          have rc := (hE.bel.cell (p := ⟨b, off + k, none⟩) hbw).trans HC.out
          by_cases q1 : (j : Int) < (zs.length : Int) ∧ (j : Int) < 2
          · obtain ⟨q1, q2⟩ := q1
            obtain ⟨rb, ro, rfl, hrb, hcj⟩ : ∃ rb ro, ar = some ⟨rb, ro, none⟩ ∧ rb < w.heap.size ∧ ∀ j, j < zs.length → w.cell? ⟨rb, ro + j, none⟩ = some (.int .i64 (iat zs j)) := by
              rcases HI.out.2.2 with e | e
              · rw [e] at q1; simp at q1; omega
              · exact e
            have xj := (hE.bel.cell (p := ⟨rb, ro + j, none⟩) hrb).trans (hcj j (by omega))
            have hwj : wf64 (iat zs j) := HI.out.2.1 _ (List.mem_of_getElem? (iat_get (by omega)))
            generalize iat zs j = z at xj hwj
            clear hcj
            have hVK : ∀ q, q = V → w.heap.size ≤ q ∧ ¬ own sb bm vs q ∧ ¬ rown mb va vg q := fun q e => ⟨by omega, fun e' => by have := hVf.out q (.inl e'); omega, fun e' => by have := hVf.out q (.inr e'); omega⟩
            rcases (show j = 0 ∨ j = 1 by omega) with rfl | rfl
            · rw [Nat.add_zero] at xj
              have hV2 := hV.set0 z
              have hE2 := hE.off (K := fun q => q = V) ((Off.refl _ _).setCell (K := fun q => q = V) (a := ⟨V, 0, none⟩) rfl (.int .i64 z)) hVK
              obtain ⟨vl, v0, v1, vf0, vf1⟩ := hV
              go_wp2_with fail
              go_roundg 1
              case measure => have := HJ.out; omega
              case rel => exact ⟨1, z, y1, rfl, by go_num, hwj, hw1, hV2, hE2⟩
            · have hV2 := hV.set1 z
              have hE2 := hE.off (K := fun q => q = V) ((Off.refl _ _).setCell (K := fun q => q = V) (a := ⟨V, 1, none⟩) rfl (.int .i64 z)) hVK
              obtain ⟨vl, v0, v1, vf0, vf1⟩ := hV
              go_wp2_with fail
              go_roundg 0
              case measure => have := HJ.out; omega
              case rel => exact ⟨2, y0, z, rfl, by go_num, hw0, hwj, hV2, hE2⟩
          · go_upto_region 14 with fail
            go_cut [66] (fun s66 wx => s66 = .bool false ∧ wx = wr)
            case first =>
              by_cases q2 : (j : Int) < (zs.length : Int)
              · have q3 : ¬ (j : Int) < 2 := fun e => q1 ⟨q2, e⟩
                clear q1
                go_wp2_with fail
                go_meet
                exact ⟨rfl, rfl⟩
              · clear q1
                go_wp2_with fail
                go_meet
                exact ⟨rfl, rfl⟩
            case rest =>
              obtain ⟨rfl, rfl⟩ := hcut
              clear q1 rc
              have v0 := hV.c0
              have v1 := hV.c1
              go_upto_block 4 with fail
              go_cut [8] (fun s8 wx => s8 = .bool true ∧ ∃ (vs va vg : Value) (ns : List Int) (gs : List Bool), Hid (gs.length = ns.length) ∧ Two w wx sb bm mb vs va vg L ns (lv 0 ns gs) ns gs)
              case first =>
                have eqi := eqlI
                have gdi := guardI
                have hEd := hE.drew
                have hVd : IdBox wc.drew V y0 y1 := hV.below (Below.refl _ _).drew
                by_cases s0 : y0 = 0
                · subst s0
                  cases hd : isIn (lv 0 ns gs) y1 with
                  | false =>
                    go_wp2_with fail
                    go_region_with (first | (go_at_call 8; refine (retire_no hEd.obj y1 hd).mono ?_; rintro e w11 ⟨rfl, hb11⟩; have hE11 := hEd.below hb11; have x11 := (hVd.below hb11).c1) | (go_at_call 12; refine (rretire_no hE11.ref HL.out hmany y1 hd).mono ?_; rintro e w12 ⟨rfl, hb12⟩; have hE12 := hE11.below hb12) | (go_at_call 9; refine (same_err 5 5 _ (hH.below hE12.bel)).mono ?_; rintro e w13 ⟨rfl, hb13⟩; have hE13 := hE12.below hb13))
                    all_goals (try go_wp2_with fail)
                    all_goals go_meet
                    all_goals exact ⟨rfl, vs, va, vg, ns, gs, HL, hE13⟩
                  | true =>
                    obtain ⟨j1, hj1, hlt1, hb1⟩ := (lv_isIn HL.out y1).1 hd
                    subst hj1
                    go_wp2_with fail
                    go_region_with (first | (go_at_call 8; refine (retire_yes hEd.obj (j1 : Int) hd).mono ?_; rintro e w11 ⟨rfl, vs2, hO11, ho11, hv11⟩; have hE11 := hEd.objTurn hO11 ho11 (.inl hv11); have x11 := (hVd.off ho11 (fun e => by have := hVf.out _ (.inl e); omega)).c1) | (go_at_call 12; refine (rretire_yes hE11.ref HL.out hmany j1 hlt1 hb1).mono ?_; rintro e w12 ⟨rfl, hR12, ho12⟩; have hE12 := hE11.refTurn hR12 ho12 (fun k hk => .inl hk)) | (go_at_call 9; refine (same_nil 0 _).mono ?_; rintro e w13 ⟨rfl, hb13⟩; have hE13 := hE12.below hb13))
                    all_goals (try go_wp2_with fail)
                    all_goals go_meet
                    all_goals exact ⟨rfl, vs2, va, vg, ns, gs.set j1 true, set_length HL.out, by rw [← gone_lv]; exact hE13⟩
                · by_cases s1 : y0 = 1
                  · subst s1
                    obtain ⟨p, jq, hoth, hcase⟩ := live_name2 hE.obj.inv y1
                    have HP : Hid (p < (lv 0 ns gs).length → at' (lv 0 ns gs) p = (jq, y1)) := fun hp => by
                      rcases hcase with ⟨_, e, _⟩ | ⟨e, _⟩
                      · exact e
                      · omega
                    have HO : Hid (∀ i, i < (lv 0 ns gs).length → i ≠ p → (at' (lv 0 ns gs) i).2 ≠ y1) := hoth
                    have HCS : Hid ((p < (lv 0 ns gs).length ∧ at' (lv 0 ns gs) p = (jq, y1) ∧ ∃ j : Nat, jq = (j : Int) ∧ ns[j]? = some y1 ∧ isIn (lv 0 ns gs) (j : Int) = true) ∨ (p = (lv 0 ns gs).length ∧ (y1 ∉ ns ∨ ∃ j : Nat, ns[j]? = some y1 ∧ isIn (lv 0 ns gs) (j : Int) = false))) := hcase
                    clear hoth hcase hEd hVd
                    have hEa := hE.alloc (.cells #[.int .i64 0, .int .i64 0] 29)
                    have ba : Below wc.heap.size wc (wc.alloc (.cells #[.int .i64 0, .int .i64 0] 29)) := (Below.refl _ _).alloc (Nat.le_refl _) _
                    have hVa := hV.below ba
                    have hWn := IdBox.new wc 0 0 29
                    have hVW : V < wc.heap.size := hV.lt
                    go_wp2_with fail
                    refine (rlive_calls hEa.ref HL.out hmany).mono ?_
                    rintro e w11 ⟨u, rfl, hu, hb11⟩
                    obtain ⟨au, cu, rfl, HU⟩ : ∃ a c, u = .slice a (lv 0 ns gs).length c ∧ Hid (0 < (lv 0 ns gs).length → ∃ ku, a = some ⟨ku, 0, none⟩ ∧ ku < w11.heap.size ∧ wc.heap.size < ku ∧ Cells w11 ku 0 (lv 0 ns gs)) := by
                      rcases hu.2 with ⟨rfl, e⟩ | ⟨g, cap, cur, rfl, _⟩
                      · exact ⟨none, 0, by rw [e], fun h => by omega⟩
                      · exact ⟨_, _, rfl, fun h => ⟨g, rfl, (hu.lt g rfl).2, by have := (hu.lt g rfl).1; simp at this; omega, cells_of_own hu⟩⟩
                    have hE11 := hEa.below hb11
                    have hV11 := hVa.below hb11
                    have hW11 := hWn.below hb11
                    have hml : (lv 0 ns gs).length ≤ 100 := Nat.le_trans (lv_le ns gs 0) hmany
                    clear hu hb11 hEa hVa hWn ba hE hV v0 v1
                    generalize wc.heap.size = Wb at hVW hW11 HU ⊢
                    go_wp2_with fail
                    have hm1 : p ≤ (lv 0 ns gs).length := by
                      rcases HCS.out with ⟨e, _⟩ | ⟨e, _⟩ <;> omega
                    generalize hlm : (lv 0 ns gs).length = m at *
                    have HLM : Hid ((lv 0 ns gs).length = m) := hlm
                    clear hlm
                    go_loopg [5, 15] m (fun gj s5 s15 wr2 => ∃ (i : Nat) (ev q n : Int), gj + i = m ∧ s5 = .int .i64 ev ∧ s15 = .int .i64 i ∧ IdBox wr2 Wb q n ∧ Off (fun k => k = Wb) w11 wr2 ∧ Hid ((i ≤ p → ev = 5 ∧ q = 0 ∧ n = 0) ∧ (p < i → ev = 0 ∧ q = jq ∧ n = y1)))
                    case atStart => exact ⟨0, 5, 0, 0, by omega, rfl, rfl, hW11, Off.refl _ _, (show (0 ≤ p → (5 : Int) = 5 ∧ (0 : Int) = 0 ∧ (0 : Int) = 0) ∧ (p < 0 → _) from ⟨fun _ => ⟨rfl, rfl, rfl⟩, fun h => absurd h (Nat.not_lt_zero _)⟩)⟩
                    case round =>
                      obtain ⟨i, ev, q, n, hi, rfl, rfl, hW, hO, HQ⟩ := hrel
                      have HJ2 : Hid (gk + i = m) := hi
                      clear hi
                      have hVx := hV11.off hO (by omega)
                      have hEx := hE11.off (K := fun k => k = Wb) hO (fun k e => ⟨by omega, fun e' => by have := hVf.out k (.inl e'); omega, fun e' => by have := hVf.out k (.inr e'); omega⟩)
                      have x1 := hVx.c1
                      by_cases q1 : (i : Int) < (m : Int)
                      · obtain ⟨ku, rfl, hku, hkW, hcu⟩ := HU.out (by omega)
                        have hci := hcu i (by rw [HLM.out]; omega)
                        rw [Nat.zero_add] at hci
                        have u0 := hO.cell hci.1 (by show ¬ ku = Wb; omega)
                        have u1 := hO.cell hci.2 (by show ¬ ku = Wb; omega)
                        clear hci hcu
                        by_cases q2 : i = p
                        · have e := HP.out (by omega)
                          rw [← q2] at e
                          rw [e] at u0 u1
                          clear e
                          have u0 : wr.cell? ⟨ku, i * 2, none⟩ = some (.int .i64 jq) := u0
                          have u1 : wr.cell? ⟨ku, i * 2 + 1, none⟩ = some (.int .i64 y1) := u1
                          have hWs := fun nq => (hW.below (below_drewN (Below.refl wr.heap.size wr) nq)).set jq y1
                          have hOs := fun nq => (((hO.trans (Off.of_below (below_drewN (Below.refl wr.heap.size wr) nq))).setCell (a := ⟨Wb, 0, none⟩) rfl (.int .i64 jq)).setCell (a := ⟨Wb, 1, none⟩) rfl (.int .i64 y1))
                          have wb0 := hW.c0
                          have wb1 := hW.c1
                          have wf0 := hW.f0
                          have wf1 := hW.f1
                          have Q2 : Hid (i = p) := q2
                          clear q2
                          go_wp2_with fail
                          go_quiet (fail)
                          go_wp2_with fail
                          go_roundg (m - (i + 1))
                          case measure => have := HJ2.out; omega
                          case rel => exact ⟨i + 1, 0, jq, y1, by have := HJ2.out; omega, rfl, by go_num, hWs _, hOs _, (show (i + 1 ≤ p → _) ∧ (p < i + 1 → _) from ⟨fun e => by have := Q2.out; omega, fun _ => ⟨rfl, rfl, rfl⟩⟩)⟩
                        · have hne := HO.out i (by omega) q2
                          generalize at' (lv 0 ns gs) i = z at u0 u1 hne
                          have n1 : (z.2 == y1) = false := by simpa using hne
                          generalize z.2 = z2 at u1 n1 hne
                          have hWs := fun nq => hW.below (below_drewN (Below.refl wr.heap.size wr) nq)
                          have hOs := fun nq => hO.trans (Off.of_below (below_drewN (Below.refl wr.heap.size wr) nq))
                          have Q2 : Hid (i ≠ p) := q2
                          clear q2
                          go_wp2_with fail
                          go_quiet (fail)
                          go_wp2_with fail
                          go_roundg (m - (i + 1))
                          case measure => have := HJ2.out; omega
                          case rel => exact ⟨i + 1, ev, q, n, by have := HJ2.out; omega, rfl, by go_num, hWs _, hOs _, (show (i + 1 ≤ p → _) ∧ (p < i + 1 → _) from ⟨fun e => HQ.out.1 (by omega), fun e => HQ.out.2 (by have := Q2.out; omega)⟩)⟩
                      · rcases HCS.out with ⟨hp, _, j1, hjq, hj1, hin⟩ | ⟨hp, hmiss⟩
                        · obtain ⟨e1, e2, e3⟩ := HQ.out.2 (by omega)
                          subst e1
                          rw [e2, e3] at hW
                          clear e2 e3
                          subst hjq
                          go_wp2_with fail
                          refine (find_yes hEx.obj y1 hw1 j1 hj1 hin).mono ?_
                          rintro e w12 ⟨rfl, hb12⟩
                          have b12 : Below w12.heap.size w12 (w12.alloc (.cells #[.int .i64 (j1 : Int), .int .i64 y1] 29)) := (Below.refl _ _).alloc (Nat.le_refl _) _
                          have hE12 := (hEx.below hb12).below b12
                          have hA12 := (hW.below hb12).below b12
                          have hD12 := IdBox.new w12 (j1 : Int) y1 29
                          go_wp2_with fail
                          refine (same_nil 0 _).mono ?_
                          rintro e w13 ⟨rfl, hb13⟩
                          have hE13 := hE12.below hb13
                          have hA13 := hA12.below hb13
                          have hD13 := hD12.below hb13
                          have a0 := hA13.c0
                          have a1 := hA13.c1
                          have d0 := hD13.c0
                          have d1 := hD13.c1
                          go_wp2_with fail
                          go_meet
                          exact ⟨rfl, vs, va, vg, ns, gs, HL, hE13⟩
                        · obtain ⟨e1, e2, e3⟩ := HQ.out.1 (by have := HJ2.out; omega)
                          subst e1
                          rw [e2, e3] at hW
                          clear e2 e3
                          have hfc : Calls Tryd.prog 10 #[.pointer (some ⟨sb, 0, none⟩), .int .i64 y1] wr fun e w' => e = .returned (.tuple #[.agg #[.int .i64 0, .int .i64 0], .iface 48 (.int .i64 5)]) ∧ Below wr.heap.size wr w' := by
                            rcases hmiss with hm | ⟨j1, hj1, hin⟩
                            · exact find_no1 hEx.obj y1 hw1 hm
                            · exact find_no2 hEx.obj y1 hw1 j1 hj1 hin
                          go_wp2_with fail
                          refine hfc.mono ?_
                          rintro e w12 ⟨rfl, hb12⟩
                          have b12 : Below w12.heap.size w12 (w12.alloc (.cells #[.int .i64 0, .int .i64 0] 29)) := (Below.refl _ _).alloc (Nat.le_refl _) _
                          have hE12 := (hEx.below hb12).below b12
                          have hA12 := (hW.below hb12).below b12
                          have hD12 := IdBox.new w12 0 0 29
                          go_wp2_with fail
                          refine (same_err 5 5 _ (hH.below hE12.bel)).mono ?_
                          rintro e w13 ⟨rfl, hb13⟩
                          have hE13 := hE12.below hb13
                          have hA13 := hA12.below hb13
                          have hD13 := hD12.below hb13
                          have a0 := hA13.c0
                          have a1 := hA13.c1
                          have d0 := hD13.c0
                          have d1 := hD13.c1
                          go_wp2_with fail
                          go_meet
                          exact ⟨rfl, vs, va, vg, ns, gs, HL, hE13⟩
                  · cases hn : nameB y1 with
                    | false =>
                      go_wp2_with fail
                      refine (rissue_range hE.ref HL.out hmany y1 hn).mono ?_
                      rintro e w11 ⟨rfl, hb11⟩
                      have hE11 := (hE.below hb11).alloc (.cells #[.int .i64 0, .int .i64 0] 29)
                      have hV11 := (hV.below hb11).below ((Below.refl w11.heap.size w11).alloc (Nat.le_refl _) (.cells #[.int .i64 0, .int .i64 0] 29))
                      have hA11 := IdBox.new w11 0 0 29
                      have x11 := hV11.c1
                      go_wp2_with fail
                      refine (issue_range hE11.obj y1 hn).mono ?_
                      rintro e w12 ⟨rfl, hb12⟩
                      have b12 : Below w12.heap.size w12 (w12.alloc (.cells #[.int .i64 0, .int .i64 0] 29)) := (Below.refl _ _).alloc (Nat.le_refl _) _
                      have hE12 := (hE11.below hb12).below b12
                      have hA12 := (hA11.below hb12).below b12
                      have hD12 := IdBox.new w12 0 0 29
                      go_wp2_with fail
                      refine (same_err 1 1 _ (hH.below hE12.bel)).mono ?_
                      rintro e w13 ⟨rfl, hb13⟩
                      have hE13 := hE12.below hb13
                      have hA13 := hA12.below hb13
                      have hD13 := hD12.below hb13
                      have a0 := hA13.c0
                      have a1 := hA13.c1
                      have d0 := hD13.c0
                      have d1 := hD13.c1
                      go_wp2_with fail
                      go_meet
                      exact ⟨rfl, vs, va, vg, ns, gs, HL, hE13⟩
                    | true =>
                      by_cases hc : y1 ∈ ns
                      · skip
                        go_wp2_with fail
                        refine (rissue_clash hE.ref HL.out hmany y1 hn hc).mono ?_
                        rintro e w11 ⟨rfl, hb11⟩
                        have hE11 := (hE.below hb11).alloc (.cells #[.int .i64 0, .int .i64 0] 29)
                        have hV11 := (hV.below hb11).below ((Below.refl w11.heap.size w11).alloc (Nat.le_refl _) (.cells #[.int .i64 0, .int .i64 0] 29))
                        have hA11 := IdBox.new w11 0 0 29
                        have x11 := hV11.c1
                        go_wp2_with fail
                        refine (issue_clash hE11.obj y1 hn hc).mono ?_
                        rintro e w12 ⟨rfl, hb12⟩
                        have b12 : Below w12.heap.size w12 (w12.alloc (.cells #[.int .i64 0, .int .i64 0] 29)) := (Below.refl _ _).alloc (Nat.le_refl _) _
                        have hE12 := (hE11.below hb12).below b12
                        have hA12 := (hA11.below hb12).below b12
                        have hD12 := IdBox.new w12 0 0 29
                        go_wp2_with fail
                        refine (same_err 7 7 _ (hH.below hE12.bel)).mono ?_
                        rintro e w13 ⟨rfl, hb13⟩
                        have hE13 := hE12.below hb13
                        have hA13 := hA12.below hb13
                        have hD13 := hD12.below hb13
                        have a0 := hA13.c0
                        have a1 := hA13.c1
                        have d0 := hD13.c0
                        have d1 := hD13.c1
                        go_wp2_with fail
                        go_meet
                        exact ⟨rfl, vs, va, vg, ns, gs, HL, hE13⟩
                      · cases hf : fullB L ns (lv 0 ns gs) with
                        | true =>
                          go_wp2_with fail
                          refine (rissue_full hE.ref HL.out hmany y1 hn hc hf).mono ?_
                          rintro e w11 ⟨rfl, hb11⟩
                          have hE11 := (hE.below hb11).alloc (.cells #[.int .i64 0, .int .i64 0] 29)
                          have hV11 := (hV.below hb11).below ((Below.refl w11.heap.size w11).alloc (Nat.le_refl _) (.cells #[.int .i64 0, .int .i64 0] 29))
                          have hA11 := IdBox.new w11 0 0 29
                          have x11 := hV11.c1
                          go_wp2_with fail
                          refine (issue_full hE11.obj y1 hn hc hf).mono ?_
                          rintro e w12 ⟨rfl, hb12⟩
                          have b12 : Below w12.heap.size w12 (w12.alloc (.cells #[.int .i64 0, .int .i64 0] 29)) := (Below.refl _ _).alloc (Nat.le_refl _) _
                          have hE12 := (hE11.below hb12).below b12
                          have hA12 := (hA11.below hb12).below b12
                          have hD12 := IdBox.new w12 0 0 29
                          go_wp2_with fail
                          refine (same_err 4 4 _ (hH.below hE12.bel)).mono ?_
                          rintro e w13 ⟨rfl, hb13⟩
                          have hE13 := hE12.below hb13
                          have hA13 := hA12.below hb13
                          have hD13 := hD12.below hb13
                          have a0 := hA13.c0
                          have a1 := hA13.c1
                          have d0 := hD13.c0
                          have d1 := hD13.c1
                          go_wp2_with fail
                          go_meet
                          exact ⟨rfl, vs, va, vg, ns, gs, HL, hE13⟩
                        | false =>
                          go_wp2_with fail
                          refine (rissue_yes hE.ref HL.out hmany y1 hn hc hf).mono ?_
                          rintro e w11 ⟨rfl, va2, vg2, hR11, ho11, hnew11⟩
                          have hE10 := hE.refTurn hR11 ho11 hnew11
                          have hV10 := hV.off ho11 (fun e => by have := hVf.out _ (.inr e); omega)
                          have b11 : Below w11.heap.size w11 (w11.alloc (.cells #[.int .i64 (ns.length : Int), .int .i64 y1] 29)) := (Below.refl _ _).alloc (Nat.le_refl _) _
                          have hE11 := hE10.below b11
                          have hV11 := hV10.below b11
                          have hA11 := IdBox.new w11 (ns.length : Int) y1 29
                          have hAf : ∀ q, own sb bm vs q → q < w11.heap.size := fun q hq => hE10.obj.lt hq
                          have x11 := hV11.c1
                          go_wp2_with fail
                          refine (issue_yes hE11.obj y1 hn hc hf).mono ?_
                          rintro e w12 ⟨rfl, vs2, hO12, ho12, hv12⟩
                          have hE12a := hE11.objTurn hO12 ho12 hv12
                          have hA12a := hA11.off ho12 (fun e => by have := hAf _ e; omega)
                          have b12 : Below w12.heap.size w12 (w12.alloc (.cells #[.int .i64 (ns.length : Int), .int .i64 y1] 29)) := (Below.refl _ _).alloc (Nat.le_refl _) _
                          have hE12 := hE12a.below b12
                          have hA12 := hA12a.below b12
                          have hD12 := IdBox.new w12 (ns.length : Int) y1 29
                          go_wp2_with fail
                          refine (same_nil 0 _).mono ?_
                          rintro e w13 ⟨rfl, hb13⟩
                          have hE13 := hE12.below hb13
                          have hA13 := hA12.below hb13
                          have hD13 := hD12.below hb13
                          have a0 := hA13.c0
                          have a1 := hA13.c1
                          have d0 := hD13.c0
                          have d1 := hD13.c1
                          go_wp2_with fail
                          go_meet
                          exact ⟨rfl, vs2, va2, vg2, ns ++ [y1], gs ++ [false], snoc_length HL.out, by rw [← lv_more HL.out]; exact hE13⟩
              case rest =>
                obtain ⟨rfl, vs2, va2, vg2, ns2, gs2, HL2, hE2⟩ := hcut
                clear hE hV v0 v1
                have hm2 : ns2.length ≤ 100 := hE2.obj.inv.many
                have hml : (lv 0 ns2 gs2).length ≤ 100 := Nat.le_trans (lv_le ns2 gs2 0) hm2
                go_wp2_with fail
                refine (live_calls hE2.obj).mono ?_
                rintro e w11 ⟨u1, rfl, hu1, hb11⟩
                have hE3 := hE2.below hb11
                go_wp2_with fail
                refine (rlive_calls hE3.ref HL2.out hm2).mono ?_
                rintro e w12 ⟨u2, rfl, hu2, hb12⟩
                have hE4 := hE3.below hb12
                go_wp2_with fail
                refine (sameI_calls (own_below hu1 hb12) hu2 hml).mono ?_
                rintro e w13 ⟨rfl, hb13⟩
                have hE5 := hE4.below hb13
                go_wp2_with fail
                go_roundg (150 - (k + 1))
                case measure => have := HK.out; omega
                case rel => exact ⟨k + 1, vs2, va2, vg2, ns2, gs2, by have := HK.out; omega, by go_num, HL2, hE5⟩
      · go_wp2_with fail
        go_ret
        exact ⟨rfl, hE.bel⟩
    · go_wp2_with fail
      go_ret
      exact ⟨rfl, hE.bel⟩
theorem play_walk (n : Int) {v : Value} {w : World} (hv : StepsArg w v) (hH : Handle w) : Calls Tryd.prog 5 #[.int .i64 n, v] w fun e w' => e = .returned (.bool true) ∧ Below w.heap.size w w' := by
  obtain ⟨ao, len, c, rfl, hS⟩ := hv
  cases h : limitB n with
  | true => exact play_yes n ao len c w hH h hS
  | false =>
    rcases limitB_no h with g | g
    · exact play_no1 n ao len c w hH h g
    · exact play_no2 n ao len c w hH h g
end Go.Proofs.YtlmllfakoglbcaaDoor
