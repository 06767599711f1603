/- The walk of the law PathThrice. -/
import Derived.Test.YtjjfeffmmkoooaaDoorS
namespace Go.Proofs.YtjjfeffmmkoooaaDoor
open Go.RowKit Go.Lib Go.Sort
set_option linter.unusedVariables false
set_option linter.unusedSimpArgs false

set_option maxRecDepth 100000 in
set_option maxHeartbeats 2000000 in
theorem thrice_nil (a : Option Addr) (c : Nat) (w : World) : Calls Tryd.prog 4 #[.slice a 0 c] w fun e w' => e = .returned (.bool true) ∧ Below w.heap.size w w' := by
  go_enter Tryd.func4, Tryd.ntmps4
  go_wp2_with fail
  refine (room_fact _).mono ?_
  rintro e w1 ⟨rfl, hb1⟩
  go_wp2_with fail
  go_loopg [6] 0 (fun gk s6 wr => s6 = .int .i64 0 ∧ Below w.heap.size w wr)
  case atStart => exact ⟨rfl, hb1.alloc hb1.size _⟩
  case round =>
    obtain ⟨rfl, hB⟩ := hrel
    go_wp2_with fail
    go_ret
    exact ⟨rfl, hB⟩

set_option maxRecDepth 100000 in
set_option maxHeartbeats 4000000 in
theorem thrice_yes (b off len c : Nat) (zs : List Int) (w : World) (hH : Handle w) (hl : len ≤ 9223372036854775807) (hb : b < w.heap.size) (hz : zs.length = len) (hc : ICells w b off zs) :
    Calls Tryd.prog 4 #[.slice (some ⟨b, off, none⟩) len c] w fun e w' => e = .returned (.bool true) ∧ Below w.heap.size w w' := by
  have HZ : Hid (zs.length = len) := hz
  have HC : Hid (ICells w b off zs) := hc
  clear hz hc
  go_enter Tryd.func4, Tryd.ntmps4
  go_wp2_with fail
  refine (room_fact _).mono ?_
  rintro e w1 ⟨rfl, hb1⟩
  go_wp2_with fail
  have hB0 : Below w.heap.size w (w1.alloc (.cells #[.int .i64 0, .int .i64 0, .bool false] 23)) := hb1.alloc hb1.size _
  have hX0 : Box (w1.alloc (.cells #[.int .i64 0, .int .i64 0, .bool false] 23)) w1.heap.size 0 0 false := Box.new w1 0 0 false
  have hle := hb1.size
  generalize w1.heap.size = P at hX0 hle ⊢
  generalize w1.alloc (.cells #[.int .i64 0, .int .i64 0, .bool false] 23) = W0 at hB0 hX0 ⊢
  clear hb1
  go_loopg [6] 80 (fun gk s6 wr => ∃ (j : Nat) (i o : Int), gk + j = 80 ∧ s6 = .int .i64 j ∧ Hid (flt i o false = 0 ∧ i ≤ 200 * j) ∧ Box wr P i o false ∧ Below w.heap.size w wr)
  case atStart => exact ⟨0, 0, 0, rfl, rfl, ⟨rfl, by omega⟩, hX0, hB0⟩
  case round =>
    clear hB0 hX0
    obtain ⟨j, i, o, hk1, rfl, hF, hX, hB⟩ := hrel
    have HK : Hid (gk + j = 80) := hk1
    clear hk1
    by_cases g1 : (j : Int) < (len : Int)
    · by_cases g2 : (j : Int) < 80
      · have ck0 : w.cell? ⟨b, off + j, none⟩ = some (.int .i64 (iat zs j)) := HC.out j (by have := HZ.out; omega)
        generalize iat zs j = n at ck0
        obtain ⟨r0, r1, rs, r8, rr⟩ := room_facts hF.out.1 (by have := hF.out.2; omega)
        have ho := byB_yes (flt_zero hF.out.1).2.1
        have hbd := (flt_zero hF.out.1).2.2
        have hob : 0 ≤ o ∧ o ≤ 48000 := by have := bnd_three i; have := hF.out.2; omega
        obtain ⟨o0, o1⟩ := hob
        clear ho hbd
        have RM : ∀ w, Calls Tryd.prog 13 #[path i o false] w fun e w' => e = .returned (.tuple #[.int .i64 (rm i o false), .nilIface]) ∧ Below w.heap.size w w' := fun w => room_ok i o false w hF.out.1
        have S1 := fun w => send_room rs w
        generalize rm i o false = r at r0 r1 rs r8 rr RM S1
        obtain ⟨f, hf8, hf0, S2⟩ : ∃ f : Int, Hid (r < 200 → f = 8) ∧ f ≠ 0 ∧ ∀ w, Calls Tryd.prog 12 #[path i o false, .int .i64 (r + 1)] w fun e w' => e = .returned (.tuple #[path 0 0 false, .iface 41 (.int .i64 f)]) ∧ Below w.heap.size w w' := by
          by_cases hr : r < 200
          · exact ⟨8, fun _ => rfl, by omega, fun w => send_as (r8 hr) (by omega) w⟩
          · exact ⟨1, fun h => absurd h hr, by omega, fun w => send_as (rr hr) (by omega) w⟩
        clear rs r8 rr
        obtain ⟨pl, p0, p1, p2, pf0, pf1, pf2⟩ := id hX
        go_wp2_with fail
        clear pl p0 p1 p2 pf0 pf1 pf2
        refine (RM _).mono ?_
        rintro e w2 ⟨rfl, hb2⟩
        have hX := hX.below hb2
        have hB := hB.trans (hb2.mono hB.size)
        clear hb2
        obtain ⟨pl, p0, p1, p2, pf0, pf1, pf2⟩ := id hX
        go_wp2_with fail
        clear pl p0 p1 p2 pf0 pf1 pf2
        refine (S1 _).mono ?_
        rintro e w3 ⟨rfl, hb3⟩
        have hD := duo_start hX hB hle hb3 i (o + r) false
        unfold put at hD
        clear hb3
        obtain ⟨⟨pl, p0, p1, p2, pf0, pf1, pf2⟩, ⟨ql, q0, q1, q2, qf0, qf1, qf2⟩, dbel, dleP, dleQ, dne, dne'⟩ := id hD
        go_wp2_with fail
        clear pl p0 p1 p2 pf0 pf1 pf2 ql q0 q1 q2 qf0 qf1 qf2 dbel dleP dleQ dne dne'
        generalize w3.heap.size = Q at hD ⊢
        generalize w3.alloc (.cells #[.int .i64 i, .int .i64 (o + r), .bool false] 23) = W3 at hD ⊢
        refine (S2 _).mono ?_
        rintro e w4 ⟨rfl, hb4⟩
        have hD := (hD.below hb4).below (below_put w4 0 0 false)
        unfold put at hD
        clear hb4
        obtain ⟨⟨pl, p0, p1, p2, pf0, pf1, pf2⟩, ⟨ql, q0, q1, q2, qf0, qf1, qf2⟩, dbel, dleP, dleQ, dne, dne'⟩ := id hD
        go_upto_region 13 with fail
        clear pl p0 p1 p2 pf0 pf1 pf2 ql q0 q1 q2 qf0 qf1 qf2 dbel dleP dleQ dne dne'
        generalize w4.heap.size = R at ⊢
        generalize w4.alloc (.cells #[.int .i64 0, .int .i64 0, .bool false] 23) = W4 at hD ⊢
        go_cut [86] (fun s86 wx => s86 = .bool false ∧ Duo w wx P Q i o i (o + r) false)
        case first =>
          by_cases g3 : r < 200
          · obtain rfl := hf8.out g3
            obtain ⟨⟨pl, p0, p1, p2, pf0, pf1, pf2⟩, ⟨ql, q0, q1, q2, qf0, qf1, qf2⟩, dbel, dleP, dleQ, dne, dne'⟩ := id hD
            go_wp2_with fail
            clear pl p0 p1 p2 pf0 pf1 pf2 ql q0 q1 q2 qf0 qf1 qf2 dbel dleP dleQ dne dne'
            refine (same_err 8 8 _ (hH.below hD.bel)).mono ?_
            rintro e w5 ⟨rfl, hb5⟩
            have hD := hD.below hb5
            obtain ⟨⟨pl, p0, p1, p2, pf0, pf1, pf2⟩, ⟨ql, q0, q1, q2, qf0, qf1, qf2⟩, dbel, dleP, dleQ, dne, dne'⟩ := id hD
            go_wp2_with fail
            go_meet
            exact ⟨by simp, hD⟩
          · obtain ⟨⟨pl, p0, p1, p2, pf0, pf1, pf2⟩, ⟨ql, q0, q1, q2, qf0, qf1, qf2⟩, dbel, dleP, dleQ, dne, dne'⟩ := id hD
            go_wp2_with fail
            go_meet
            exact ⟨by simp, hD⟩
        case rest =>
        obtain ⟨rfl, hD⟩ := hcut
        have ck1 := (hD.bel.cell (p := ⟨b, off + j, none⟩) hb).trans ck0
        have hbc : b < wc.heap.size := Nat.lt_of_lt_of_le hb hD.bel.size
        obtain ⟨⟨pl, p0, p1, p2, pf0, pf1, pf2⟩, ⟨ql, q0, q1, q2, qf0, qf1, qf2⟩, dbel, dleP, dleQ, dne, dne'⟩ := id hD
        go_upto_if 91 with fail
        go_cut [13] (fun s13 wx => ∃ (a' b' : Int) (c' : Bool), Duo w wx P Q i o a' b' c' ∧ Hid (Stp s13 j a' b' c'))
        case first =>
          by_cases g4 : n < 0
          · go_wp2_with fail
            go_region_with (go_at_call 12; refine (send_calls i o false _ _).mono ?_; rintro e w5 ⟨rfl, hb5⟩; have hz := hD.below (Below.of_drew hb5); obtain ⟨⟨pl', p0', p1', p2', pf0', pf1', pf2'⟩, ⟨ql', q0', q1', q2', qf0', qf1', qf2'⟩, _⟩ := id hz)
            all_goals (try go_wp2_with fail)
            all_goals go_meet
            all_goals exact ⟨_, _, _, by first | exact hz.setQ _ _ _ | exact (hz.setQ _ _ _).drew, stp_send hF.out.2 _⟩
          · go_wp2_with fail
            go_region_with (go_at_call 10; refine (came_calls i o false _ _).mono ?_; rintro e w5 ⟨rfl, hb5⟩; have hz := hD.below (Below.of_drew hb5); obtain ⟨⟨pl', p0', p1', p2', pf0', pf1', pf2'⟩, ⟨ql', q0', q1', q2', qf0', qf1', qf2'⟩, _⟩ := id hz)
            all_goals (try go_wp2_with fail)
            all_goals go_meet
            all_goals exact ⟨_, _, _, by first | exact hz.setQ _ _ _ | exact (hz.setQ _ _ _).drew, stp_came hF.out.2 _⟩
        case rest =>
        clear pl p0 p1 p2 pf0 pf1 pf2 ql q0 q1 q2 qf0 qf1 qf2 dbel dleP dleQ dne dne' ck1 hbc hD
        obtain ⟨a', b', c', hD, hS⟩ := hcut
        rcases hS.out with ⟨rfl, e1, e2, rfl⟩ | ⟨f', rfl⟩
        · have HE : Hid (flt a' b' false = 0) := e1
          have ha := byB_yes (flt_zero e1).1
          have hb' := byB_yes (flt_zero e1).2.1
          have ht : b' ≤ 3 * a' := by have := (flt_zero e1).2.2; have := bnd_three a'; omega
          have hX6 := hD.p.set a' b' false
          have hB6 := below_set3 hD.bel hD.leP a' b' false
          obtain ⟨⟨pl, p0, p1, p2, pf0, pf1, pf2⟩, ⟨ql, q0, q1, q2, qf0, qf1, qf2⟩, dbel, dleP, dleQ, dne, dne'⟩ := id hD
          obtain ⟨tl, t0, t1, t2, tf0, tf1, tf2⟩ := id hX6
          clear hS e1
          go_wp2_with fail
          refine (check_ok a' b' false _ HE.out).mono ?_
          rintro e w7 ⟨rfl, hb7⟩
          have hX7 := hX6.below hb7
          have hB7 := hB6.trans (hb7.mono hB6.size)
          go_wp2_with fail
          go_roundg (gk - 1)
          case measure => have := HK.out; omega
          case rel => exact ⟨j + 1, a', b', by have := HK.out; omega, by go_num, ⟨HE.out, by omega⟩, hX7, hB7⟩
        · go_wp2_with fail
          go_roundg (gk - 1)
          case measure => have := HK.out; omega
          case rel => exact ⟨j + 1, i, o, by have := HK.out; omega, by go_num, ⟨hF.out.1, by have := hF.out.2; omega⟩, hD.p, hD.bel⟩
      · go_wp2_with fail
        go_ret
        exact ⟨rfl, hB⟩
    · go_wp2_with fail
      go_ret
      exact ⟨rfl, hB⟩
theorem thrice_walk {v : Value} {zs : List Int} {w : World} (h : Ints w v zs) (hH : Handle w) : Calls Tryd.prog 4 #[v] w fun e w' => e = .returned (.bool true) ∧ Below w.heap.size w w' := by
  obtain ⟨a, c, rfl, m, k⟩ := h
  rcases k with rfl | ⟨b, off, rfl, hb, hc⟩
  · exact thrice_nil a c w
  · exact thrice_yes b off zs.length c zs w hH m hb rfl hc
end Go.Proofs.YtjjfeffmmkoooaaDoor
