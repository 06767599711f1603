/- A slice of integers as it lies in memory; the walk of the law WindowHalf. -/
import Derived.Test.YtaiapmibpogoeaaD
import Derived.Deep.LoopGhost
import Derived.Deep.DeepCutAuto
namespace Go.Proofs.Ytaiapmibpogoeaa
open Go.RowKit Go.Lib Go.Sort
set_option linter.unusedVariables false
set_option linter.unusedSimpArgs false

def iat (zs : List Int) (j : Nat) : Int := zs[j]?.getD 0
def ICells (w : World) (b off : Nat) (zs : List Int) : Prop := ∀ j, j < zs.length → w.cell? ⟨b, off + j, none⟩ = some (.int .i64 (iat zs j))
/-- The slice's value v holds the integers zs in the world w. -/
def Ints (w : World) (v : Value) (zs : List Int) : Prop := ∃ ao c, v = .slice ao zs.length c ∧ zs.length ≤ 9223372036854775807 ∧ (zs = [] ∨ ∃ b off, ao = some ⟨b, off, none⟩ ∧ b < w.heap.size ∧ ICells w b off zs)
theorem ICells.below {w w' : World} {b off : Nat} {zs : List Int} (h : ICells w b off zs) (hb : b < w.heap.size) (bel : Below w.heap.size w w') : ICells w' b off zs := fun j hj =>
  (bel.cell (p := ⟨b, off + j, none⟩) hb).trans (h j hj)


theorem lost_fact (w : World) : Calls Try.prog 5 #[win 1000 2000 100, .int .i64 100] w fun e w' => e = .returned (.tuple #[win 500 500 0, .nilIface]) ∧ Below w.heap.size w w' := lost_ok 1000 2000 100 100 w (by decide) (by decide)
/-- What a step leaves: a window that is right, and how it is to be; or an error. -/
def Stp (v : Value) (k a d y n a' d' y' : Int) : Prop := (v = .nilIface ∧ wB a' d' y' = true ∧ (k = 1 → a ≤ a' ∧ d' = d ∧ y' = y - n) ∧ (k = 2 → a' ≤ a ∧ d' = a' ∧ y' = y - n) ∧ (k ≠ 1 → k ≠ 2 → y' ≤ a' ∧ a' = a ∧ y' = y + n)) ∨ ∃ f : Int, v = .iface 34 (.int .i64 f)
theorem stp_send (k a d y n : Int) (h1 : k ≠ 1) (h2 : k ≠ 2) : Stp (errV (sendF a d y n)) k a d y n (ifz (sendF a d y n) a) (ifz (sendF a d y n) d) (ifz (sendF a d y n) (y + n)) := by
  by_cases h : sendF a d y n = 0
  · obtain ⟨hb, hs⟩ := sendF_zero h
    obtain ⟨⟨s0, s1⟩, ⟨l0, l1⟩, y0, y1⟩ := wB_bd (bB_yes hb).1
    obtain ⟨n0, n1⟩ := pkB_yes (bB_yes hb).2
    simp only [h, errV_0, ifz_0]
    exact .inl ⟨rfl, wB_of ⟨s0, s1⟩ ⟨l0, l1⟩ ⟨by omega, by omega⟩, fun e => absurd e h1, fun e => absurd e h2, fun _ _ => ⟨hs, rfl, rfl⟩⟩
  · exact .inr ⟨_, errV_f h⟩
theorem stp_came (a d y n : Int) : Stp (errV (offF a d y n)) 1 a d y n (ifz (offF a d y n) (cameS a d n)) (ifz (offF a d y n) d) (ifz (offF a d y n) (y - n)) := by
  by_cases h : offF a d y n = 0
  · obtain ⟨hb, hs⟩ := offF_zero h
    obtain ⟨⟨s0, s1⟩, ⟨l0, l1⟩, y0, y1⟩ := wB_bd (bB_yes hb).1
    obtain ⟨n0, n1⟩ := pkB_yes (bB_yes hb).2
    obtain ⟨c0, c1⟩ := cameS_bd (l := d) s0 s1 n0 n1
    simp only [h, errV_0, ifz_0]
    exact .inl ⟨rfl, wB_of ⟨by omega, c1⟩ ⟨l0, l1⟩ ⟨by omega, by omega⟩, fun _ => ⟨c0, rfl, rfl⟩, fun e => by omega, fun e => absurd rfl e⟩
  · exact .inr ⟨_, errV_f h⟩
theorem stp_lost (a d y n : Int) : Stp (errV (offF a d y n)) 2 a d y n (ifz (offF a d y n) (lostS a)) (ifz (offF a d y n) (lostS a)) (ifz (offF a d y n) (y - n)) := by
  by_cases h : offF a d y n = 0
  · obtain ⟨hb, hs⟩ := offF_zero h
    obtain ⟨⟨s0, s1⟩, ⟨l0, l1⟩, y0, y1⟩ := wB_bd (bB_yes hb).1
    obtain ⟨n0, n1⟩ := pkB_yes (bB_yes hb).2
    obtain ⟨c0, c1⟩ := lostS_bd s0
    simp only [h, errV_0, ifz_0]
    exact .inl ⟨rfl, wB_of ⟨c0, by omega⟩ ⟨c0, by omega⟩ ⟨by omega, by omega⟩, fun e => by omega, fun _ => ⟨c1, rfl, rfl⟩, fun _ e => absurd rfl e⟩
  · exact .inr ⟨_, errV_f h⟩
theorem duo_start {w W w2 : World} {P : Nat} {s l y : Int} (hX : Box W P s l y) (hB : Below w.heap.size w W) (hle : w.heap.size ≤ P) (hb : Below W.heap.size W w2) (a b c : Int) : Pair w (put w2 a b c) P w2.heap.size s l y a b c := by
  have h2 := hX.below hb
  have b2 := hB.trans (hb.mono hB.size)
  exact ⟨h2.below (below_put _ _ _ _), Box.new _ _ _ _, b2.trans ((below_put _ _ _ _).mono b2.size), hle, b2.size, by have := h2.lt; omega, by have := h2.lt; omega⟩

set_option maxRecDepth 100000 in
set_option maxHeartbeats 2000000 in
theorem half_wrong (s l y : Int) (v : Option Addr) (len c : Nat) (w : World) (h : wB s l y = false) : Calls Try.prog 3 #[win s l y, .slice v len c] w fun e w' => e = .returned (.bool true) ∧ Below w.heap.size w w' := by
  go_enter Try.func3, Try.ntmps3
  go_wp2_with fail
  have hX := Box.new w s l y
  have hB := below_put w s l y
  have hle : w.heap.size ≤ w.heap.size := Nat.le_refl _
  unfold put at hX hB
  generalize hPE : w.heap.size = P at hX hB hle ⊢
  generalize hN : w.alloc (.cells #[.int .i64 s, .int .i64 l, .int .i64 y] 23) = W0 at hX hB ⊢
  clear hN
  refine (lost_fact _).mono ?_
  rintro e w1 ⟨rfl, hb1⟩
  have hX := (hX.below hb1).below (below_put w1 500 500 0)
  have hB1 := hB.trans (hb1.mono (hPE ▸ hB.size))
  have hB := hB1.trans ((below_put w1 500 500 0).mono (hPE ▸ hB1.size))
  clear hB1 hb1
  unfold put at hX hB
  obtain ⟨pl, p0, p1, p2, pf0, pf1, pf2⟩ := id hX
  go_wp2_with fail
  clear pl p0 p1 p2 pf0 pf1 pf2
  generalize w1.heap.size = F
  generalize w1.alloc (.cells #[.int .i64 500, .int .i64 500, .int .i64 0] 23) = W1 at hX hB ⊢
  refine (check_no s l y _ h).mono ?_
  rintro e w2 ⟨rfl, hb2⟩
  go_wp2_with fail
  go_ret
  exact ⟨rfl, by subst hPE; exact hB.trans (hb2.mono hB.size)⟩
set_option maxRecDepth 100000 in
set_option maxHeartbeats 2000000 in
theorem half_yes (s l y : Int) (b off len c : Nat) (zs : List Int) (w : World) (h : wB s l y = true) (hl : len ≤ 9223372036854775807) (hb : b < w.heap.size) (hz : zs.length = len) (hc : ICells w b off zs) :
    Calls Try.prog 3 #[win s l y, .slice (some ⟨b, off, none⟩) len c] w fun e w' => e = .returned (.bool true) ∧ Below w.heap.size w w' := by
  have HZ : Hid (zs.length = len) := hz
  have HC : Hid (ICells w b off zs) := hc
  clear hz hc
  go_enter Try.func3, Try.ntmps3
  go_wp2_with fail
  have hX := Box.new w s l y
  have hB := below_put w s l y
  have hle : w.heap.size ≤ w.heap.size := Nat.le_refl _
  unfold put at hX hB
  generalize hPE : w.heap.size = P at hX hB hle ⊢
  generalize hN : w.alloc (.cells #[.int .i64 s, .int .i64 l, .int .i64 y] 23) = W0 at hX hB ⊢
  clear hN
  refine (lost_fact _).mono ?_
  rintro e w1 ⟨rfl, hb1⟩
  have hX := (hX.below hb1).below (below_put w1 500 500 0)
  have hB1 := hB.trans (hb1.mono (hPE ▸ hB.size))
  have hB := hB1.trans ((below_put w1 500 500 0).mono (hPE ▸ hB1.size))
  clear hB1 hb1
  unfold put at hX hB
  obtain ⟨pl, p0, p1, p2, pf0, pf1, pf2⟩ := id hX
  go_wp2_with fail
  clear pl p0 p1 p2 pf0 pf1 pf2
  generalize w1.heap.size = F
  generalize w1.alloc (.cells #[.int .i64 500, .int .i64 500, .int .i64 0] 23) = W1 at hX hB ⊢
  refine (check_ok s l y _ h).mono ?_
  rintro e w2 ⟨rfl, hb2⟩
  have hX := hX.below hb2
  have hB : Below w.heap.size w w2 := by subst hPE; exact hB.trans (hb2.mono hB.size)
  have hle : w.heap.size ≤ P := by omega
  clear hPE hb2
  obtain ⟨pl, p0, p1, p2, pf0, pf1, pf2⟩ := id hX
  go_wp2_with fail
  clear pl p0 p1 p2 pf0 pf1 pf2
  go_loopg [7, 8] 80 (fun gk s7 s8 wr => ∃ (j : Nat) (a d y : Int), gk + j = 80 ∧ s7 = .int .i64 y ∧ s8 = .int .i64 j ∧ Hid (wB a d y = true) ∧ Box wr P a d y ∧ Below w.heap.size w wr)
  case atStart => exact ⟨0, s, l, y, rfl, rfl, rfl, h, hX, hB⟩
  case round =>
    clear hB hX h
    obtain ⟨j, a, d, y, hk1, rfl, rfl, hF, hX, hB⟩ := hrel
    have HK : Hid (gk + j = 80) := hk1
    clear hk1
    by_cases g1 : (j : Int) < (len : Int)
    · by_cases g2 : (j : Int) < 80
      · have ck0 : w.cell? ⟨b, off + j, none⟩ = some (.int .i64 (iat zs j)) := HC.out j (by have := HZ.out; omega)
        have ck1 := (hB.cell (p := ⟨b, off + j, none⟩) hb).trans ck0
        have hbc : b < wr.heap.size := Nat.lt_of_lt_of_le hb hB.size
        generalize iat zs j = z at ck0 ck1
        go_upto_region 12 with fail
        clear ck0 ck1 hbc
        generalize z.tmod 3 = k
        generalize wrap64 (z.tdiv 3) = n
        obtain ⟨pl, p0, p1, p2, pf0, pf1, pf2⟩ := id hX
        go_wp2_with fail
        clear pl p0 p1 p2 pf0 pf1 pf2
        have hS : Hid (k ≠ 1 → k ≠ 2 → Stp (errV (sendF a d y n)) k a d y n (ifz (sendF a d y n) a) (ifz (sendF a d y n) d) (ifz (sendF a d y n) (y + n))) := fun h1 h2 => stp_send k a d y n h1 h2
        have SC := fun w => send_calls a d y n w
        unfold sendP at SC
        generalize errV (sendF a d y n) = v at hS SC
        generalize ifz (sendF a d y n) a = a1 at hS SC
        generalize ifz (sendF a d y n) d = d1 at hS SC
        generalize ifz (sendF a d y n) (y + n) = y1 at hS SC
        refine (SC _).mono ?_
        rintro e w3 ⟨rfl, hb3⟩
        clear SC
        have hD := duo_start hX hB hle hb3 a1 d1 y1
        unfold put at hD
        clear hb3 hX hB
        go_upto_if 67 with fail
        generalize w3.heap.size = Q at hD ⊢
        generalize w3.alloc (.cells #[.int .i64 a1, .int .i64 d1, .int .i64 y1] 23) = W3 at hD ⊢
        go_cut [12] (fun s12 wx => ∃ (a' b' c' : Int), Pair w wx P Q a d y a' b' c' ∧ Hid (Stp s12 k a d y n a' b' c'))
        case first =>
          by_cases k1 : k = 1
          · subst k1
            obtain ⟨⟨pl, p0, p1, p2, pf0, pf1, pf2⟩, ⟨ql, q0, q1, q2, qf0, qf1, qf2⟩, dbel, dleP, dleQ, dne, dne'⟩ := id hD
            go_wp2_with fail
            refine (came_calls a d y n _).mono ?_
            rintro e w4 ⟨rfl, hb4⟩
            have hE := hD.below hb4
            clear hb4 hD pl p0 p1 p2 pf0 pf1 pf2 ql q0 q1 q2 qf0 qf1 qf2 dbel dleP dleQ dne dne'
            have hD := hE
            clear hE
            have hE := hD.setQ (ifz (offF a d y n) (cameS a d n)) (ifz (offF a d y n) d) (ifz (offF a d y n) (y - n))
            obtain ⟨⟨pl, p0, p1, p2, pf0, pf1, pf2⟩, ⟨ql, q0, q1, q2, qf0, qf1, qf2⟩, dbel, dleP, dleQ, dne, dne'⟩ := id hD
            go_wp2_with fail
            go_meet
            exact ⟨_, _, _, hE, stp_came a d y n⟩
          · by_cases k2 : k = 2
            · subst k2
              obtain ⟨⟨pl, p0, p1, p2, pf0, pf1, pf2⟩, ⟨ql, q0, q1, q2, qf0, qf1, qf2⟩, dbel, dleP, dleQ, dne, dne'⟩ := id hD
              go_wp2_with fail
              refine (lost_calls a d y n _).mono ?_
              rintro e w4 ⟨rfl, hb4⟩
              have hE := hD.below hb4
              clear hb4 hD pl p0 p1 p2 pf0 pf1 pf2 ql q0 q1 q2 qf0 qf1 qf2 dbel dleP dleQ dne dne'
              have hD := hE
              clear hE
              have hE := hD.setQ (ifz (offF a d y n) (lostS a)) (ifz (offF a d y n) (lostS a)) (ifz (offF a d y n) (y - n))
              obtain ⟨⟨pl, p0, p1, p2, pf0, pf1, pf2⟩, ⟨ql, q0, q1, q2, qf0, qf1, qf2⟩, dbel, dleP, dleQ, dne, dne'⟩ := id hD
              go_wp2_with fail
              go_meet
              exact ⟨_, _, _, hE, stp_lost a d y n⟩
            · go_wp2_with fail
              go_meet
              exact ⟨_, _, _, hD, hS.out k1 k2⟩
        case rest =>
        clear hD hS
        obtain ⟨a', d', y', hD, hS⟩ := hcut
        rcases hS.out with ⟨rfl, e1, e2, e3, e4⟩ | ⟨f', rfl⟩
        · have HE : Hid (wB a' d' y' = true) := e1
          obtain ⟨⟨b0, b1⟩, ⟨b2, b3⟩, b4, b5⟩ := wB_bd e1
          obtain ⟨⟨c0, c1⟩, ⟨c2, c3⟩, c4, c5⟩ := wB_bd hF.out
          clear hS e1
          go_upto_if 85 with fail
          go_cut [7] (fun s7 wx => s7 = .int .i64 y' ∧ wx = wc)
          case first =>
            obtain ⟨⟨pl, p0, p1, p2, pf0, pf1, pf2⟩, ⟨ql, q0, q1, q2, qf0, qf1, qf2⟩, dbel, dleP, dleQ, dne, dne'⟩ := id hD
            by_cases k1 : k = 1
            · obtain ⟨m1, rfl, rfl⟩ := e2 k1
              subst k1
              clear e2 e3 e4
              go_wp2_with fail
              go_meet
              exact ⟨by go_num, rfl⟩
            · by_cases k2 : k = 2
              · obtain ⟨m1, rfl, rfl⟩ := e3 k2
                subst k2
                clear e2 e3 e4
                go_wp2_with fail
                go_meet
                exact ⟨by go_num, rfl⟩
              · obtain ⟨m1, rfl, rfl⟩ := e4 k1 k2
                clear e2 e3 e4
                go_wp2_with fail
                go_meet
                exact ⟨by go_num, rfl⟩
          case rest =>
          obtain ⟨rfl, hwE⟩ := hcut
          rw [hwE]
          clear hwE e2 e3 e4
          obtain ⟨⟨pl, p0, p1, p2, pf0, pf1, pf2⟩, ⟨ql, q0, q1, q2, qf0, qf1, qf2⟩, dbel, dleP, dleQ, dne, dne'⟩ := id hD
          have dq : decide (a' < 400) = false := decide_eq_false (by omega)
          go_wp2_with fail
          go_cut [147] (fun s wx => s = .bool false ∧ Pair w wx P Q a d y a' d' y')
          case first =>
            go_region_with (first | (go_at_call 9; refine (least_calls _).mono ?_; rintro e w7 ⟨rfl, rfl⟩) | (go_at_call 6; refine (check_ok a' d' y' _ HE.out).mono ?_; rintro e w8 ⟨rfl, hb8⟩; have hz := hD.below (Below.of_drew hb8); obtain ⟨⟨pl', p0', p1', p2', pf0', pf1', pf2'⟩, ⟨ql', q0', q1', q2', qf0', qf1', qf2'⟩, _⟩ := id hz))
            all_goals (try go_wp2_with fail)
            all_goals go_meet
            all_goals exact ⟨by simp <;> omega, by first | exact hz | exact hz.drew⟩
          case rest =>
          clear pl p0 p1 p2 pf0 pf1 pf2 ql q0 q1 q2 qf0 qf1 qf2 dbel dleP dleQ dne dne' hD
          obtain ⟨rfl, hD⟩ := hcut
          have hX6 := hD.p.set a' d' y'
          have hB6 := below_set3 hD.bel hD.leP a' d' y'
          obtain ⟨⟨pl, p0, p1, p2, pf0, pf1, pf2⟩, ⟨ql, q0, q1, q2, qf0, qf1, qf2⟩, dbel, dleP, dleQ, dne, dne'⟩ := id hD
          go_wp2_with fail
          go_roundg (gk - 1)
          case measure => have := HK.out; omega
          case rel => exact ⟨j + 1, a', d', y', by have := HK.out; omega, rfl, by go_num, HE.out, hX6, hB6⟩
        · go_wp2_with fail
          go_roundg (gk - 1)
          case measure => have := HK.out; omega
          case rel => exact ⟨j + 1, a, d, y, by have := HK.out; omega, rfl, by go_num, hF.out, hD.p, hD.bel⟩
      · go_wp2_with fail
        go_ret
        exact ⟨rfl, hB⟩
    · go_wp2_with fail
      go_ret
      exact ⟨rfl, hB⟩
set_option maxRecDepth 100000 in
set_option maxHeartbeats 2000000 in
theorem half_nil (s l y : Int) (v : Option Addr) (c : Nat) (w : World) (h : wB s l y = true) : Calls Try.prog 3 #[win s l y, .slice v 0 c] w fun e w' => e = .returned (.bool true) ∧ Below w.heap.size w w' := by
  go_enter Try.func3, Try.ntmps3
  go_wp2_with fail
  have hX := Box.new w s l y
  have hB := below_put w s l y
  have hle : w.heap.size ≤ w.heap.size := Nat.le_refl _
  unfold put at hX hB
  generalize hPE : w.heap.size = P at hX hB hle ⊢
  generalize hN : w.alloc (.cells #[.int .i64 s, .int .i64 l, .int .i64 y] 23) = W0 at hX hB ⊢
  clear hN
  refine (lost_fact _).mono ?_
  rintro e w1 ⟨rfl, hb1⟩
  have hX := (hX.below hb1).below (below_put w1 500 500 0)
  have hB1 := hB.trans (hb1.mono (hPE ▸ hB.size))
  have hB := hB1.trans ((below_put w1 500 500 0).mono (hPE ▸ hB1.size))
  clear hB1 hb1
  unfold put at hX hB
  obtain ⟨pl, p0, p1, p2, pf0, pf1, pf2⟩ := id hX
  go_wp2_with fail
  clear pl p0 p1 p2 pf0 pf1 pf2
  generalize w1.heap.size = F
  generalize w1.alloc (.cells #[.int .i64 500, .int .i64 500, .int .i64 0] 23) = W1 at hX hB ⊢
  refine (check_ok s l y _ h).mono ?_
  rintro e w2 ⟨rfl, hb2⟩
  have hX := hX.below hb2
  have hB : Below w.heap.size w w2 := by subst hPE; exact hB.trans (hb2.mono hB.size)
  clear hPE hb2
  obtain ⟨pl, p0, p1, p2, pf0, pf1, pf2⟩ := id hX
  go_wp2_with fail
  go_loopg [8] 0 (fun gk s8 wr => s8 = .int .i64 0 ∧ Below w.heap.size w wr)
  case atStart => exact ⟨rfl, hB⟩
  case round =>
    clear hB hX
    obtain ⟨rfl, hB⟩ := hrel
    go_wp2_with fail
    go_ret
    exact ⟨rfl, hB⟩
theorem half_walk (s l y : Int) {v : Value} {zs : List Int} {w : World} (h : Ints w v zs) : Calls Try.prog 3 #[win s l y, v] w fun e w' => e = .returned (.bool true) ∧ Below w.heap.size w w' := by
  obtain ⟨a, c, rfl, m, k⟩ := h
  cases hw : wB s l y with
  | false => exact half_wrong s l y a _ c w hw
  | true =>
    rcases k with rfl | ⟨b, off, rfl, hb, hc⟩
    · exact half_nil s l y a c w hw
    · exact half_yes s l y b off zs.length c zs w hw m hb rfl hc
end Go.Proofs.Ytaiapmibpogoeaa
