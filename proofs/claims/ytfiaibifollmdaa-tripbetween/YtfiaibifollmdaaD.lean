/- A slice of integers as it lies in memory; the walk of the law TripBetween. -/
import Derived.Test.YtfiaibifollmdaaC
import Derived.Deep.LoopGhost
import Derived.Deep.DeepCutAuto
namespace Go.Proofs.Ytfiaibifollmdaa
open Go.RowKit Go.Lib Go.Sort
set_option linter.unusedVariables false
set_option linter.unusedSimpArgs false

def iat (zs : List Int) (j : Nat) : Int := zs[j]?.getD 0
def ICells (w : World) (b off : Nat) (zs : List Int) : Prop := ∀ j, j < zs.length → w.cell? ⟨b, off + j, none⟩ = some (.int .i64 (iat zs j))
/-- The slice's value v holds the integers zs in the world w. -/
def Ints (w : World) (v : Value) (zs : List Int) : Prop := ∃ ao c, v = .slice ao zs.length c ∧ zs.length ≤ 9223372036854775807 ∧ (zs = [] ∨ ∃ b off, ao = some ⟨b, off, none⟩ ∧ b < w.heap.size ∧ ICells w b off zs)
theorem ICells.below {w w' : World} {b off : Nat} {zs : List Int} (h : ICells w b off zs) (hb : b < w.heap.size) (bel : Below w.heap.size w w') : ICells w' b off zs := fun j hj =>
  (bel.cell (p := ⟨b, off + j, none⟩) hb).trans (h j hj)

/-- A trip s, v of times of which l is the least and g the greatest. -/
def Good (s v l g : Int) : Prop := 1 ≤ l ∧ l ≤ g ∧ g ≤ 100000 ∧ 8 * l ≤ s ∧ s ≤ 8 * g + 7 ∧ s ≤ 800000 ∧ 0 ≤ v ∧ v ≤ 800000
def grt (g n : Int) : Int := if g < n then n else g
theorem Good.next {s v l g n d : Int} (h : Good s v l g) (hn : nextB s v l n d = true) : Good (smo s l n d) (vry s v l n d) (lst l n) (grt g n) := by
  obtain ⟨h1, h2, h3, h4, h5, h6, h7, h8⟩ := h
  obtain ⟨k1, k2, k3⟩ := nextB_yes hn
  have hr := rightB_yes (right_next hn)
  have ht := timeB_yes k2
  have hd := delayB_yes k3
  have b1 := lst_bd l n
  have b2 := tim_bd l n d hd.1
  have b4 : g ≤ grt g n ∧ n ≤ grt g n ∧ (grt g n = g ∨ grt g n = n) := by unfold grt; split <;> omega
  refine ⟨by omega, by omega, by omega, ?_, ?_, by omega, by omega, by omega⟩
  · unfold smo; omega
  · unfold smo; omega
theorem frozen_drew (w : World) (a : Addr) : w.drew.frozen? a = w.frozen? a := rfl
theorem fresh_after {wr w3 : World} (h : Below (wr.alloc (.cells #[.int .i64 0, .int .i64 0, .int .i64 0] 24)).drew.heap.size (wr.alloc (.cells #[.int .i64 0, .int .i64 0, .int .i64 0] 24)).drew w3) : Box w3 wr.heap.size 0 0 0 :=
  Box.below ⟨by simp [World.drew], by simp, by simp, by simp, by rw [frozen_drew]; simp, by rw [frozen_drew]; simp, by rw [frozen_drew]; simp⟩ h
theorem Below.of_drew {N : Nat} {w w' : World} (h : Below N w.drew w') : Below N w w' := ⟨h.os, h.tape, h.output, h.size, h.block⟩
theorem Box.set_far {w : World} {b q : Nat} {s v l : Int} (h : Box w b s v l) (hq : q ≠ b) (x y z : Value) :
    Box (((w.setCell ⟨q, 0, none⟩ x).setCell ⟨q, 1, none⟩ y).setCell ⟨q, 2, none⟩ z) b s v l := by
  have far : ∀ (u : World) (o : Nat) (y : Value) (a : Addr), a.block = b → (u.setCell ⟨q, o, none⟩ y).cell? a = u.cell? a := fun u o y a ha => World.cell?_setCell_other _ _ _ _ (by intro e; apply hq; rw [← ha, ← e])
  refine ⟨by simpa using h.lt, ?_, ?_, ?_, by simpa using h.f0, by simpa using h.f1, by simpa using h.f2⟩
  · rw [far _ _ _ _ rfl, far _ _ _ _ rfl, far _ _ _ _ rfl]; exact h.c0
  · rw [far _ _ _ _ rfl, far _ _ _ _ rfl, far _ _ _ _ rfl]; exact h.c1
  · rw [far _ _ _ _ rfl, far _ _ _ _ rfl, far _ _ _ _ rfl]; exact h.c2
/-- A trip has come into the box Q; the one in the box B is as it was. -/
structure Came (w wx : World) (B Q : Nat) (s v l s' v' l' : Int) : Prop where
  new : Box wx Q s' v' l'
  old : Box wx B s v l
  bel : Below w.heap.size w wx
  ne : Q ≠ B
  le : w.heap.size ≤ Q
theorem came_a {w wr w3 : World} {B : Nat} {s v l : Int} (hB : Below w.heap.size w wr) (hX : Box wr B s v l) (h : Below (wr.alloc (.cells #[.int .i64 0, .int .i64 0, .int .i64 0] 24)).drew.heap.size (wr.alloc (.cells #[.int .i64 0, .int .i64 0, .int .i64 0] 24)).drew w3) (s' v' l' : Int) :
    Came w (((w3.setCell ⟨wr.heap.size, 0, none⟩ (.int .i64 s')).setCell ⟨wr.heap.size, 1, none⟩ (.int .i64 v')).setCell ⟨wr.heap.size, 2, none⟩ (.int .i64 l')) B wr.heap.size s v l s' v' l' := by
  have hn : wr.heap.size ≠ B := by have := hX.lt; omega
  have h1 : Below wr.heap.size wr (wr.alloc (.cells #[.int .i64 0, .int .i64 0, .int .i64 0] 24)) := (Below.refl _ _).alloc (Nat.le_refl _) _
  have h2 : Below wr.heap.size wr w3 := h1.trans ((Below.of_drew h).mono h1.size)
  exact ⟨(fresh_after h).set _ _ _, (hX.below h2).set_far hn _ _ _, Below.set3 (hB.trans (h2.mono hB.size)) hB.size _ _ _, hn, hB.size⟩
theorem came_b {w wr w3 : World} {B : Nat} {s v l : Int} (hB : Below w.heap.size w wr) (hX : Box wr B s v l) (h : Below wr.drew.heap.size wr.drew w3) (s' v' l' : Int) :
    Came w (w3.alloc (.cells #[.int .i64 s', .int .i64 v', .int .i64 l'] 24)) B w3.heap.size s v l s' v' l' := by
  have h2 : Below wr.heap.size wr w3 := Below.of_drew h
  have hX3 := hX.below h2
  have hB3 := hB.trans (h2.mono hB.size)
  exact ⟨Box.new _ _ _ _, hX3.below ((Below.refl _ _).alloc (Nat.le_refl _) _), hB3.alloc hB3.size _, by have := hX3.lt; omega, hB3.size⟩
theorem first_100 (w : World) : Calls Try.prog 5 #[.int .i64 100] w fun e w' => e = .returned (.tuple #[trip 800 400 100, .nilIface]) ∧ Below w.heap.size w w' := first_yes 100 w rfl

set_option maxRecDepth 100000 in
set_option maxHeartbeats 2000000 in
theorem betw_nil (a1 a2 : Option Addr) (c1 l2 c2 : Nat) (w : World) :
    Calls Try.prog 3 #[.slice a1 0 c1, .slice a2 l2 c2] w fun e w' => e = .returned (.bool true) ∧ Below w.heap.size w w' := by
  go_enter Try.func3, Try.ntmps3
  go_wp2_with (go_at_call 5; refine (first_100 _).mono ?_; rintro e w1 ⟨rfl, hb1⟩)
  go_ret
  exact ⟨rfl, hb1.alloc hb1.size _⟩

set_option maxRecDepth 100000 in
set_option maxHeartbeats 2000000 in
theorem betw_no (b off len c1 : Nat) (a2 : Option Addr) (l2 c2 : Nat) (t : Int) (w : World) (h0 : 0 < len) (hl : len ≤ 9223372036854775807) (hb : b < w.heap.size) (hc : w.cell? ⟨b, off, none⟩ = some (.int .i64 t)) (h : timeB t = false) :
    Calls Try.prog 3 #[.slice (some ⟨b, off, none⟩) len c1, .slice a2 l2 c2] w fun e w' => e = .returned (.bool true) ∧ Below w.heap.size w w' := by
  have h0' : (0 : Int) < (len : Int) := by omega
  have h0'' : ¬ ((len : Int) = 0) := by omega
  rcases timeB_no h with c | c
  all_goals
    go_enter Try.func3, Try.ntmps3
    go_wp2_with fail
    refine (first_100 _).mono ?_
    rintro e w1 ⟨rfl, hb1⟩
    have hB2 : Below w.heap.size w (w1.alloc (.cells #[.int .i64 800, .int .i64 400, .int .i64 100] 24)) := hb1.alloc hb1.size _
    have hX := Box.new w1 800 400 100
    have hc2 := (hB2.cell (p := ⟨b, off, none⟩) hb).trans hc
    go_wp2_with (go_at_call_of 5 t; refine (first_no t _ h).mono ?_; rintro e w2 ⟨rfl, hb2⟩; have hc3 := (hb2.cell (p := ⟨b, off, none⟩) (Nat.lt_of_lt_of_le hb hB2.size)).trans hc2; have hB3 := hB2.trans (hb2.mono hB2.size); have hc4 := ((hB3.alloc hB3.size (.cells #[.int .i64 0, .int .i64 0, .int .i64 0] 24)).cell (p := ⟨b, off, none⟩) hb).trans hc)
    go_ret
    exact ⟨by simp <;> omega, hB3.alloc hB3.size _⟩

set_option maxRecDepth 100000 in
set_option maxHeartbeats 2000000 in
theorem betw_yes (b off len c1 : Nat) (a2 : Option Addr) (l2 c2 : Nat) (xs ds : List Int) (t : Int) (w : World) (h0 : 0 < len) (hl : len ≤ 9223372036854775807) (hl2 : l2 ≤ 9223372036854775807) (hb : b < w.heap.size)
    (hx : xs.length = len) (hd : ds.length = l2) (hc : ICells w b off xs) (hD : ds = [] ∨ ∃ b off, a2 = some ⟨b, off, none⟩ ∧ b < w.heap.size ∧ ICells w b off ds) (ht : iat xs 0 = t) (h : timeB t = true) :
    Calls Try.prog 3 #[.slice (some ⟨b, off, none⟩) len c1, .slice a2 l2 c2] w fun e w' => e = .returned (.bool true) ∧ Below w.heap.size w w' := by
  obtain ⟨t1, t2⟩ := timeB_yes h
  have h0' : (0 : Int) < (len : Int) := by omega
  have h0'' : ¬ ((len : Int) = 0) := by omega
  have hc0 : w.cell? ⟨b, off, none⟩ = some (.int .i64 t) := by have := hc 0 (by omega); rw [ht] at this; exact this
  have HX : Hid (xs.length = len) := hx
  have HD : Hid (ds.length = l2) := hd
  have HC : Hid (ICells w b off xs) := hc
  have HDD : Hid (ds = [] ∨ ∃ b off, a2 = some ⟨b, off, none⟩ ∧ b < w.heap.size ∧ ICells w b off ds) := hD
  clear hx hd hc hD ht
  go_enter Try.func3, Try.ntmps3
  go_wp2_with fail
  refine (first_100 _).mono ?_
  rintro e w1 ⟨rfl, hb1⟩
  have hB2 : Below w.heap.size w (w1.alloc (.cells #[.int .i64 800, .int .i64 400, .int .i64 100] 24)) := hb1.alloc hb1.size _
  have hc2 := (hB2.cell (p := ⟨b, off, none⟩) hb).trans hc0
  go_wp2_with (go_at_call_of 5 t; refine (first_yes t _ h).mono ?_; rintro e w2 ⟨rfl, hb2⟩; have hc3 := (hb2.cell (p := ⟨b, off, none⟩) (Nat.lt_of_lt_of_le hb hB2.size)).trans hc2; have hB3 := hB2.trans (hb2.mono hB2.size); have hc4 := ((hB3.alloc hB3.size (.cells #[.int .i64 (8 * t), .int .i64 (4 * t), .int .i64 t] 24)).cell (p := ⟨b, off, none⟩) hb).trans hc0)
  have hB4 := hB3.alloc hB3.size (.cells #[.int .i64 (8 * t), .int .i64 (4 * t), .int .i64 t] 24)
  have hX4 := Box.new w2 (8 * t) (4 * t) t
  have hle := hB3.size
  generalize w2.heap.size = B at hX4 hle ⊢
  generalize w1.heap.size = B1
  generalize w2.alloc (.cells #[.int .i64 (8 * t), .int .i64 (4 * t), .int .i64 t] 24) = W0 at hB4 hX4 ⊢
  have hG0 : Good (8 * t) (4 * t) t t := ⟨t1, by omega, t2, by omega, by omega, by omega, by omega, by omega⟩
  clear hb1 hB2 hc2 hb2 hc3 hB3 hc4
  go_loopg [9, 10, 11] 39 (fun gk lo hi i wr => ∃ (k : Nat) (l g s v : Int), gk + k = 40 ∧ 1 ≤ k ∧ lo = .int .i64 l ∧ hi = .int .i64 g ∧ i = .int .i64 k ∧ Good s v l g ∧ Box wr B s v l ∧ Below w.heap.size w wr)
  case atStart => exact ⟨1, t, t, 8 * t, 4 * t, rfl, by omega, rfl, rfl, rfl, hG0, hX4, hB4⟩
  case round =>
    clear hB4 hX4 hG0
    obtain ⟨k, l, g, s, v, hk1, hk2, rfl, rfl, rfl, hG, hX, hB⟩ := hrel
    by_cases g1 : (k : Int) < (len : Int)
    · by_cases g2 : (k : Int) < 40
      · have ck : wr.cell? ⟨b, off + k, none⟩ = some (.int .i64 (iat xs k)) := HC.out.below hb hB k (by have := HX.out; omega)
        have hbr : b < wr.heap.size := Nat.lt_of_lt_of_le hb hB.size
        generalize iat xs k = n at ck
        have HK : Hid (gk + k = 40) := hk1
        have HG : Hid (Good s v l g) := hG
        clear hk1 hG
        obtain ⟨lt, p0, p1, p2, f0, f1, f2⟩ := hX
        go_upto_if 79 with fail
        go_cut [12] (fun sd wx => wx = wr ∧ ∃ d : Int, sd = .int .i64 d)
        case first =>
          by_cases g3 : (k : Int) < (l2 : Int)
          · obtain ⟨b2, off2, rfl, hb2, hc2⟩ : ∃ b off, a2 = some ⟨b, off, none⟩ ∧ b < w.heap.size ∧ ICells w b off ds := by
              rcases HDD.out with e | e
              · have := HD.out; rw [e] at this; simp at this; omega
              · exact e
            have dk : wr.cell? ⟨b2, off2 + k, none⟩ = some (.int .i64 (iat ds k)) := hc2.below hb2 hB k (by have := HD.out; omega)
            generalize iat ds k = d at dk
            go_wp2_with fail
            go_meet
            exact ⟨rfl, d, rfl⟩
          · go_wp2_with fail
            go_meet
            exact ⟨rfl, 0, rfl⟩
        case rest =>
          obtain ⟨rfl, d, rfl⟩ := hcut
          have HX5 : Hid (Box wc B s v l) := ⟨lt, p0, p1, p2, f0, f1, f2⟩
          cases hN : nextB s v l n d with
          | true =>
            go_wp2_with fail
            go_cut [13, 14] (fun sq se wx => ∃ Q : Nat, sq = .pointer (some ⟨Q, 0, none⟩) ∧ se = .nilIface ∧ Came w wx B Q s v l (smo s l n d) (vry s v l n d) (lst l n))
            case first =>
              go_region_with (go_at_call 6; refine (next_yes s v l n d _ hN).mono ?_; rintro e w3 ⟨rfl, hb3⟩; try (have hz := fresh_after hb3; obtain ⟨ql, q0, q1, q2, qf0, qf1, qf2⟩ := hz))
              all_goals (try go_wp2_with fail)
              all_goals go_meet
              all_goals first
                | exact ⟨_, rfl, rfl, came_a hB HX5.out hb3 _ _ _⟩
                | exact ⟨_, rfl, rfl, came_b hB HX5.out hb3 _ _ _⟩
            case rest =>
              obtain ⟨Q, rfl, rfl, hC⟩ := hcut
              have hG2 := HG.out.next hN
              have hR2 := right_next hN
              obtain ⟨hl1, hl2', _⟩ := HG.out
              have ckc : ∀ x y z : Value, (((wc.setCell ⟨B, 0, none⟩ x).setCell ⟨B, 1, none⟩ y).setCell ⟨B, 2, none⟩ z).cell? ⟨b, off + k, none⟩ = some (.int .i64 n) := fun x y z => ((Below.set3 hC.bel hle x y z).cell (p := ⟨b, off + k, none⟩) hb).trans ((hB.cell (p := ⟨b, off + k, none⟩) hb).symm.trans ck)
              have hX6 := fun s' v' l' => hC.old.set s' v' l'
              have hB6 := fun x y z => Below.set3 hC.bel hle x y z
              obtain ⟨⟨qlt, q0, q1, q2, qf0, qf1, qf2⟩, ⟨olt, o0, o1, o2, of0, of1, of2⟩, hbel, hne, hQle⟩ := hC
              clear ck p0 p1 p2 f0 f1 f2
              generalize smo s l n d = s' at hG2 hR2 q0
              generalize vry s v l n d = v' at hG2 hR2 q1
              generalize hln : lst l n = l' at hG2 hR2 q2
              have hne' : B ≠ Q := fun e => hne e.symm
              by_cases e1 : n < l
              · have e2 : ¬ g < n := by omega
                have eg : grt g n = g := by unfold grt; split <;> omega
                have el : l' = n := by rw [← hln]; unfold lst; split <;> omega
                rw [el] at hG2 hR2 q2
                rw [eg] at hG2
                clear hln el eg
                obtain ⟨j1, j2, j3, j4, j5, j6, j7, j8⟩ := hG2
                go_wp2_with fail
                refine (wait_yes s' v' n _ hR2).mono ?_
                rintro e w4 ⟨rfl, hb4⟩
                have hX7 := (hX6 s' v' n).below hb4
                have hB7 := (hB6 (.int .i64 s') (.int .i64 v') (.int .i64 n)).trans (hb4.mono (hB6 _ _ _).size)
                have hh : 1 ≤ half v' ∧ half v' ≤ 400000 := by unfold half; split <;> omega
                generalize half v' = hv at hh
                have hX8 := hX7
                obtain ⟨xlt, x0, x1, x2, xf0, xf1, xf2⟩ := hX8
                have y1 : decide (s' / 8 + hv ≤ s' / 8) = false := decide_eq_false (by omega)
                have y2 : decide (s' < 8 * n) = false := decide_eq_false (by omega)
                have y3 : decide (8 * g + 7 < s') = false := decide_eq_false (by omega)
                go_wp2_with fail
                go_roundg (gk - 1)
                case measure => have := HK.out; omega
                case rel => exact ⟨k + 1, n, g, s', v', by have := HK.out; omega, by omega, rfl, rfl, by go_num, ⟨j1, j2, j3, j4, j5, j6, j7, j8⟩, hX7, hB7⟩
              · by_cases e2 : g < n
                · have eg : grt g n = n := by unfold grt; split <;> omega
                  have el : l' = l := by rw [← hln]; unfold lst; split <;> omega
                  rw [el] at hG2 hR2 q2
                  rw [eg] at hG2
                  clear hln el eg
                  obtain ⟨j1, j2, j3, j4, j5, j6, j7, j8⟩ := hG2
                  go_wp2_with fail
                  refine (wait_yes s' v' l _ hR2).mono ?_
                  rintro e w4 ⟨rfl, hb4⟩
                  have hX7 := (hX6 s' v' l).below hb4
                  have hB7 := (hB6 (.int .i64 s') (.int .i64 v') (.int .i64 l)).trans (hb4.mono (hB6 _ _ _).size)
                  have hh : 1 ≤ half v' ∧ half v' ≤ 400000 := by unfold half; split <;> omega
                  generalize half v' = hv at hh
                  have hX8 := hX7
                  obtain ⟨xlt, x0, x1, x2, xf0, xf1, xf2⟩ := hX8
                  have y1 : decide (s' / 8 + hv ≤ s' / 8) = false := decide_eq_false (by omega)
                  have y2 : decide (s' < 8 * l) = false := decide_eq_false (by omega)
                  have y3 : decide (8 * n + 7 < s') = false := decide_eq_false (by omega)
                  go_wp2_with fail
                  go_roundg (gk - 1)
                  case measure => have := HK.out; omega
                  case rel => exact ⟨k + 1, l, n, s', v', by have := HK.out; omega, by omega, rfl, rfl, by go_num, ⟨j1, j2, j3, j4, j5, j6, j7, j8⟩, hX7, hB7⟩
                · have eg : grt g n = g := by unfold grt; split <;> omega
                  have el : l' = l := by rw [← hln]; unfold lst; split <;> omega
                  rw [el] at hG2 hR2 q2
                  rw [eg] at hG2
                  clear hln el eg
                  obtain ⟨j1, j2, j3, j4, j5, j6, j7, j8⟩ := hG2
                  go_wp2_with fail
                  refine (wait_yes s' v' l _ hR2).mono ?_
                  rintro e w4 ⟨rfl, hb4⟩
                  have hX7 := (hX6 s' v' l).below hb4
                  have hB7 := (hB6 (.int .i64 s') (.int .i64 v') (.int .i64 l)).trans (hb4.mono (hB6 _ _ _).size)
                  have hh : 1 ≤ half v' ∧ half v' ≤ 400000 := by unfold half; split <;> omega
                  generalize half v' = hv at hh
                  have hX8 := hX7
                  obtain ⟨xlt, x0, x1, x2, xf0, xf1, xf2⟩ := hX8
                  have y1 : decide (s' / 8 + hv ≤ s' / 8) = false := decide_eq_false (by omega)
                  have y2 : decide (s' < 8 * l) = false := decide_eq_false (by omega)
                  have y3 : decide (8 * g + 7 < s') = false := decide_eq_false (by omega)
                  go_wp2_with fail
                  go_roundg (gk - 1)
                  case measure => have := HK.out; omega
                  case rel => exact ⟨k + 1, l, g, s', v', by have := HK.out; omega, by omega, rfl, rfl, by go_num, ⟨j1, j2, j3, j4, j5, j6, j7, j8⟩, hX7, hB7⟩
          | false =>
            go_wp2_with fail
            go_cut [13, 14] (fun sq se wx => ∃ Q : Nat, sq = .pointer (some ⟨Q, 0, none⟩) ∧ se = .iface 35 (.int .i64 1) ∧ Came w wx B Q s v l 0 0 0)
            case first =>
              go_region_with (go_at_call 6; refine (next_no s v l n d _ hN).mono ?_; rintro e w3 ⟨rfl, hb3⟩; try (have hz := fresh_after hb3; obtain ⟨ql, q0, q1, q2, qf0, qf1, qf2⟩ := hz))
              all_goals (try go_wp2_with fail)
              all_goals go_meet
              all_goals first
                | exact ⟨_, rfl, rfl, came_a hB HX5.out hb3 _ _ _⟩
                | exact ⟨_, rfl, rfl, came_b hB HX5.out hb3 _ _ _⟩
            case rest =>
              obtain ⟨Q, rfl, rfl, hC⟩ := hcut
              go_wp2_with fail
              go_roundg (gk - 1)
              case measure => have := HK.out; omega
              case rel => exact ⟨k + 1, l, g, s, v, by have := HK.out; omega, by omega, rfl, rfl, by go_num, HG.out, hC.old, hC.bel⟩
      · go_wp2_with fail
        go_ret
        exact ⟨rfl, hB⟩
    · go_wp2_with fail
      go_ret
      exact ⟨rfl, hB⟩
theorem betw_walk {v1 v2 : Value} {xs ds : List Int} {w : World} (h1 : Ints w v1 xs) (h2 : Ints w v2 ds) : Calls Try.prog 3 #[v1, v2] w fun e w' => e = .returned (.bool true) ∧ Below w.heap.size w w' := by
  obtain ⟨a1, c1, rfl, m1, k1⟩ := h1
  obtain ⟨a2, c2, rfl, m2, k2⟩ := h2
  rcases k1 with rfl | ⟨b, off, rfl, hb, hc⟩
  · exact betw_nil a1 a2 c1 _ c2 w
  · by_cases h0 : 0 < xs.length
    · cases ht : timeB (iat xs 0) with
      | true => exact betw_yes b off xs.length c1 a2 ds.length c2 xs ds (iat xs 0) w h0 m1 m2 hb rfl rfl hc k2 rfl ht
      | false => exact betw_no b off xs.length c1 a2 ds.length c2 (iat xs 0) w h0 m1 hb (hc 0 h0) ht
    · obtain rfl : xs = [] := by cases xs with | nil => rfl | cons y ys => simp at h0
      exact betw_nil _ a2 c1 _ c2 w
end Go.Proofs.Ytfiaibifollmdaa
