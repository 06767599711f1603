/- The walk of the law NumberTells. -/
import Derived.Test.YtbhjncdckkenjaaDoorM
import Derived.Test.YtbhjncdckkenjaaDoorK
namespace Go.Proofs.YtbhjncdckkenjaaDoor
open Go.RowKit
set_option linter.unusedVariables false

set_option maxRecDepth 100000 in
set_option maxHeartbeats 4000000 in
theorem tells_xy (n k b cut next : Int) (w : World) (hH : Handle w) (hm : mayB n = false) (hp : pairB n k = false)
    (hw : wholeB cut b next = true) :
    Calls Tryd.prog 3 #[.int .i64 n, .int .i64 k, .int .i64 b, .int .i64 cut, .int .i64 next] w fun e w' => e = .returned (.bool true) ∧ Below w.heap.size w w' := by
  have hB : Below w.heap.size w w := Below.refl _ _
  go_enter Tryd.func3, Tryd.ntmps3
  go_wp2_with fail
  refine (rmay n _).mono ?_
  rintro e w1 ⟨rfl, rfl⟩
  rw [hm]
  go_wp2_with fail
  refine (need_no n k _ hp).mono ?_
  rintro e w1 ⟨rfl, rfl⟩
  go_wp2_with fail
  refine (same_err 1 1 _ hH).mono ?_
  rintro e wW ⟨rfl, hb1⟩
  have hB := hB.trans (hb1.mono hB.size)
  have hH := hH.below hb1
  clear hb1
  go_wp2_with fail
  refine (cut_no1 n b _ hm).mono ?_
  rintro e w1 ⟨rfl, rfl⟩
  go_wp2_with fail
  refine (same_err 1 1 _ hH).mono ?_
  rintro e wW ⟨rfl, hb1⟩
  have hB := hB.trans (hb1.mono hB.size)
  have hH := hH.below hb1
  clear hb1
  go_wp2_with fail
  refine (rwhole_yes cut b next _ hw).mono ?_
  rintro e w1 ⟨rfl, rfl⟩
  go_wp2_with fail
  refine (whole_yes cut b next _ hw).mono ?_
  rintro e w1 ⟨rfl, rfl⟩
  go_wp2_with fail
  refine (same_nil 0 _).mono ?_
  rintro e wW ⟨rfl, hb1⟩
  have hB := hB.trans (hb1.mono hB.size)
  have hH := hH.below hb1
  clear hb1
  go_wp2
  go_ret
  exact ⟨by simp, hB⟩

set_option maxRecDepth 100000 in
set_option maxHeartbeats 4000000 in
theorem tells_nly (n k b cut next : Int) (w : World) (hH : Handle w) (hm : mayB n = true) (hn0 : 0 ≤ n)
    (hp : pairB n k = false) (hk : k < -1) (hb : lenB b = false) (hb2 : b < 1)
    (hw : wholeB cut b next = true) :
    Calls Tryd.prog 3 #[.int .i64 n, .int .i64 k, .int .i64 b, .int .i64 cut, .int .i64 next] w fun e w' => e = .returned (.bool true) ∧ Below w.heap.size w w' := by
  have hB : Below w.heap.size w w := Below.refl _ _
  go_enter Tryd.func3, Tryd.ntmps3
  go_wp2_with fail
  refine (rmay n _).mono ?_
  rintro e w1 ⟨rfl, rfl⟩
  rw [hm]
  go_wp2_with fail
  refine (need_no n k _ hp).mono ?_
  rintro e w1 ⟨rfl, rfl⟩
  go_wp2_with fail
  refine (same_err 1 1 _ hH).mono ?_
  rintro e wW ⟨rfl, hb1⟩
  have hB := hB.trans (hb1.mono hB.size)
  have hH := hH.below hb1
  clear hb1
  go_wp2_with fail
  refine (cut_no2 n b _ hm hb).mono ?_
  rintro e w1 ⟨rfl, rfl⟩
  go_wp2_with fail
  refine (same_err 1 1 _ hH).mono ?_
  rintro e wW ⟨rfl, hb1⟩
  have hB := hB.trans (hb1.mono hB.size)
  have hH := hH.below hb1
  clear hb1
  go_wp2_with fail
  refine (rwhole_yes cut b next _ hw).mono ?_
  rintro e w1 ⟨rfl, rfl⟩
  go_wp2_with fail
  refine (whole_yes cut b next _ hw).mono ?_
  rintro e w1 ⟨rfl, rfl⟩
  go_wp2_with fail
  refine (same_nil 0 _).mono ?_
  rintro e wW ⟨rfl, hb1⟩
  have hB := hB.trans (hb1.mono hB.size)
  have hH := hH.below hb1
  clear hb1
  go_wp2
  go_ret
  exact ⟨by simp, hB⟩

set_option maxRecDepth 100000 in
set_option maxHeartbeats 4000000 in
theorem tells_nhy (n k b cut next : Int) (w : World) (hH : Handle w) (hm : mayB n = true) (hn0 : 0 ≤ n)
    (hp : pairB n k = false) (hk : k < -1) (hb : lenB b = false) (hb2 : 4 < b)
    (hw : wholeB cut b next = true) :
    Calls Tryd.prog 3 #[.int .i64 n, .int .i64 k, .int .i64 b, .int .i64 cut, .int .i64 next] w fun e w' => e = .returned (.bool true) ∧ Below w.heap.size w w' := by
  have hB : Below w.heap.size w w := Below.refl _ _
  go_enter Tryd.func3, Tryd.ntmps3
  go_wp2_with fail
  refine (rmay n _).mono ?_
  rintro e w1 ⟨rfl, rfl⟩
  rw [hm]
  go_wp2_with fail
  refine (need_no n k _ hp).mono ?_
  rintro e w1 ⟨rfl, rfl⟩
  go_wp2_with fail
  refine (same_err 1 1 _ hH).mono ?_
  rintro e wW ⟨rfl, hb1⟩
  have hB := hB.trans (hb1.mono hB.size)
  have hH := hH.below hb1
  clear hb1
  go_wp2_with fail
  refine (cut_no2 n b _ hm hb).mono ?_
  rintro e w1 ⟨rfl, rfl⟩
  go_wp2_with fail
  refine (same_err 1 1 _ hH).mono ?_
  rintro e wW ⟨rfl, hb1⟩
  have hB := hB.trans (hb1.mono hB.size)
  have hH := hH.below hb1
  clear hb1
  go_wp2_with fail
  refine (rwhole_yes cut b next _ hw).mono ?_
  rintro e w1 ⟨rfl, rfl⟩
  go_wp2_with fail
  refine (whole_yes cut b next _ hw).mono ?_
  rintro e w1 ⟨rfl, rfl⟩
  go_wp2_with fail
  refine (same_nil 0 _).mono ?_
  rintro e wW ⟨rfl, hb1⟩
  have hB := hB.trans (hb1.mono hB.size)
  have hH := hH.below hb1
  clear hb1
  go_wp2
  go_ret
  exact ⟨by simp, hB⟩

set_option maxRecDepth 100000 in
set_option maxHeartbeats 4000000 in
theorem tells_nyy (n k b cut next : Int) (w : World) (hH : Handle w) (hm : mayB n = true) (hn0 : 0 ≤ n)
    (hp : pairB n k = false) (hk : k < -1) (hb : lenB b = true) (hb2 : 1 ≤ b) (hb3 : b ≤ 4)
    (hw : wholeB cut b next = true) :
    Calls Tryd.prog 3 #[.int .i64 n, .int .i64 k, .int .i64 b, .int .i64 cut, .int .i64 next] w fun e w' => e = .returned (.bool true) ∧ Below w.heap.size w w' := by
  have hB : Below w.heap.size w w := Below.refl _ _
  go_enter Tryd.func3, Tryd.ntmps3
  go_wp2_with fail
  refine (rmay n _).mono ?_
  rintro e w1 ⟨rfl, rfl⟩
  rw [hm]
  go_wp2_with fail
  refine (need_no n k _ hp).mono ?_
  rintro e w1 ⟨rfl, rfl⟩
  go_wp2_with fail
  refine (same_err 1 1 _ hH).mono ?_
  rintro e wW ⟨rfl, hb1⟩
  have hB := hB.trans (hb1.mono hB.size)
  have hH := hH.below hb1
  clear hb1
  go_wp2_with fail
  refine (round b _ hb).mono ?_
  rintro e w1 ⟨rfl, rfl⟩
  obtain ⟨hr0, hr1⟩ := rnd_bd b
  have hcut := fun w => cut_yes n b w hm hb
  generalize hrr : rnd b = r at hr0 hr1 hcut ⊢
  have ht : n.tmod r = n % r := Int.tmod_eq_emod_of_nonneg hn0
  have hm0 : 0 ≤ n % r := Int.emod_nonneg n (by omega)
  have hm1 : n % r < r := Int.emod_lt_of_pos n (by omega)
  go_wp2_with fail
  refine (hcut _).mono ?_
  rintro e w1 ⟨rfl, rfl⟩
  go_wp2_with fail
  refine (same_nil 0 _).mono ?_
  rintro e wW ⟨rfl, hb1⟩
  have hB := hB.trans (hb1.mono hB.size)
  have hH := hH.below hb1
  clear hb1
  go_wp2_with fail
  refine (rwhole_yes cut b next _ hw).mono ?_
  rintro e w1 ⟨rfl, rfl⟩
  go_wp2_with fail
  refine (whole_yes cut b next _ hw).mono ?_
  rintro e w1 ⟨rfl, rfl⟩
  go_wp2_with fail
  refine (same_nil 0 _).mono ?_
  rintro e wW ⟨rfl, hb1⟩
  have hB := hB.trans (hb1.mono hB.size)
  have hH := hH.below hb1
  clear hb1
  go_wp2
  go_ret
  exact ⟨by simp, hB⟩

set_option maxRecDepth 100000 in
set_option maxHeartbeats 4000000 in
theorem tells_mly (n k b cut next : Int) (w : World) (hH : Handle w) (hm : mayB n = true) (hn0 : 0 ≤ n)
    (hp : pairB n k = false) (hk : -1 ≤ k) (hk2 : n ≤ k) (hb : lenB b = false) (hb2 : b < 1)
    (hw : wholeB cut b next = true) :
    Calls Tryd.prog 3 #[.int .i64 n, .int .i64 k, .int .i64 b, .int .i64 cut, .int .i64 next] w fun e w' => e = .returned (.bool true) ∧ Below w.heap.size w w' := by
  have hB : Below w.heap.size w w := Below.refl _ _
  go_enter Tryd.func3, Tryd.ntmps3
  go_wp2_with fail
  refine (rmay n _).mono ?_
  rintro e w1 ⟨rfl, rfl⟩
  rw [hm]
  go_wp2_with fail
  refine (need_no n k _ hp).mono ?_
  rintro e w1 ⟨rfl, rfl⟩
  go_wp2_with fail
  refine (same_err 1 1 _ hH).mono ?_
  rintro e wW ⟨rfl, hb1⟩
  have hB := hB.trans (hb1.mono hB.size)
  have hH := hH.below hb1
  clear hb1
  go_wp2_with fail
  refine (cut_no2 n b _ hm hb).mono ?_
  rintro e w1 ⟨rfl, rfl⟩
  go_wp2_with fail
  refine (same_err 1 1 _ hH).mono ?_
  rintro e wW ⟨rfl, hb1⟩
  have hB := hB.trans (hb1.mono hB.size)
  have hH := hH.below hb1
  clear hb1
  go_wp2_with fail
  refine (rwhole_yes cut b next _ hw).mono ?_
  rintro e w1 ⟨rfl, rfl⟩
  go_wp2_with fail
  refine (whole_yes cut b next _ hw).mono ?_
  rintro e w1 ⟨rfl, rfl⟩
  go_wp2_with fail
  refine (same_nil 0 _).mono ?_
  rintro e wW ⟨rfl, hb1⟩
  have hB := hB.trans (hb1.mono hB.size)
  have hH := hH.below hb1
  clear hb1
  go_wp2
  go_ret
  exact ⟨by simp, hB⟩

set_option maxRecDepth 100000 in
set_option maxHeartbeats 4000000 in
theorem tells_mhy (n k b cut next : Int) (w : World) (hH : Handle w) (hm : mayB n = true) (hn0 : 0 ≤ n)
    (hp : pairB n k = false) (hk : -1 ≤ k) (hk2 : n ≤ k) (hb : lenB b = false) (hb2 : 4 < b)
    (hw : wholeB cut b next = true) :
    Calls Tryd.prog 3 #[.int .i64 n, .int .i64 k, .int .i64 b, .int .i64 cut, .int .i64 next] w fun e w' => e = .returned (.bool true) ∧ Below w.heap.size w w' := by
  have hB : Below w.heap.size w w := Below.refl _ _
  go_enter Tryd.func3, Tryd.ntmps3
  go_wp2_with fail
  refine (rmay n _).mono ?_
  rintro e w1 ⟨rfl, rfl⟩
  rw [hm]
  go_wp2_with fail
  refine (need_no n k _ hp).mono ?_
  rintro e w1 ⟨rfl, rfl⟩
  go_wp2_with fail
  refine (same_err 1 1 _ hH).mono ?_
  rintro e wW ⟨rfl, hb1⟩
  have hB := hB.trans (hb1.mono hB.size)
  have hH := hH.below hb1
  clear hb1
  go_wp2_with fail
  refine (cut_no2 n b _ hm hb).mono ?_
  rintro e w1 ⟨rfl, rfl⟩
  go_wp2_with fail
  refine (same_err 1 1 _ hH).mono ?_
  rintro e wW ⟨rfl, hb1⟩
  have hB := hB.trans (hb1.mono hB.size)
  have hH := hH.below hb1
  clear hb1
  go_wp2_with fail
  refine (rwhole_yes cut b next _ hw).mono ?_
  rintro e w1 ⟨rfl, rfl⟩
  go_wp2_with fail
  refine (whole_yes cut b next _ hw).mono ?_
  rintro e w1 ⟨rfl, rfl⟩
  go_wp2_with fail
  refine (same_nil 0 _).mono ?_
  rintro e wW ⟨rfl, hb1⟩
  have hB := hB.trans (hb1.mono hB.size)
  have hH := hH.below hb1
  clear hb1
  go_wp2
  go_ret
  exact ⟨by simp, hB⟩

set_option maxRecDepth 100000 in
set_option maxHeartbeats 4000000 in
theorem tells_myy (n k b cut next : Int) (w : World) (hH : Handle w) (hm : mayB n = true) (hn0 : 0 ≤ n)
    (hp : pairB n k = false) (hk : -1 ≤ k) (hk2 : n ≤ k) (hb : lenB b = true) (hb2 : 1 ≤ b) (hb3 : b ≤ 4)
    (hw : wholeB cut b next = true) :
    Calls Tryd.prog 3 #[.int .i64 n, .int .i64 k, .int .i64 b, .int .i64 cut, .int .i64 next] w fun e w' => e = .returned (.bool true) ∧ Below w.heap.size w w' := by
  have hB : Below w.heap.size w w := Below.refl _ _
  go_enter Tryd.func3, Tryd.ntmps3
  go_wp2_with fail
  refine (rmay n _).mono ?_
  rintro e w1 ⟨rfl, rfl⟩
  rw [hm]
  go_wp2_with fail
  refine (need_no n k _ hp).mono ?_
  rintro e w1 ⟨rfl, rfl⟩
  go_wp2_with fail
  refine (same_err 1 1 _ hH).mono ?_
  rintro e wW ⟨rfl, hb1⟩
  have hB := hB.trans (hb1.mono hB.size)
  have hH := hH.below hb1
  clear hb1
  go_wp2_with fail
  refine (round b _ hb).mono ?_
  rintro e w1 ⟨rfl, rfl⟩
  obtain ⟨hr0, hr1⟩ := rnd_bd b
  have hcut := fun w => cut_yes n b w hm hb
  generalize hrr : rnd b = r at hr0 hr1 hcut ⊢
  have ht : n.tmod r = n % r := Int.tmod_eq_emod_of_nonneg hn0
  have hm0 : 0 ≤ n % r := Int.emod_nonneg n (by omega)
  have hm1 : n % r < r := Int.emod_lt_of_pos n (by omega)
  go_wp2_with fail
  refine (hcut _).mono ?_
  rintro e w1 ⟨rfl, rfl⟩
  go_wp2_with fail
  refine (same_nil 0 _).mono ?_
  rintro e wW ⟨rfl, hb1⟩
  have hB := hB.trans (hb1.mono hB.size)
  have hH := hH.below hb1
  clear hb1
  go_wp2_with fail
  refine (rwhole_yes cut b next _ hw).mono ?_
  rintro e w1 ⟨rfl, rfl⟩
  go_wp2_with fail
  refine (whole_yes cut b next _ hw).mono ?_
  rintro e w1 ⟨rfl, rfl⟩
  go_wp2_with fail
  refine (same_nil 0 _).mono ?_
  rintro e wW ⟨rfl, hb1⟩
  have hB := hB.trans (hb1.mono hB.size)
  have hH := hH.below hb1
  clear hb1
  go_wp2
  go_ret
  exact ⟨by simp, hB⟩

set_option maxRecDepth 100000 in
set_option maxHeartbeats 4000000 in
theorem tells_yly (n k b cut next : Int) (w : World) (hH : Handle w) (hm : mayB n = true) (hn0 : 0 ≤ n)
    (hp : pairB n k = true) (hb : lenB b = false) (hb2 : b < 1)
    (hw : wholeB cut b next = true) :
    Calls Tryd.prog 3 #[.int .i64 n, .int .i64 k, .int .i64 b, .int .i64 cut, .int .i64 next] w fun e w' => e = .returned (.bool true) ∧ Below w.heap.size w w' := by
  obtain ⟨p0, p1, p2, p3⟩ := pairB_yes hp
  have hB : Below w.heap.size w w := Below.refl _ _
  go_enter Tryd.func3, Tryd.ntmps3
  go_wp2_with fail
  refine (rmay n _).mono ?_
  rintro e w1 ⟨rfl, rfl⟩
  rw [hm]
  go_wp2_with fail
  refine (rneed n k _ hp).mono ?_
  rintro e w1 ⟨rfl, rfl⟩
  go_wp2_with fail
  refine (need_yes n k _ hp).mono ?_
  rintro e w1 ⟨rfl, rfl⟩
  go_wp2_with fail
  refine (same_nil 0 _).mono ?_
  rintro e wW ⟨rfl, hb1⟩
  have hB := hB.trans (hb1.mono hB.size)
  have hH := hH.below hb1
  clear hb1
  go_wp2_with fail
  refine (cut_no2 n b _ hm hb).mono ?_
  rintro e w1 ⟨rfl, rfl⟩
  go_wp2_with fail
  refine (same_err 1 1 _ hH).mono ?_
  rintro e wW ⟨rfl, hb1⟩
  have hB := hB.trans (hb1.mono hB.size)
  have hH := hH.below hb1
  clear hb1
  go_wp2_with fail
  refine (rwhole_yes cut b next _ hw).mono ?_
  rintro e w1 ⟨rfl, rfl⟩
  go_wp2_with fail
  refine (whole_yes cut b next _ hw).mono ?_
  rintro e w1 ⟨rfl, rfl⟩
  go_wp2_with fail
  refine (same_nil 0 _).mono ?_
  rintro e wW ⟨rfl, hb1⟩
  have hB := hB.trans (hb1.mono hB.size)
  have hH := hH.below hb1
  clear hb1
  go_wp2
  go_ret
  exact ⟨by simp, hB⟩

set_option maxRecDepth 100000 in
set_option maxHeartbeats 4000000 in
theorem tells_yhy (n k b cut next : Int) (w : World) (hH : Handle w) (hm : mayB n = true) (hn0 : 0 ≤ n)
    (hp : pairB n k = true) (hb : lenB b = false) (hb2 : 4 < b)
    (hw : wholeB cut b next = true) :
    Calls Tryd.prog 3 #[.int .i64 n, .int .i64 k, .int .i64 b, .int .i64 cut, .int .i64 next] w fun e w' => e = .returned (.bool true) ∧ Below w.heap.size w w' := by
  obtain ⟨p0, p1, p2, p3⟩ := pairB_yes hp
  have hB : Below w.heap.size w w := Below.refl _ _
  go_enter Tryd.func3, Tryd.ntmps3
  go_wp2_with fail
  refine (rmay n _).mono ?_
  rintro e w1 ⟨rfl, rfl⟩
  rw [hm]
  go_wp2_with fail
  refine (rneed n k _ hp).mono ?_
  rintro e w1 ⟨rfl, rfl⟩
  go_wp2_with fail
  refine (need_yes n k _ hp).mono ?_
  rintro e w1 ⟨rfl, rfl⟩
  go_wp2_with fail
  refine (same_nil 0 _).mono ?_
  rintro e wW ⟨rfl, hb1⟩
  have hB := hB.trans (hb1.mono hB.size)
  have hH := hH.below hb1
  clear hb1
  go_wp2_with fail
  refine (cut_no2 n b _ hm hb).mono ?_
  rintro e w1 ⟨rfl, rfl⟩
  go_wp2_with fail
  refine (same_err 1 1 _ hH).mono ?_
  rintro e wW ⟨rfl, hb1⟩
  have hB := hB.trans (hb1.mono hB.size)
  have hH := hH.below hb1
  clear hb1
  go_wp2_with fail
  refine (rwhole_yes cut b next _ hw).mono ?_
  rintro e w1 ⟨rfl, rfl⟩
  go_wp2_with fail
  refine (whole_yes cut b next _ hw).mono ?_
  rintro e w1 ⟨rfl, rfl⟩
  go_wp2_with fail
  refine (same_nil 0 _).mono ?_
  rintro e wW ⟨rfl, hb1⟩
  have hB := hB.trans (hb1.mono hB.size)
  have hH := hH.below hb1
  clear hb1
  go_wp2
  go_ret
  exact ⟨by simp, hB⟩

set_option maxRecDepth 100000 in
set_option maxHeartbeats 4000000 in
theorem tells_yyy (n k b cut next : Int) (w : World) (hH : Handle w) (hm : mayB n = true) (hn0 : 0 ≤ n)
    (hp : pairB n k = true) (hb : lenB b = true) (hb2 : 1 ≤ b) (hb3 : b ≤ 4)
    (hw : wholeB cut b next = true) :
    Calls Tryd.prog 3 #[.int .i64 n, .int .i64 k, .int .i64 b, .int .i64 cut, .int .i64 next] w fun e w' => e = .returned (.bool true) ∧ Below w.heap.size w w' := by
  obtain ⟨p0, p1, p2, p3⟩ := pairB_yes hp
  have hB : Below w.heap.size w w := Below.refl _ _
  go_enter Tryd.func3, Tryd.ntmps3
  go_wp2_with fail
  refine (rmay n _).mono ?_
  rintro e w1 ⟨rfl, rfl⟩
  rw [hm]
  go_wp2_with fail
  refine (rneed n k _ hp).mono ?_
  rintro e w1 ⟨rfl, rfl⟩
  go_wp2_with fail
  refine (need_yes n k _ hp).mono ?_
  rintro e w1 ⟨rfl, rfl⟩
  go_wp2_with fail
  refine (same_nil 0 _).mono ?_
  rintro e wW ⟨rfl, hb1⟩
  have hB := hB.trans (hb1.mono hB.size)
  have hH := hH.below hb1
  clear hb1
  go_wp2_with fail
  refine (round b _ hb).mono ?_
  rintro e w1 ⟨rfl, rfl⟩
  obtain ⟨hr0, hr1⟩ := rnd_bd b
  have hcut := fun w => cut_yes n b w hm hb
  generalize hrr : rnd b = r at hr0 hr1 hcut ⊢
  have ht : n.tmod r = n % r := Int.tmod_eq_emod_of_nonneg hn0
  have hm0 : 0 ≤ n % r := Int.emod_nonneg n (by omega)
  have hm1 : n % r < r := Int.emod_lt_of_pos n (by omega)
  go_wp2_with fail
  refine (hcut _).mono ?_
  rintro e w1 ⟨rfl, rfl⟩
  go_wp2_with fail
  refine (same_nil 0 _).mono ?_
  rintro e wW ⟨rfl, hb1⟩
  have hB := hB.trans (hb1.mono hB.size)
  have hH := hH.below hb1
  clear hb1
  go_wp2_with fail
  refine (rwhole_yes cut b next _ hw).mono ?_
  rintro e w1 ⟨rfl, rfl⟩
  go_wp2_with fail
  refine (whole_yes cut b next _ hw).mono ?_
  rintro e w1 ⟨rfl, rfl⟩
  go_wp2_with fail
  refine (same_nil 0 _).mono ?_
  rintro e wW ⟨rfl, hb1⟩
  have hB := hB.trans (hb1.mono hB.size)
  have hH := hH.below hb1
  clear hb1
  go_wp2
  go_ret
  exact ⟨by simp, hB⟩

set_option maxRecDepth 100000 in
set_option maxHeartbeats 4000000 in
theorem tells_xn (n k b cut next : Int) (w : World) (hH : Handle w) (hm : mayB n = false) (hp : pairB n k = false)
    (hw : wholeB cut b next = false) :
    Calls Tryd.prog 3 #[.int .i64 n, .int .i64 k, .int .i64 b, .int .i64 cut, .int .i64 next] w fun e w' => e = .returned (.bool true) ∧ Below w.heap.size w w' := by
  have hB : Below w.heap.size w w := Below.refl _ _
  go_enter Tryd.func3, Tryd.ntmps3
  go_wp2_with fail
  refine (rmay n _).mono ?_
  rintro e w1 ⟨rfl, rfl⟩
  rw [hm]
  go_wp2_with fail
  refine (need_no n k _ hp).mono ?_
  rintro e w1 ⟨rfl, rfl⟩
  go_wp2_with fail
  refine (same_err 1 1 _ hH).mono ?_
  rintro e wW ⟨rfl, hb1⟩
  have hB := hB.trans (hb1.mono hB.size)
  have hH := hH.below hb1
  clear hb1
  go_wp2_with fail
  refine (cut_no1 n b _ hm).mono ?_
  rintro e w1 ⟨rfl, rfl⟩
  go_wp2_with fail
  refine (same_err 1 1 _ hH).mono ?_
  rintro e wW ⟨rfl, hb1⟩
  have hB := hB.trans (hb1.mono hB.size)
  have hH := hH.below hb1
  clear hb1
  go_wp2_with fail
  refine (rwhole_no cut b next _ hw).mono ?_
  rintro e w1 ⟨rfl, rfl⟩
  go_wp2_with fail
  refine (whole_no cut b next _ hw).mono ?_
  rintro e w1 ⟨rfl, rfl⟩
  go_wp2_with fail
  refine (same_err 1 1 _ hH).mono ?_
  rintro e wW ⟨rfl, hb1⟩
  have hB := hB.trans (hb1.mono hB.size)
  have hH := hH.below hb1
  clear hb1
  go_wp2
  go_ret
  exact ⟨by simp, hB⟩

set_option maxRecDepth 100000 in
set_option maxHeartbeats 4000000 in
theorem tells_nln (n k b cut next : Int) (w : World) (hH : Handle w) (hm : mayB n = true) (hn0 : 0 ≤ n)
    (hp : pairB n k = false) (hk : k < -1) (hb : lenB b = false) (hb2 : b < 1)
    (hw : wholeB cut b next = false) :
    Calls Tryd.prog 3 #[.int .i64 n, .int .i64 k, .int .i64 b, .int .i64 cut, .int .i64 next] w fun e w' => e = .returned (.bool true) ∧ Below w.heap.size w w' := by
  have hB : Below w.heap.size w w := Below.refl _ _
  go_enter Tryd.func3, Tryd.ntmps3
  go_wp2_with fail
  refine (rmay n _).mono ?_
  rintro e w1 ⟨rfl, rfl⟩
  rw [hm]
  go_wp2_with fail
  refine (need_no n k _ hp).mono ?_
  rintro e w1 ⟨rfl, rfl⟩
  go_wp2_with fail
  refine (same_err 1 1 _ hH).mono ?_
  rintro e wW ⟨rfl, hb1⟩
  have hB := hB.trans (hb1.mono hB.size)
  have hH := hH.below hb1
  clear hb1
  go_wp2_with fail
  refine (cut_no2 n b _ hm hb).mono ?_
  rintro e w1 ⟨rfl, rfl⟩
  go_wp2_with fail
  refine (same_err 1 1 _ hH).mono ?_
  rintro e wW ⟨rfl, hb1⟩
  have hB := hB.trans (hb1.mono hB.size)
  have hH := hH.below hb1
  clear hb1
  go_wp2_with fail
  refine (rwhole_no cut b next _ hw).mono ?_
  rintro e w1 ⟨rfl, rfl⟩
  go_wp2_with fail
  refine (whole_no cut b next _ hw).mono ?_
  rintro e w1 ⟨rfl, rfl⟩
  go_wp2_with fail
  refine (same_err 1 1 _ hH).mono ?_
  rintro e wW ⟨rfl, hb1⟩
  have hB := hB.trans (hb1.mono hB.size)
  have hH := hH.below hb1
  clear hb1
  go_wp2
  go_ret
  exact ⟨by simp, hB⟩

set_option maxRecDepth 100000 in
set_option maxHeartbeats 4000000 in
theorem tells_nhn (n k b cut next : Int) (w : World) (hH : Handle w) (hm : mayB n = true) (hn0 : 0 ≤ n)
    (hp : pairB n k = false) (hk : k < -1) (hb : lenB b = false) (hb2 : 4 < b)
    (hw : wholeB cut b next = false) :
    Calls Tryd.prog 3 #[.int .i64 n, .int .i64 k, .int .i64 b, .int .i64 cut, .int .i64 next] w fun e w' => e = .returned (.bool true) ∧ Below w.heap.size w w' := by
  have hB : Below w.heap.size w w := Below.refl _ _
  go_enter Tryd.func3, Tryd.ntmps3
  go_wp2_with fail
  refine (rmay n _).mono ?_
  rintro e w1 ⟨rfl, rfl⟩
  rw [hm]
  go_wp2_with fail
  refine (need_no n k _ hp).mono ?_
  rintro e w1 ⟨rfl, rfl⟩
  go_wp2_with fail
  refine (same_err 1 1 _ hH).mono ?_
  rintro e wW ⟨rfl, hb1⟩
  have hB := hB.trans (hb1.mono hB.size)
  have hH := hH.below hb1
  clear hb1
  go_wp2_with fail
  refine (cut_no2 n b _ hm hb).mono ?_
  rintro e w1 ⟨rfl, rfl⟩
  go_wp2_with fail
  refine (same_err 1 1 _ hH).mono ?_
  rintro e wW ⟨rfl, hb1⟩
  have hB := hB.trans (hb1.mono hB.size)
  have hH := hH.below hb1
  clear hb1
  go_wp2_with fail
  refine (rwhole_no cut b next _ hw).mono ?_
  rintro e w1 ⟨rfl, rfl⟩
  go_wp2_with fail
  refine (whole_no cut b next _ hw).mono ?_
  rintro e w1 ⟨rfl, rfl⟩
  go_wp2_with fail
  refine (same_err 1 1 _ hH).mono ?_
  rintro e wW ⟨rfl, hb1⟩
  have hB := hB.trans (hb1.mono hB.size)
  have hH := hH.below hb1
  clear hb1
  go_wp2
  go_ret
  exact ⟨by simp, hB⟩

set_option maxRecDepth 100000 in
set_option maxHeartbeats 4000000 in
theorem tells_nyn (n k b cut next : Int) (w : World) (hH : Handle w) (hm : mayB n = true) (hn0 : 0 ≤ n)
    (hp : pairB n k = false) (hk : k < -1) (hb : lenB b = true) (hb2 : 1 ≤ b) (hb3 : b ≤ 4)
    (hw : wholeB cut b next = false) :
    Calls Tryd.prog 3 #[.int .i64 n, .int .i64 k, .int .i64 b, .int .i64 cut, .int .i64 next] w fun e w' => e = .returned (.bool true) ∧ Below w.heap.size w w' := by
  have hB : Below w.heap.size w w := Below.refl _ _
  go_enter Tryd.func3, Tryd.ntmps3
  go_wp2_with fail
  refine (rmay n _).mono ?_
  rintro e w1 ⟨rfl, rfl⟩
  rw [hm]
  go_wp2_with fail
  refine (need_no n k _ hp).mono ?_
  rintro e w1 ⟨rfl, rfl⟩
  go_wp2_with fail
  refine (same_err 1 1 _ hH).mono ?_
  rintro e wW ⟨rfl, hb1⟩
  have hB := hB.trans (hb1.mono hB.size)
  have hH := hH.below hb1
  clear hb1
  go_wp2_with fail
  refine (round b _ hb).mono ?_
  rintro e w1 ⟨rfl, rfl⟩
  obtain ⟨hr0, hr1⟩ := rnd_bd b
  have hcut := fun w => cut_yes n b w hm hb
  generalize hrr : rnd b = r at hr0 hr1 hcut ⊢
  have ht : n.tmod r = n % r := Int.tmod_eq_emod_of_nonneg hn0
  have hm0 : 0 ≤ n % r := Int.emod_nonneg n (by omega)
  have hm1 : n % r < r := Int.emod_lt_of_pos n (by omega)
  go_wp2_with fail
  refine (hcut _).mono ?_
  rintro e w1 ⟨rfl, rfl⟩
  go_wp2_with fail
  refine (same_nil 0 _).mono ?_
  rintro e wW ⟨rfl, hb1⟩
  have hB := hB.trans (hb1.mono hB.size)
  have hH := hH.below hb1
  clear hb1
  go_wp2_with fail
  refine (rwhole_no cut b next _ hw).mono ?_
  rintro e w1 ⟨rfl, rfl⟩
  go_wp2_with fail
  refine (whole_no cut b next _ hw).mono ?_
  rintro e w1 ⟨rfl, rfl⟩
  go_wp2_with fail
  refine (same_err 1 1 _ hH).mono ?_
  rintro e wW ⟨rfl, hb1⟩
  have hB := hB.trans (hb1.mono hB.size)
  have hH := hH.below hb1
  clear hb1
  go_wp2
  go_ret
  exact ⟨by simp, hB⟩

set_option maxRecDepth 100000 in
set_option maxHeartbeats 4000000 in
theorem tells_mln (n k b cut next : Int) (w : World) (hH : Handle w) (hm : mayB n = true) (hn0 : 0 ≤ n)
    (hp : pairB n k = false) (hk : -1 ≤ k) (hk2 : n ≤ k) (hb : lenB b = false) (hb2 : b < 1)
    (hw : wholeB cut b next = false) :
    Calls Tryd.prog 3 #[.int .i64 n, .int .i64 k, .int .i64 b, .int .i64 cut, .int .i64 next] w fun e w' => e = .returned (.bool true) ∧ Below w.heap.size w w' := by
  have hB : Below w.heap.size w w := Below.refl _ _
  go_enter Tryd.func3, Tryd.ntmps3
  go_wp2_with fail
  refine (rmay n _).mono ?_
  rintro e w1 ⟨rfl, rfl⟩
  rw [hm]
  go_wp2_with fail
  refine (need_no n k _ hp).mono ?_
  rintro e w1 ⟨rfl, rfl⟩
  go_wp2_with fail
  refine (same_err 1 1 _ hH).mono ?_
  rintro e wW ⟨rfl, hb1⟩
  have hB := hB.trans (hb1.mono hB.size)
  have hH := hH.below hb1
  clear hb1
  go_wp2_with fail
  refine (cut_no2 n b _ hm hb).mono ?_
  rintro e w1 ⟨rfl, rfl⟩
  go_wp2_with fail
  refine (same_err 1 1 _ hH).mono ?_
  rintro e wW ⟨rfl, hb1⟩
  have hB := hB.trans (hb1.mono hB.size)
  have hH := hH.below hb1
  clear hb1
  go_wp2_with fail
  refine (rwhole_no cut b next _ hw).mono ?_
  rintro e w1 ⟨rfl, rfl⟩
  go_wp2_with fail
  refine (whole_no cut b next _ hw).mono ?_
  rintro e w1 ⟨rfl, rfl⟩
  go_wp2_with fail
  refine (same_err 1 1 _ hH).mono ?_
  rintro e wW ⟨rfl, hb1⟩
  have hB := hB.trans (hb1.mono hB.size)
  have hH := hH.below hb1
  clear hb1
  go_wp2
  go_ret
  exact ⟨by simp, hB⟩

set_option maxRecDepth 100000 in
set_option maxHeartbeats 4000000 in
theorem tells_mhn (n k b cut next : Int) (w : World) (hH : Handle w) (hm : mayB n = true) (hn0 : 0 ≤ n)
    (hp : pairB n k = false) (hk : -1 ≤ k) (hk2 : n ≤ k) (hb : lenB b = false) (hb2 : 4 < b)
    (hw : wholeB cut b next = false) :
    Calls Tryd.prog 3 #[.int .i64 n, .int .i64 k, .int .i64 b, .int .i64 cut, .int .i64 next] w fun e w' => e = .returned (.bool true) ∧ Below w.heap.size w w' := by
  have hB : Below w.heap.size w w := Below.refl _ _
  go_enter Tryd.func3, Tryd.ntmps3
  go_wp2_with fail
  refine (rmay n _).mono ?_
  rintro e w1 ⟨rfl, rfl⟩
  rw [hm]
  go_wp2_with fail
  refine (need_no n k _ hp).mono ?_
  rintro e w1 ⟨rfl, rfl⟩
  go_wp2_with fail
  refine (same_err 1 1 _ hH).mono ?_
  rintro e wW ⟨rfl, hb1⟩
  have hB := hB.trans (hb1.mono hB.size)
  have hH := hH.below hb1
  clear hb1
  go_wp2_with fail
  refine (cut_no2 n b _ hm hb).mono ?_
  rintro e w1 ⟨rfl, rfl⟩
  go_wp2_with fail
  refine (same_err 1 1 _ hH).mono ?_
  rintro e wW ⟨rfl, hb1⟩
  have hB := hB.trans (hb1.mono hB.size)
  have hH := hH.below hb1
  clear hb1
  go_wp2_with fail
  refine (rwhole_no cut b next _ hw).mono ?_
  rintro e w1 ⟨rfl, rfl⟩
  go_wp2_with fail
  refine (whole_no cut b next _ hw).mono ?_
  rintro e w1 ⟨rfl, rfl⟩
  go_wp2_with fail
  refine (same_err 1 1 _ hH).mono ?_
  rintro e wW ⟨rfl, hb1⟩
  have hB := hB.trans (hb1.mono hB.size)
  have hH := hH.below hb1
  clear hb1
  go_wp2
  go_ret
  exact ⟨by simp, hB⟩

set_option maxRecDepth 100000 in
set_option maxHeartbeats 4000000 in
theorem tells_myn (n k b cut next : Int) (w : World) (hH : Handle w) (hm : mayB n = true) (hn0 : 0 ≤ n)
    (hp : pairB n k = false) (hk : -1 ≤ k) (hk2 : n ≤ k) (hb : lenB b = true) (hb2 : 1 ≤ b) (hb3 : b ≤ 4)
    (hw : wholeB cut b next = false) :
    Calls Tryd.prog 3 #[.int .i64 n, .int .i64 k, .int .i64 b, .int .i64 cut, .int .i64 next] w fun e w' => e = .returned (.bool true) ∧ Below w.heap.size w w' := by
  have hB : Below w.heap.size w w := Below.refl _ _
  go_enter Tryd.func3, Tryd.ntmps3
  go_wp2_with fail
  refine (rmay n _).mono ?_
  rintro e w1 ⟨rfl, rfl⟩
  rw [hm]
  go_wp2_with fail
  refine (need_no n k _ hp).mono ?_
  rintro e w1 ⟨rfl, rfl⟩
  go_wp2_with fail
  refine (same_err 1 1 _ hH).mono ?_
  rintro e wW ⟨rfl, hb1⟩
  have hB := hB.trans (hb1.mono hB.size)
  have hH := hH.below hb1
  clear hb1
  go_wp2_with fail
  refine (round b _ hb).mono ?_
  rintro e w1 ⟨rfl, rfl⟩
  obtain ⟨hr0, hr1⟩ := rnd_bd b
  have hcut := fun w => cut_yes n b w hm hb
  generalize hrr : rnd b = r at hr0 hr1 hcut ⊢
  have ht : n.tmod r = n % r := Int.tmod_eq_emod_of_nonneg hn0
  have hm0 : 0 ≤ n % r := Int.emod_nonneg n (by omega)
  have hm1 : n % r < r := Int.emod_lt_of_pos n (by omega)
  go_wp2_with fail
  refine (hcut _).mono ?_
  rintro e w1 ⟨rfl, rfl⟩
  go_wp2_with fail
  refine (same_nil 0 _).mono ?_
  rintro e wW ⟨rfl, hb1⟩
  have hB := hB.trans (hb1.mono hB.size)
  have hH := hH.below hb1
  clear hb1
  go_wp2_with fail
  refine (rwhole_no cut b next _ hw).mono ?_
  rintro e w1 ⟨rfl, rfl⟩
  go_wp2_with fail
  refine (whole_no cut b next _ hw).mono ?_
  rintro e w1 ⟨rfl, rfl⟩
  go_wp2_with fail
  refine (same_err 1 1 _ hH).mono ?_
  rintro e wW ⟨rfl, hb1⟩
  have hB := hB.trans (hb1.mono hB.size)
  have hH := hH.below hb1
  clear hb1
  go_wp2
  go_ret
  exact ⟨by simp, hB⟩

set_option maxRecDepth 100000 in
set_option maxHeartbeats 4000000 in
theorem tells_yln (n k b cut next : Int) (w : World) (hH : Handle w) (hm : mayB n = true) (hn0 : 0 ≤ n)
    (hp : pairB n k = true) (hb : lenB b = false) (hb2 : b < 1)
    (hw : wholeB cut b next = false) :
    Calls Tryd.prog 3 #[.int .i64 n, .int .i64 k, .int .i64 b, .int .i64 cut, .int .i64 next] w fun e w' => e = .returned (.bool true) ∧ Below w.heap.size w w' := by
  obtain ⟨p0, p1, p2, p3⟩ := pairB_yes hp
  have hB : Below w.heap.size w w := Below.refl _ _
  go_enter Tryd.func3, Tryd.ntmps3
  go_wp2_with fail
  refine (rmay n _).mono ?_
  rintro e w1 ⟨rfl, rfl⟩
  rw [hm]
  go_wp2_with fail
  refine (rneed n k _ hp).mono ?_
  rintro e w1 ⟨rfl, rfl⟩
  go_wp2_with fail
  refine (need_yes n k _ hp).mono ?_
  rintro e w1 ⟨rfl, rfl⟩
  go_wp2_with fail
  refine (same_nil 0 _).mono ?_
  rintro e wW ⟨rfl, hb1⟩
  have hB := hB.trans (hb1.mono hB.size)
  have hH := hH.below hb1
  clear hb1
  go_wp2_with fail
  refine (cut_no2 n b _ hm hb).mono ?_
  rintro e w1 ⟨rfl, rfl⟩
  go_wp2_with fail
  refine (same_err 1 1 _ hH).mono ?_
  rintro e wW ⟨rfl, hb1⟩
  have hB := hB.trans (hb1.mono hB.size)
  have hH := hH.below hb1
  clear hb1
  go_wp2_with fail
  refine (rwhole_no cut b next _ hw).mono ?_
  rintro e w1 ⟨rfl, rfl⟩
  go_wp2_with fail
  refine (whole_no cut b next _ hw).mono ?_
  rintro e w1 ⟨rfl, rfl⟩
  go_wp2_with fail
  refine (same_err 1 1 _ hH).mono ?_
  rintro e wW ⟨rfl, hb1⟩
  have hB := hB.trans (hb1.mono hB.size)
  have hH := hH.below hb1
  clear hb1
  go_wp2
  go_ret
  exact ⟨by simp, hB⟩

set_option maxRecDepth 100000 in
set_option maxHeartbeats 4000000 in
theorem tells_yhn (n k b cut next : Int) (w : World) (hH : Handle w) (hm : mayB n = true) (hn0 : 0 ≤ n)
    (hp : pairB n k = true) (hb : lenB b = false) (hb2 : 4 < b)
    (hw : wholeB cut b next = false) :
    Calls Tryd.prog 3 #[.int .i64 n, .int .i64 k, .int .i64 b, .int .i64 cut, .int .i64 next] w fun e w' => e = .returned (.bool true) ∧ Below w.heap.size w w' := by
  obtain ⟨p0, p1, p2, p3⟩ := pairB_yes hp
  have hB : Below w.heap.size w w := Below.refl _ _
  go_enter Tryd.func3, Tryd.ntmps3
  go_wp2_with fail
  refine (rmay n _).mono ?_
  rintro e w1 ⟨rfl, rfl⟩
  rw [hm]
  go_wp2_with fail
  refine (rneed n k _ hp).mono ?_
  rintro e w1 ⟨rfl, rfl⟩
  go_wp2_with fail
  refine (need_yes n k _ hp).mono ?_
  rintro e w1 ⟨rfl, rfl⟩
  go_wp2_with fail
  refine (same_nil 0 _).mono ?_
  rintro e wW ⟨rfl, hb1⟩
  have hB := hB.trans (hb1.mono hB.size)
  have hH := hH.below hb1
  clear hb1
  go_wp2_with fail
  refine (cut_no2 n b _ hm hb).mono ?_
  rintro e w1 ⟨rfl, rfl⟩
  go_wp2_with fail
  refine (same_err 1 1 _ hH).mono ?_
  rintro e wW ⟨rfl, hb1⟩
  have hB := hB.trans (hb1.mono hB.size)
  have hH := hH.below hb1
  clear hb1
  go_wp2_with fail
  refine (rwhole_no cut b next _ hw).mono ?_
  rintro e w1 ⟨rfl, rfl⟩
  go_wp2_with fail
  refine (whole_no cut b next _ hw).mono ?_
  rintro e w1 ⟨rfl, rfl⟩
  go_wp2_with fail
  refine (same_err 1 1 _ hH).mono ?_
  rintro e wW ⟨rfl, hb1⟩
  have hB := hB.trans (hb1.mono hB.size)
  have hH := hH.below hb1
  clear hb1
  go_wp2
  go_ret
  exact ⟨by simp, hB⟩

set_option maxRecDepth 100000 in
set_option maxHeartbeats 4000000 in
theorem tells_yyn (n k b cut next : Int) (w : World) (hH : Handle w) (hm : mayB n = true) (hn0 : 0 ≤ n)
    (hp : pairB n k = true) (hb : lenB b = true) (hb2 : 1 ≤ b) (hb3 : b ≤ 4)
    (hw : wholeB cut b next = false) :
    Calls Tryd.prog 3 #[.int .i64 n, .int .i64 k, .int .i64 b, .int .i64 cut, .int .i64 next] w fun e w' => e = .returned (.bool true) ∧ Below w.heap.size w w' := by
  obtain ⟨p0, p1, p2, p3⟩ := pairB_yes hp
  have hB : Below w.heap.size w w := Below.refl _ _
  go_enter Tryd.func3, Tryd.ntmps3
  go_wp2_with fail
  refine (rmay n _).mono ?_
  rintro e w1 ⟨rfl, rfl⟩
  rw [hm]
  go_wp2_with fail
  refine (rneed n k _ hp).mono ?_
  rintro e w1 ⟨rfl, rfl⟩
  go_wp2_with fail
  refine (need_yes n k _ hp).mono ?_
  rintro e w1 ⟨rfl, rfl⟩
  go_wp2_with fail
  refine (same_nil 0 _).mono ?_
  rintro e wW ⟨rfl, hb1⟩
  have hB := hB.trans (hb1.mono hB.size)
  have hH := hH.below hb1
  clear hb1
  go_wp2_with fail
  refine (round b _ hb).mono ?_
  rintro e w1 ⟨rfl, rfl⟩
  obtain ⟨hr0, hr1⟩ := rnd_bd b
  have hcut := fun w => cut_yes n b w hm hb
  generalize hrr : rnd b = r at hr0 hr1 hcut ⊢
  have ht : n.tmod r = n % r := Int.tmod_eq_emod_of_nonneg hn0
  have hm0 : 0 ≤ n % r := Int.emod_nonneg n (by omega)
  have hm1 : n % r < r := Int.emod_lt_of_pos n (by omega)
  go_wp2_with fail
  refine (hcut _).mono ?_
  rintro e w1 ⟨rfl, rfl⟩
  go_wp2_with fail
  refine (same_nil 0 _).mono ?_
  rintro e wW ⟨rfl, hb1⟩
  have hB := hB.trans (hb1.mono hB.size)
  have hH := hH.below hb1
  clear hb1
  go_wp2_with fail
  refine (rwhole_no cut b next _ hw).mono ?_
  rintro e w1 ⟨rfl, rfl⟩
  go_wp2_with fail
  refine (whole_no cut b next _ hw).mono ?_
  rintro e w1 ⟨rfl, rfl⟩
  go_wp2_with fail
  refine (same_err 1 1 _ hH).mono ?_
  rintro e wW ⟨rfl, hb1⟩
  have hB := hB.trans (hb1.mono hB.size)
  have hH := hH.below hb1
  clear hb1
  go_wp2
  go_ret
  exact ⟨by simp, hB⟩

theorem tells_calls (n k b cut next : Int) (w : World) (hH : Handle w) :
    Calls Tryd.prog 3 #[.int .i64 n, .int .i64 k, .int .i64 b, .int .i64 cut, .int .i64 next] w fun e w' => e = .returned (.bool true) ∧ Below w.heap.size w w' := by
  cases hm : mayB n with
  | false =>
    have hp : pairB n k = false := decide_eq_false (by rcases mayB_no hm with h | h <;> omega)
    cases hw : wholeB cut b next with
    | true => exact tells_xy n k b cut next w hH hm hp hw
    | false => exact tells_xn n k b cut next w hH hm hp hw
  | true =>
    have hn0 := (mayB_yes hm).1
    have hA : (pairB n k = false ∧ k < -1) ∨ (pairB n k = false ∧ -1 ≤ k ∧ n ≤ k) ∨ pairB n k = true := by
      cases hp : pairB n k with
      | true => exact Or.inr (Or.inr rfl)
      | false =>
        rcases pairB_no hp with h | ⟨_, h⟩ | ⟨_, h, h2⟩
        · rw [hm] at h; cases h
        · exact Or.inl ⟨rfl, h⟩
        · exact Or.inr (Or.inl ⟨rfl, h, h2⟩)
    have hB : (lenB b = false ∧ b < 1) ∨ (lenB b = false ∧ 4 < b) ∨ (lenB b = true ∧ 1 ≤ b ∧ b ≤ 4) := by
      cases hb : lenB b with
      | true => exact Or.inr (Or.inr ⟨rfl, of_decide_eq_true hb⟩)
      | false =>
        rcases lenB_no hb with h | h
        · exact Or.inl ⟨rfl, h⟩
        · exact Or.inr (Or.inl ⟨rfl, h⟩)
    cases hw : wholeB cut b next with
    | true =>
      rcases hA with ⟨a, a1⟩ | ⟨a, a1, a2⟩ | a <;> rcases hB with ⟨c, c1⟩ | ⟨c, c1⟩ | ⟨c, c1, c2⟩
      · exact tells_nly n k b cut next w hH hm hn0 a a1 c c1 hw
      · exact tells_nhy n k b cut next w hH hm hn0 a a1 c c1 hw
      · exact tells_nyy n k b cut next w hH hm hn0 a a1 c c1 c2 hw
      · exact tells_mly n k b cut next w hH hm hn0 a a1 a2 c c1 hw
      · exact tells_mhy n k b cut next w hH hm hn0 a a1 a2 c c1 hw
      · exact tells_myy n k b cut next w hH hm hn0 a a1 a2 c c1 c2 hw
      · exact tells_yly n k b cut next w hH hm hn0 a c c1 hw
      · exact tells_yhy n k b cut next w hH hm hn0 a c c1 hw
      · exact tells_yyy n k b cut next w hH hm hn0 a c c1 c2 hw
    | false =>
      rcases hA with ⟨a, a1⟩ | ⟨a, a1, a2⟩ | a <;> rcases hB with ⟨c, c1⟩ | ⟨c, c1⟩ | ⟨c, c1, c2⟩
      · exact tells_nln n k b cut next w hH hm hn0 a a1 c c1 hw
      · exact tells_nhn n k b cut next w hH hm hn0 a a1 c c1 hw
      · exact tells_nyn n k b cut next w hH hm hn0 a a1 c c1 c2 hw
      · exact tells_mln n k b cut next w hH hm hn0 a a1 a2 c c1 hw
      · exact tells_mhn n k b cut next w hH hm hn0 a a1 a2 c c1 hw
      · exact tells_myn n k b cut next w hH hm hn0 a a1 a2 c c1 c2 hw
      · exact tells_yln n k b cut next w hH hm hn0 a c c1 hw
      · exact tells_yhn n k b cut next w hH hm hn0 a c c1 hw
      · exact tells_yyn n k b cut next w hH hm hn0 a c c1 c2 hw
end Go.Proofs.YtbhjncdckkenjaaDoor
