/- Proved: the law NumberWhole returns true for every six integers, and leaves them: a number cut to what it needs above one that is known is told by who expects any one behind that, up to it; what is told is cut so, and none that is cut so is nearer; without any condition. -/
import Derived.Test.YtbhjncdckkenjaaRows
import Derived.Test.YtbhjncdckkenjaaR
import Derived.WalkKit
import Derived.ProofKit
import Derived.OpenShut
import Derived.ShutString
namespace Go.Proofs.Ytbhjncdckkenjaa.numberWhole
open Go.ChangeShapes Go.WideShapes Go.ChangeAt Go.RowKit
open Go.ChangeMaps (open_string shut_string)
set_option linter.unusedVariables false      -- a walk need not use every 'w<i>' (that an integer argument fits its kind)

theorem own : ownKnob Try.prog.godebug = none := by kernel_rfl

set_option maxRecDepth 100000 in
set_option maxHeartbeats 4000000 in
theorem walk_0a (n k more cut b next : Int) (w : World)
    (hB : wholeB cut b next = false)
    (hC : pairB n k = false) :
    Calls Try.prog 3 #[.int .i64 n, .int .i64 k, .int .i64 more, .int .i64 cut, .int .i64 b, .int .i64 next] w fun e w' => e = .returned (.bool true) ∧ w' = w := by
  go_enter Try.func3, Try.ntmps3
  go_wp2_with fail
  refine (whole_yes 155 1 4660 _ rfl).mono ?_
  rintro e w1 ⟨rfl, rfl⟩
  rw [show near 155 (rnd 1) 4660 = 4763 from rfl]
  go_wp2_with fail
  refine (whole_no cut b next _ hB).mono ?_
  rintro e w1 ⟨rfl, rfl⟩
  go_wp2_with fail
  refine (need_no n k _ hC).mono ?_
  rintro e w1 ⟨rfl, rfl⟩
  go_wp2
  go_ret
  exact ⟨by simp, rfl⟩

set_option maxRecDepth 100000 in
set_option maxHeartbeats 4000000 in
theorem walk_0b (n k more cut b next : Int) (w : World)
    (hB : wholeB cut b next = false)
    (hC : pairB n k = true) (hm : more < k) :
    Calls Try.prog 3 #[.int .i64 n, .int .i64 k, .int .i64 more, .int .i64 cut, .int .i64 b, .int .i64 next] w fun e w' => e = .returned (.bool true) ∧ w' = w := by
  go_enter Try.func3, Try.ntmps3
  go_wp2_with fail
  refine (whole_yes 155 1 4660 _ rfl).mono ?_
  rintro e w1 ⟨rfl, rfl⟩
  rw [show near 155 (rnd 1) 4660 = 4763 from rfl]
  go_wp2_with fail
  refine (whole_no cut b next _ hB).mono ?_
  rintro e w1 ⟨rfl, rfl⟩
  go_wp2_with fail
  refine (need_yes n k _ hC).mono ?_
  rintro e w1 ⟨rfl, rfl⟩
  go_wp2
  go_ret
  exact ⟨by simp, rfl⟩

set_option maxRecDepth 100000 in
set_option maxHeartbeats 4000000 in
theorem walk_0c (n k more cut b next : Int) (w : World)
    (hB : wholeB cut b next = false)
    (hC : pairB n k = true) (hm : k ≤ more) (hm2 : n ≤ more) :
    Calls Try.prog 3 #[.int .i64 n, .int .i64 k, .int .i64 more, .int .i64 cut, .int .i64 b, .int .i64 next] w fun e w' => e = .returned (.bool true) ∧ w' = w := by
  go_enter Try.func3, Try.ntmps3
  go_wp2_with fail
  refine (whole_yes 155 1 4660 _ rfl).mono ?_
  rintro e w1 ⟨rfl, rfl⟩
  rw [show near 155 (rnd 1) 4660 = 4763 from rfl]
  go_wp2_with fail
  refine (whole_no cut b next _ hB).mono ?_
  rintro e w1 ⟨rfl, rfl⟩
  go_wp2_with fail
  refine (need_yes n k _ hC).mono ?_
  rintro e w1 ⟨rfl, rfl⟩
  go_wp2
  go_ret
  exact ⟨by simp, rfl⟩

set_option maxRecDepth 100000 in
set_option maxHeartbeats 4000000 in
theorem walk_0d (n k more cut b next : Int) (w : World)
    (hB : wholeB cut b next = false)
    (hC : pairB n k = true) (hm : k ≤ more) (hm2 : more < n) :
    Calls Try.prog 3 #[.int .i64 n, .int .i64 k, .int .i64 more, .int .i64 cut, .int .i64 b, .int .i64 next] w fun e w' => e = .returned (.bool true) ∧ w' = w := by
  obtain ⟨ht0, ht1⟩ := told_right n k more hC hm hm2
  obtain ⟨p0, p1, p2, p3⟩ := pairB_yes hC
  have hmn : mayB n = true := (mayB_iff _).2 ⟨p0, p1⟩
  have hlb := need_len n k
  have hd : 1 ≤ need n k ∧ need n k ≤ 4 := of_decide_eq_true hlb
  obtain ⟨hd0, hd1⟩ := hd
  go_enter Try.func3, Try.ntmps3
  go_wp2_with fail
  refine (whole_yes 155 1 4660 _ rfl).mono ?_
  rintro e w1 ⟨rfl, rfl⟩
  rw [show near 155 (rnd 1) 4660 = 4763 from rfl]
  go_wp2_with fail
  refine (whole_no cut b next _ hB).mono ?_
  rintro e w1 ⟨rfl, rfl⟩
  go_wp2_with fail
  refine (need_yes n k _ hC).mono ?_
  rintro e w1 ⟨rfl, rfl⟩
  go_wp2_with fail
  refine (cut_yes n (need n k) _ hmn hlb).mono ?_
  rintro e w1 ⟨rfl, rfl⟩
  go_wp2_with fail
  refine (whole_yes (n % rnd (need n k)) (need n k) (more + 1) _ ht0).mono ?_
  rintro e w1 ⟨rfl, rfl⟩
  rw [ht1]
  generalize need n k = d at hd0 hd1 ⊢
  go_wp2
  go_ret
  exact ⟨by simp <;> omega, rfl⟩

set_option maxRecDepth 100000 in
set_option maxHeartbeats 4000000 in
theorem walk_1a (n k more cut b next : Int) (w : World)
    (hB : wholeB cut b next = true) (g1 : near cut (rnd b) next < rnd b) (g2 : 1073741823 < near cut (rnd b) next + rnd b)
    (hC : pairB n k = false) :
    Calls Try.prog 3 #[.int .i64 n, .int .i64 k, .int .i64 more, .int .i64 cut, .int .i64 b, .int .i64 next] w fun e w' => e = .returned (.bool true) ∧ w' = w := by
  obtain ⟨⟨hx0, hx1⟩, hxc, hxl, hxh⟩ := near_spec cut b next hB
  obtain ⟨⟨⟨hn, hb⟩, hc⟩, hl⟩ := (wholeB_iff _ _ _).1 hB
  obtain ⟨n0, n1⟩ := mayB_yes hn
  have hmx : mayB (near cut (rnd b) next) = true := (mayB_iff _).2 ⟨hx0, hx1⟩
  have hr := rnd_bd b
  have hW := whole_yes cut b next
  clear hxl
  clear hxh
  go_enter Try.func3, Try.ntmps3
  go_wp2_with fail
  refine (whole_yes 155 1 4660 _ rfl).mono ?_
  rintro e w1 ⟨rfl, rfl⟩
  rw [show near 155 (rnd 1) 4660 = 4763 from rfl]
  go_wp2_with fail
  refine (hW _ hB).mono ?_
  rintro e w1 ⟨rfl, rfl⟩
  go_wp2_with fail
  refine (cut_yes (near cut (rnd b) next) b _ hmx hb).mono ?_
  rintro e w1 ⟨rfl, rfl⟩
  rw [hxc]
  go_wp2_with fail
  refine (round b _ hb).mono ?_
  rintro e w1 ⟨rfl, rfl⟩
  generalize hxx : near cut (rnd b) next = x at hx0 hx1 g1 g2   ⊢
  generalize hrr : rnd b = r at hr g1 g2   ⊢
  go_wp2_with fail
  refine (farc (x - next) _ (by omega)).mono ?_
  rintro e w1 ⟨rfl, rfl⟩
  go_wp2_with fail
  go_wp2_with fail
  refine (need_no n k _ hC).mono ?_
  rintro e w1 ⟨rfl, rfl⟩
  go_wp2
  go_ret
  exact ⟨by simp, rfl⟩

set_option maxRecDepth 100000 in
set_option maxHeartbeats 4000000 in
theorem walk_1b (n k more cut b next : Int) (w : World)
    (hB : wholeB cut b next = true) (g1 : near cut (rnd b) next < rnd b) (g2 : 1073741823 < near cut (rnd b) next + rnd b)
    (hC : pairB n k = true) (hm : more < k) :
    Calls Try.prog 3 #[.int .i64 n, .int .i64 k, .int .i64 more, .int .i64 cut, .int .i64 b, .int .i64 next] w fun e w' => e = .returned (.bool true) ∧ w' = w := by
  obtain ⟨⟨hx0, hx1⟩, hxc, hxl, hxh⟩ := near_spec cut b next hB
  obtain ⟨⟨⟨hn, hb⟩, hc⟩, hl⟩ := (wholeB_iff _ _ _).1 hB
  obtain ⟨n0, n1⟩ := mayB_yes hn
  have hmx : mayB (near cut (rnd b) next) = true := (mayB_iff _).2 ⟨hx0, hx1⟩
  have hr := rnd_bd b
  have hW := whole_yes cut b next
  clear hxl
  clear hxh
  go_enter Try.func3, Try.ntmps3
  go_wp2_with fail
  refine (whole_yes 155 1 4660 _ rfl).mono ?_
  rintro e w1 ⟨rfl, rfl⟩
  rw [show near 155 (rnd 1) 4660 = 4763 from rfl]
  go_wp2_with fail
  refine (hW _ hB).mono ?_
  rintro e w1 ⟨rfl, rfl⟩
  go_wp2_with fail
  refine (cut_yes (near cut (rnd b) next) b _ hmx hb).mono ?_
  rintro e w1 ⟨rfl, rfl⟩
  rw [hxc]
  go_wp2_with fail
  refine (round b _ hb).mono ?_
  rintro e w1 ⟨rfl, rfl⟩
  generalize hxx : near cut (rnd b) next = x at hx0 hx1 g1 g2   ⊢
  generalize hrr : rnd b = r at hr g1 g2   ⊢
  go_wp2_with fail
  refine (farc (x - next) _ (by omega)).mono ?_
  rintro e w1 ⟨rfl, rfl⟩
  go_wp2_with fail
  go_wp2_with fail
  refine (need_yes n k _ hC).mono ?_
  rintro e w1 ⟨rfl, rfl⟩
  go_wp2
  go_ret
  exact ⟨by simp, rfl⟩

set_option maxRecDepth 100000 in
set_option maxHeartbeats 4000000 in
theorem walk_1c (n k more cut b next : Int) (w : World)
    (hB : wholeB cut b next = true) (g1 : near cut (rnd b) next < rnd b) (g2 : 1073741823 < near cut (rnd b) next + rnd b)
    (hC : pairB n k = true) (hm : k ≤ more) (hm2 : n ≤ more) :
    Calls Try.prog 3 #[.int .i64 n, .int .i64 k, .int .i64 more, .int .i64 cut, .int .i64 b, .int .i64 next] w fun e w' => e = .returned (.bool true) ∧ w' = w := by
  obtain ⟨⟨hx0, hx1⟩, hxc, hxl, hxh⟩ := near_spec cut b next hB
  obtain ⟨⟨⟨hn, hb⟩, hc⟩, hl⟩ := (wholeB_iff _ _ _).1 hB
  obtain ⟨n0, n1⟩ := mayB_yes hn
  have hmx : mayB (near cut (rnd b) next) = true := (mayB_iff _).2 ⟨hx0, hx1⟩
  have hr := rnd_bd b
  have hW := whole_yes cut b next
  clear hxl
  clear hxh
  go_enter Try.func3, Try.ntmps3
  go_wp2_with fail
  refine (whole_yes 155 1 4660 _ rfl).mono ?_
  rintro e w1 ⟨rfl, rfl⟩
  rw [show near 155 (rnd 1) 4660 = 4763 from rfl]
  go_wp2_with fail
  refine (hW _ hB).mono ?_
  rintro e w1 ⟨rfl, rfl⟩
  go_wp2_with fail
  refine (cut_yes (near cut (rnd b) next) b _ hmx hb).mono ?_
  rintro e w1 ⟨rfl, rfl⟩
  rw [hxc]
  go_wp2_with fail
  refine (round b _ hb).mono ?_
  rintro e w1 ⟨rfl, rfl⟩
  generalize hxx : near cut (rnd b) next = x at hx0 hx1 g1 g2   ⊢
  generalize hrr : rnd b = r at hr g1 g2   ⊢
  go_wp2_with fail
  refine (farc (x - next) _ (by omega)).mono ?_
  rintro e w1 ⟨rfl, rfl⟩
  go_wp2_with fail
  go_wp2_with fail
  refine (need_yes n k _ hC).mono ?_
  rintro e w1 ⟨rfl, rfl⟩
  go_wp2
  go_ret
  exact ⟨by simp, rfl⟩

set_option maxRecDepth 100000 in
set_option maxHeartbeats 4000000 in
theorem walk_1d (n k more cut b next : Int) (w : World)
    (hB : wholeB cut b next = true) (g1 : near cut (rnd b) next < rnd b) (g2 : 1073741823 < near cut (rnd b) next + rnd b)
    (hC : pairB n k = true) (hm : k ≤ more) (hm2 : more < n) :
    Calls Try.prog 3 #[.int .i64 n, .int .i64 k, .int .i64 more, .int .i64 cut, .int .i64 b, .int .i64 next] w fun e w' => e = .returned (.bool true) ∧ w' = w := by
  obtain ⟨⟨hx0, hx1⟩, hxc, hxl, hxh⟩ := near_spec cut b next hB
  obtain ⟨⟨⟨hn, hb⟩, hc⟩, hl⟩ := (wholeB_iff _ _ _).1 hB
  obtain ⟨n0, n1⟩ := mayB_yes hn
  have hmx : mayB (near cut (rnd b) next) = true := (mayB_iff _).2 ⟨hx0, hx1⟩
  have hr := rnd_bd b
  have hW := whole_yes cut b next
  clear hxl
  clear hxh
  obtain ⟨ht0, ht1⟩ := told_right n k more hC hm hm2
  obtain ⟨p0, p1, p2, p3⟩ := pairB_yes hC
  have hmn : mayB n = true := (mayB_iff _).2 ⟨p0, p1⟩
  have hlb := need_len n k
  have hd : 1 ≤ need n k ∧ need n k ≤ 4 := of_decide_eq_true hlb
  obtain ⟨hd0, hd1⟩ := hd
  go_enter Try.func3, Try.ntmps3
  go_wp2_with fail
  refine (whole_yes 155 1 4660 _ rfl).mono ?_
  rintro e w1 ⟨rfl, rfl⟩
  rw [show near 155 (rnd 1) 4660 = 4763 from rfl]
  go_wp2_with fail
  refine (hW _ hB).mono ?_
  rintro e w1 ⟨rfl, rfl⟩
  go_wp2_with fail
  refine (cut_yes (near cut (rnd b) next) b _ hmx hb).mono ?_
  rintro e w1 ⟨rfl, rfl⟩
  rw [hxc]
  go_wp2_with fail
  refine (round b _ hb).mono ?_
  rintro e w1 ⟨rfl, rfl⟩
  generalize hxx : near cut (rnd b) next = x at hx0 hx1 g1 g2   ⊢
  generalize hrr : rnd b = r at hr g1 g2   ⊢
  go_wp2_with fail
  refine (farc (x - next) _ (by omega)).mono ?_
  rintro e w1 ⟨rfl, rfl⟩
  go_wp2_with fail
  go_wp2_with fail
  refine (need_yes n k _ hC).mono ?_
  rintro e w1 ⟨rfl, rfl⟩
  go_wp2_with fail
  refine (cut_yes n (need n k) _ hmn hlb).mono ?_
  rintro e w1 ⟨rfl, rfl⟩
  go_wp2_with fail
  refine (whole_yes (n % rnd (need n k)) (need n k) (more + 1) _ ht0).mono ?_
  rintro e w1 ⟨rfl, rfl⟩
  rw [ht1]
  generalize need n k = d at hd0 hd1 ⊢
  go_wp2
  go_ret
  exact ⟨by simp <;> omega, rfl⟩

set_option maxRecDepth 100000 in
set_option maxHeartbeats 4000000 in
theorem walk_2a (n k more cut b next : Int) (w : World)
    (hB : wholeB cut b next = true) (g1 : rnd b ≤ near cut (rnd b) next) (g2 : 1073741823 < near cut (rnd b) next + rnd b)
    (hC : pairB n k = false) :
    Calls Try.prog 3 #[.int .i64 n, .int .i64 k, .int .i64 more, .int .i64 cut, .int .i64 b, .int .i64 next] w fun e w' => e = .returned (.bool true) ∧ w' = w := by
  obtain ⟨⟨hx0, hx1⟩, hxc, hxl, hxh⟩ := near_spec cut b next hB
  obtain ⟨⟨⟨hn, hb⟩, hc⟩, hl⟩ := (wholeB_iff _ _ _).1 hB
  obtain ⟨n0, n1⟩ := mayB_yes hn
  have hmx : mayB (near cut (rnd b) next) = true := (mayB_iff _).2 ⟨hx0, hx1⟩
  have hr := rnd_bd b
  have hW := whole_yes cut b next
  have hxl := hxl g1
  clear hxh
  go_enter Try.func3, Try.ntmps3
  go_wp2_with fail
  refine (whole_yes 155 1 4660 _ rfl).mono ?_
  rintro e w1 ⟨rfl, rfl⟩
  rw [show near 155 (rnd 1) 4660 = 4763 from rfl]
  go_wp2_with fail
  refine (hW _ hB).mono ?_
  rintro e w1 ⟨rfl, rfl⟩
  go_wp2_with fail
  refine (cut_yes (near cut (rnd b) next) b _ hmx hb).mono ?_
  rintro e w1 ⟨rfl, rfl⟩
  rw [hxc]
  go_wp2_with fail
  refine (round b _ hb).mono ?_
  rintro e w1 ⟨rfl, rfl⟩
  generalize hxx : near cut (rnd b) next = x at hx0 hx1 g1 g2 hxl  ⊢
  generalize hrr : rnd b = r at hr g1 g2 hxl  ⊢
  go_wp2_with fail
  refine (farc (x - next) _ (by omega)).mono ?_
  rintro e w1 ⟨rfl, rfl⟩
  go_wp2_with fail
  refine (farc (x - r - next) _ (by omega)).mono ?_
  rintro e w1 ⟨rfl, rfl⟩
  go_wp2_with fail
  go_wp2_with fail
  refine (need_no n k _ hC).mono ?_
  rintro e w1 ⟨rfl, rfl⟩
  go_wp2
  go_ret
  exact ⟨by simp, rfl⟩

set_option maxRecDepth 100000 in
set_option maxHeartbeats 4000000 in
theorem walk_2b (n k more cut b next : Int) (w : World)
    (hB : wholeB cut b next = true) (g1 : rnd b ≤ near cut (rnd b) next) (g2 : 1073741823 < near cut (rnd b) next + rnd b)
    (hC : pairB n k = true) (hm : more < k) :
    Calls Try.prog 3 #[.int .i64 n, .int .i64 k, .int .i64 more, .int .i64 cut, .int .i64 b, .int .i64 next] w fun e w' => e = .returned (.bool true) ∧ w' = w := by
  obtain ⟨⟨hx0, hx1⟩, hxc, hxl, hxh⟩ := near_spec cut b next hB
  obtain ⟨⟨⟨hn, hb⟩, hc⟩, hl⟩ := (wholeB_iff _ _ _).1 hB
  obtain ⟨n0, n1⟩ := mayB_yes hn
  have hmx : mayB (near cut (rnd b) next) = true := (mayB_iff _).2 ⟨hx0, hx1⟩
  have hr := rnd_bd b
  have hW := whole_yes cut b next
  have hxl := hxl g1
  clear hxh
  go_enter Try.func3, Try.ntmps3
  go_wp2_with fail
  refine (whole_yes 155 1 4660 _ rfl).mono ?_
  rintro e w1 ⟨rfl, rfl⟩
  rw [show near 155 (rnd 1) 4660 = 4763 from rfl]
  go_wp2_with fail
  refine (hW _ hB).mono ?_
  rintro e w1 ⟨rfl, rfl⟩
  go_wp2_with fail
  refine (cut_yes (near cut (rnd b) next) b _ hmx hb).mono ?_
  rintro e w1 ⟨rfl, rfl⟩
  rw [hxc]
  go_wp2_with fail
  refine (round b _ hb).mono ?_
  rintro e w1 ⟨rfl, rfl⟩
  generalize hxx : near cut (rnd b) next = x at hx0 hx1 g1 g2 hxl  ⊢
  generalize hrr : rnd b = r at hr g1 g2 hxl  ⊢
  go_wp2_with fail
  refine (farc (x - next) _ (by omega)).mono ?_
  rintro e w1 ⟨rfl, rfl⟩
  go_wp2_with fail
  refine (farc (x - r - next) _ (by omega)).mono ?_
  rintro e w1 ⟨rfl, rfl⟩
  go_wp2_with fail
  go_wp2_with fail
  refine (need_yes n k _ hC).mono ?_
  rintro e w1 ⟨rfl, rfl⟩
  go_wp2
  go_ret
  exact ⟨by simp, rfl⟩

set_option maxRecDepth 100000 in
set_option maxHeartbeats 4000000 in
theorem walk_2c (n k more cut b next : Int) (w : World)
    (hB : wholeB cut b next = true) (g1 : rnd b ≤ near cut (rnd b) next) (g2 : 1073741823 < near cut (rnd b) next + rnd b)
    (hC : pairB n k = true) (hm : k ≤ more) (hm2 : n ≤ more) :
    Calls Try.prog 3 #[.int .i64 n, .int .i64 k, .int .i64 more, .int .i64 cut, .int .i64 b, .int .i64 next] w fun e w' => e = .returned (.bool true) ∧ w' = w := by
  obtain ⟨⟨hx0, hx1⟩, hxc, hxl, hxh⟩ := near_spec cut b next hB
  obtain ⟨⟨⟨hn, hb⟩, hc⟩, hl⟩ := (wholeB_iff _ _ _).1 hB
  obtain ⟨n0, n1⟩ := mayB_yes hn
  have hmx : mayB (near cut (rnd b) next) = true := (mayB_iff _).2 ⟨hx0, hx1⟩
  have hr := rnd_bd b
  have hW := whole_yes cut b next
  have hxl := hxl g1
  clear hxh
  go_enter Try.func3, Try.ntmps3
  go_wp2_with fail
  refine (whole_yes 155 1 4660 _ rfl).mono ?_
  rintro e w1 ⟨rfl, rfl⟩
  rw [show near 155 (rnd 1) 4660 = 4763 from rfl]
  go_wp2_with fail
  refine (hW _ hB).mono ?_
  rintro e w1 ⟨rfl, rfl⟩
  go_wp2_with fail
  refine (cut_yes (near cut (rnd b) next) b _ hmx hb).mono ?_
  rintro e w1 ⟨rfl, rfl⟩
  rw [hxc]
  go_wp2_with fail
  refine (round b _ hb).mono ?_
  rintro e w1 ⟨rfl, rfl⟩
  generalize hxx : near cut (rnd b) next = x at hx0 hx1 g1 g2 hxl  ⊢
  generalize hrr : rnd b = r at hr g1 g2 hxl  ⊢
  go_wp2_with fail
  refine (farc (x - next) _ (by omega)).mono ?_
  rintro e w1 ⟨rfl, rfl⟩
  go_wp2_with fail
  refine (farc (x - r - next) _ (by omega)).mono ?_
  rintro e w1 ⟨rfl, rfl⟩
  go_wp2_with fail
  go_wp2_with fail
  refine (need_yes n k _ hC).mono ?_
  rintro e w1 ⟨rfl, rfl⟩
  go_wp2
  go_ret
  exact ⟨by simp, rfl⟩

set_option maxRecDepth 100000 in
set_option maxHeartbeats 4000000 in
theorem walk_2d (n k more cut b next : Int) (w : World)
    (hB : wholeB cut b next = true) (g1 : rnd b ≤ near cut (rnd b) next) (g2 : 1073741823 < near cut (rnd b) next + rnd b)
    (hC : pairB n k = true) (hm : k ≤ more) (hm2 : more < n) :
    Calls Try.prog 3 #[.int .i64 n, .int .i64 k, .int .i64 more, .int .i64 cut, .int .i64 b, .int .i64 next] w fun e w' => e = .returned (.bool true) ∧ w' = w := by
  obtain ⟨⟨hx0, hx1⟩, hxc, hxl, hxh⟩ := near_spec cut b next hB
  obtain ⟨⟨⟨hn, hb⟩, hc⟩, hl⟩ := (wholeB_iff _ _ _).1 hB
  obtain ⟨n0, n1⟩ := mayB_yes hn
  have hmx : mayB (near cut (rnd b) next) = true := (mayB_iff _).2 ⟨hx0, hx1⟩
  have hr := rnd_bd b
  have hW := whole_yes cut b next
  have hxl := hxl g1
  clear hxh
  obtain ⟨ht0, ht1⟩ := told_right n k more hC hm hm2
  obtain ⟨p0, p1, p2, p3⟩ := pairB_yes hC
  have hmn : mayB n = true := (mayB_iff _).2 ⟨p0, p1⟩
  have hlb := need_len n k
  have hd : 1 ≤ need n k ∧ need n k ≤ 4 := of_decide_eq_true hlb
  obtain ⟨hd0, hd1⟩ := hd
  go_enter Try.func3, Try.ntmps3
  go_wp2_with fail
  refine (whole_yes 155 1 4660 _ rfl).mono ?_
  rintro e w1 ⟨rfl, rfl⟩
  rw [show near 155 (rnd 1) 4660 = 4763 from rfl]
  go_wp2_with fail
  refine (hW _ hB).mono ?_
  rintro e w1 ⟨rfl, rfl⟩
  go_wp2_with fail
  refine (cut_yes (near cut (rnd b) next) b _ hmx hb).mono ?_
  rintro e w1 ⟨rfl, rfl⟩
  rw [hxc]
  go_wp2_with fail
  refine (round b _ hb).mono ?_
  rintro e w1 ⟨rfl, rfl⟩
  generalize hxx : near cut (rnd b) next = x at hx0 hx1 g1 g2 hxl  ⊢
  generalize hrr : rnd b = r at hr g1 g2 hxl  ⊢
  go_wp2_with fail
  refine (farc (x - next) _ (by omega)).mono ?_
  rintro e w1 ⟨rfl, rfl⟩
  go_wp2_with fail
  refine (farc (x - r - next) _ (by omega)).mono ?_
  rintro e w1 ⟨rfl, rfl⟩
  go_wp2_with fail
  go_wp2_with fail
  refine (need_yes n k _ hC).mono ?_
  rintro e w1 ⟨rfl, rfl⟩
  go_wp2_with fail
  refine (cut_yes n (need n k) _ hmn hlb).mono ?_
  rintro e w1 ⟨rfl, rfl⟩
  go_wp2_with fail
  refine (whole_yes (n % rnd (need n k)) (need n k) (more + 1) _ ht0).mono ?_
  rintro e w1 ⟨rfl, rfl⟩
  rw [ht1]
  generalize need n k = d at hd0 hd1 ⊢
  go_wp2
  go_ret
  exact ⟨by simp <;> omega, rfl⟩

set_option maxRecDepth 100000 in
set_option maxHeartbeats 4000000 in
theorem walk_3a (n k more cut b next : Int) (w : World)
    (hB : wholeB cut b next = true) (g1 : near cut (rnd b) next < rnd b) (g2 : near cut (rnd b) next + rnd b ≤ 1073741823)
    (hC : pairB n k = false) :
    Calls Try.prog 3 #[.int .i64 n, .int .i64 k, .int .i64 more, .int .i64 cut, .int .i64 b, .int .i64 next] w fun e w' => e = .returned (.bool true) ∧ w' = w := by
  obtain ⟨⟨hx0, hx1⟩, hxc, hxl, hxh⟩ := near_spec cut b next hB
  obtain ⟨⟨⟨hn, hb⟩, hc⟩, hl⟩ := (wholeB_iff _ _ _).1 hB
  obtain ⟨n0, n1⟩ := mayB_yes hn
  have hmx : mayB (near cut (rnd b) next) = true := (mayB_iff _).2 ⟨hx0, hx1⟩
  have hr := rnd_bd b
  have hW := whole_yes cut b next
  clear hxl
  have hxh := hxh g2
  go_enter Try.func3, Try.ntmps3
  go_wp2_with fail
  refine (whole_yes 155 1 4660 _ rfl).mono ?_
  rintro e w1 ⟨rfl, rfl⟩
  rw [show near 155 (rnd 1) 4660 = 4763 from rfl]
  go_wp2_with fail
  refine (hW _ hB).mono ?_
  rintro e w1 ⟨rfl, rfl⟩
  go_wp2_with fail
  refine (cut_yes (near cut (rnd b) next) b _ hmx hb).mono ?_
  rintro e w1 ⟨rfl, rfl⟩
  rw [hxc]
  go_wp2_with fail
  refine (round b _ hb).mono ?_
  rintro e w1 ⟨rfl, rfl⟩
  generalize hxx : near cut (rnd b) next = x at hx0 hx1 g1 g2  hxh ⊢
  generalize hrr : rnd b = r at hr g1 g2  hxh ⊢
  go_wp2_with fail
  refine (farc (x - next) _ (by omega)).mono ?_
  rintro e w1 ⟨rfl, rfl⟩
  go_wp2_with fail
  refine (farc (x + r - next) _ (by omega)).mono ?_
  rintro e w1 ⟨rfl, rfl⟩
  go_wp2_with fail
  go_wp2_with fail
  refine (need_no n k _ hC).mono ?_
  rintro e w1 ⟨rfl, rfl⟩
  go_wp2
  go_ret
  exact ⟨by simp, rfl⟩

set_option maxRecDepth 100000 in
set_option maxHeartbeats 4000000 in
theorem walk_3b (n k more cut b next : Int) (w : World)
    (hB : wholeB cut b next = true) (g1 : near cut (rnd b) next < rnd b) (g2 : near cut (rnd b) next + rnd b ≤ 1073741823)
    (hC : pairB n k = true) (hm : more < k) :
    Calls Try.prog 3 #[.int .i64 n, .int .i64 k, .int .i64 more, .int .i64 cut, .int .i64 b, .int .i64 next] w fun e w' => e = .returned (.bool true) ∧ w' = w := by
  obtain ⟨⟨hx0, hx1⟩, hxc, hxl, hxh⟩ := near_spec cut b next hB
  obtain ⟨⟨⟨hn, hb⟩, hc⟩, hl⟩ := (wholeB_iff _ _ _).1 hB
  obtain ⟨n0, n1⟩ := mayB_yes hn
  have hmx : mayB (near cut (rnd b) next) = true := (mayB_iff _).2 ⟨hx0, hx1⟩
  have hr := rnd_bd b
  have hW := whole_yes cut b next
  clear hxl
  have hxh := hxh g2
  go_enter Try.func3, Try.ntmps3
  go_wp2_with fail
  refine (whole_yes 155 1 4660 _ rfl).mono ?_
  rintro e w1 ⟨rfl, rfl⟩
  rw [show near 155 (rnd 1) 4660 = 4763 from rfl]
  go_wp2_with fail
  refine (hW _ hB).mono ?_
  rintro e w1 ⟨rfl, rfl⟩
  go_wp2_with fail
  refine (cut_yes (near cut (rnd b) next) b _ hmx hb).mono ?_
  rintro e w1 ⟨rfl, rfl⟩
  rw [hxc]
  go_wp2_with fail
  refine (round b _ hb).mono ?_
  rintro e w1 ⟨rfl, rfl⟩
  generalize hxx : near cut (rnd b) next = x at hx0 hx1 g1 g2  hxh ⊢
  generalize hrr : rnd b = r at hr g1 g2  hxh ⊢
  go_wp2_with fail
  refine (farc (x - next) _ (by omega)).mono ?_
  rintro e w1 ⟨rfl, rfl⟩
  go_wp2_with fail
  refine (farc (x + r - next) _ (by omega)).mono ?_
  rintro e w1 ⟨rfl, rfl⟩
  go_wp2_with fail
  go_wp2_with fail
  refine (need_yes n k _ hC).mono ?_
  rintro e w1 ⟨rfl, rfl⟩
  go_wp2
  go_ret
  exact ⟨by simp, rfl⟩

set_option maxRecDepth 100000 in
set_option maxHeartbeats 4000000 in
theorem walk_3c (n k more cut b next : Int) (w : World)
    (hB : wholeB cut b next = true) (g1 : near cut (rnd b) next < rnd b) (g2 : near cut (rnd b) next + rnd b ≤ 1073741823)
    (hC : pairB n k = true) (hm : k ≤ more) (hm2 : n ≤ more) :
    Calls Try.prog 3 #[.int .i64 n, .int .i64 k, .int .i64 more, .int .i64 cut, .int .i64 b, .int .i64 next] w fun e w' => e = .returned (.bool true) ∧ w' = w := by
  obtain ⟨⟨hx0, hx1⟩, hxc, hxl, hxh⟩ := near_spec cut b next hB
  obtain ⟨⟨⟨hn, hb⟩, hc⟩, hl⟩ := (wholeB_iff _ _ _).1 hB
  obtain ⟨n0, n1⟩ := mayB_yes hn
  have hmx : mayB (near cut (rnd b) next) = true := (mayB_iff _).2 ⟨hx0, hx1⟩
  have hr := rnd_bd b
  have hW := whole_yes cut b next
  clear hxl
  have hxh := hxh g2
  go_enter Try.func3, Try.ntmps3
  go_wp2_with fail
  refine (whole_yes 155 1 4660 _ rfl).mono ?_
  rintro e w1 ⟨rfl, rfl⟩
  rw [show near 155 (rnd 1) 4660 = 4763 from rfl]
  go_wp2_with fail
  refine (hW _ hB).mono ?_
  rintro e w1 ⟨rfl, rfl⟩
  go_wp2_with fail
  refine (cut_yes (near cut (rnd b) next) b _ hmx hb).mono ?_
  rintro e w1 ⟨rfl, rfl⟩
  rw [hxc]
  go_wp2_with fail
  refine (round b _ hb).mono ?_
  rintro e w1 ⟨rfl, rfl⟩
  generalize hxx : near cut (rnd b) next = x at hx0 hx1 g1 g2  hxh ⊢
  generalize hrr : rnd b = r at hr g1 g2  hxh ⊢
  go_wp2_with fail
  refine (farc (x - next) _ (by omega)).mono ?_
  rintro e w1 ⟨rfl, rfl⟩
  go_wp2_with fail
  refine (farc (x + r - next) _ (by omega)).mono ?_
  rintro e w1 ⟨rfl, rfl⟩
  go_wp2_with fail
  go_wp2_with fail
  refine (need_yes n k _ hC).mono ?_
  rintro e w1 ⟨rfl, rfl⟩
  go_wp2
  go_ret
  exact ⟨by simp, rfl⟩

set_option maxRecDepth 100000 in
set_option maxHeartbeats 4000000 in
theorem walk_3d (n k more cut b next : Int) (w : World)
    (hB : wholeB cut b next = true) (g1 : near cut (rnd b) next < rnd b) (g2 : near cut (rnd b) next + rnd b ≤ 1073741823)
    (hC : pairB n k = true) (hm : k ≤ more) (hm2 : more < n) :
    Calls Try.prog 3 #[.int .i64 n, .int .i64 k, .int .i64 more, .int .i64 cut, .int .i64 b, .int .i64 next] w fun e w' => e = .returned (.bool true) ∧ w' = w := by
  obtain ⟨⟨hx0, hx1⟩, hxc, hxl, hxh⟩ := near_spec cut b next hB
  obtain ⟨⟨⟨hn, hb⟩, hc⟩, hl⟩ := (wholeB_iff _ _ _).1 hB
  obtain ⟨n0, n1⟩ := mayB_yes hn
  have hmx : mayB (near cut (rnd b) next) = true := (mayB_iff _).2 ⟨hx0, hx1⟩
  have hr := rnd_bd b
  have hW := whole_yes cut b next
  clear hxl
  have hxh := hxh g2
  obtain ⟨ht0, ht1⟩ := told_right n k more hC hm hm2
  obtain ⟨p0, p1, p2, p3⟩ := pairB_yes hC
  have hmn : mayB n = true := (mayB_iff _).2 ⟨p0, p1⟩
  have hlb := need_len n k
  have hd : 1 ≤ need n k ∧ need n k ≤ 4 := of_decide_eq_true hlb
  obtain ⟨hd0, hd1⟩ := hd
  go_enter Try.func3, Try.ntmps3
  go_wp2_with fail
  refine (whole_yes 155 1 4660 _ rfl).mono ?_
  rintro e w1 ⟨rfl, rfl⟩
  rw [show near 155 (rnd 1) 4660 = 4763 from rfl]
  go_wp2_with fail
  refine (hW _ hB).mono ?_
  rintro e w1 ⟨rfl, rfl⟩
  go_wp2_with fail
  refine (cut_yes (near cut (rnd b) next) b _ hmx hb).mono ?_
  rintro e w1 ⟨rfl, rfl⟩
  rw [hxc]
  go_wp2_with fail
  refine (round b _ hb).mono ?_
  rintro e w1 ⟨rfl, rfl⟩
  generalize hxx : near cut (rnd b) next = x at hx0 hx1 g1 g2  hxh ⊢
  generalize hrr : rnd b = r at hr g1 g2  hxh ⊢
  go_wp2_with fail
  refine (farc (x - next) _ (by omega)).mono ?_
  rintro e w1 ⟨rfl, rfl⟩
  go_wp2_with fail
  refine (farc (x + r - next) _ (by omega)).mono ?_
  rintro e w1 ⟨rfl, rfl⟩
  go_wp2_with fail
  go_wp2_with fail
  refine (need_yes n k _ hC).mono ?_
  rintro e w1 ⟨rfl, rfl⟩
  go_wp2_with fail
  refine (cut_yes n (need n k) _ hmn hlb).mono ?_
  rintro e w1 ⟨rfl, rfl⟩
  go_wp2_with fail
  refine (whole_yes (n % rnd (need n k)) (need n k) (more + 1) _ ht0).mono ?_
  rintro e w1 ⟨rfl, rfl⟩
  rw [ht1]
  generalize need n k = d at hd0 hd1 ⊢
  go_wp2
  go_ret
  exact ⟨by simp <;> omega, rfl⟩

set_option maxRecDepth 100000 in
set_option maxHeartbeats 4000000 in
theorem walk_4a (n k more cut b next : Int) (w : World)
    (hB : wholeB cut b next = true) (g1 : rnd b ≤ near cut (rnd b) next) (g2 : near cut (rnd b) next + rnd b ≤ 1073741823)
    (hC : pairB n k = false) :
    Calls Try.prog 3 #[.int .i64 n, .int .i64 k, .int .i64 more, .int .i64 cut, .int .i64 b, .int .i64 next] w fun e w' => e = .returned (.bool true) ∧ w' = w := by
  obtain ⟨⟨hx0, hx1⟩, hxc, hxl, hxh⟩ := near_spec cut b next hB
  obtain ⟨⟨⟨hn, hb⟩, hc⟩, hl⟩ := (wholeB_iff _ _ _).1 hB
  obtain ⟨n0, n1⟩ := mayB_yes hn
  have hmx : mayB (near cut (rnd b) next) = true := (mayB_iff _).2 ⟨hx0, hx1⟩
  have hr := rnd_bd b
  have hW := whole_yes cut b next
  have hxl := hxl g1
  have hxh := hxh g2
  go_enter Try.func3, Try.ntmps3
  go_wp2_with fail
  refine (whole_yes 155 1 4660 _ rfl).mono ?_
  rintro e w1 ⟨rfl, rfl⟩
  rw [show near 155 (rnd 1) 4660 = 4763 from rfl]
  go_wp2_with fail
  refine (hW _ hB).mono ?_
  rintro e w1 ⟨rfl, rfl⟩
  go_wp2_with fail
  refine (cut_yes (near cut (rnd b) next) b _ hmx hb).mono ?_
  rintro e w1 ⟨rfl, rfl⟩
  rw [hxc]
  go_wp2_with fail
  refine (round b _ hb).mono ?_
  rintro e w1 ⟨rfl, rfl⟩
  generalize hxx : near cut (rnd b) next = x at hx0 hx1 g1 g2 hxl hxh ⊢
  generalize hrr : rnd b = r at hr g1 g2 hxl hxh ⊢
  go_wp2_with fail
  refine (farc (x - next) _ (by omega)).mono ?_
  rintro e w1 ⟨rfl, rfl⟩
  go_wp2_with fail
  refine (farc (x - r - next) _ (by omega)).mono ?_
  rintro e w1 ⟨rfl, rfl⟩
  go_wp2_with fail
  refine (farc (x + r - next) _ (by omega)).mono ?_
  rintro e w1 ⟨rfl, rfl⟩
  go_wp2_with fail
  go_wp2_with fail
  refine (need_no n k _ hC).mono ?_
  rintro e w1 ⟨rfl, rfl⟩
  go_wp2
  go_ret
  exact ⟨by simp, rfl⟩

set_option maxRecDepth 100000 in
set_option maxHeartbeats 4000000 in
theorem walk_4b (n k more cut b next : Int) (w : World)
    (hB : wholeB cut b next = true) (g1 : rnd b ≤ near cut (rnd b) next) (g2 : near cut (rnd b) next + rnd b ≤ 1073741823)
    (hC : pairB n k = true) (hm : more < k) :
    Calls Try.prog 3 #[.int .i64 n, .int .i64 k, .int .i64 more, .int .i64 cut, .int .i64 b, .int .i64 next] w fun e w' => e = .returned (.bool true) ∧ w' = w := by
  obtain ⟨⟨hx0, hx1⟩, hxc, hxl, hxh⟩ := near_spec cut b next hB
  obtain ⟨⟨⟨hn, hb⟩, hc⟩, hl⟩ := (wholeB_iff _ _ _).1 hB
  obtain ⟨n0, n1⟩ := mayB_yes hn
  have hmx : mayB (near cut (rnd b) next) = true := (mayB_iff _).2 ⟨hx0, hx1⟩
  have hr := rnd_bd b
  have hW := whole_yes cut b next
  have hxl := hxl g1
  have hxh := hxh g2
  go_enter Try.func3, Try.ntmps3
  go_wp2_with fail
  refine (whole_yes 155 1 4660 _ rfl).mono ?_
  rintro e w1 ⟨rfl, rfl⟩
  rw [show near 155 (rnd 1) 4660 = 4763 from rfl]
  go_wp2_with fail
  refine (hW _ hB).mono ?_
  rintro e w1 ⟨rfl, rfl⟩
  go_wp2_with fail
  refine (cut_yes (near cut (rnd b) next) b _ hmx hb).mono ?_
  rintro e w1 ⟨rfl, rfl⟩
  rw [hxc]
  go_wp2_with fail
  refine (round b _ hb).mono ?_
  rintro e w1 ⟨rfl, rfl⟩
  generalize hxx : near cut (rnd b) next = x at hx0 hx1 g1 g2 hxl hxh ⊢
  generalize hrr : rnd b = r at hr g1 g2 hxl hxh ⊢
  go_wp2_with fail
  refine (farc (x - next) _ (by omega)).mono ?_
  rintro e w1 ⟨rfl, rfl⟩
  go_wp2_with fail
  refine (farc (x - r - next) _ (by omega)).mono ?_
  rintro e w1 ⟨rfl, rfl⟩
  go_wp2_with fail
  refine (farc (x + r - next) _ (by omega)).mono ?_
  rintro e w1 ⟨rfl, rfl⟩
  go_wp2_with fail
  go_wp2_with fail
  refine (need_yes n k _ hC).mono ?_
  rintro e w1 ⟨rfl, rfl⟩
  go_wp2
  go_ret
  exact ⟨by simp, rfl⟩

set_option maxRecDepth 100000 in
set_option maxHeartbeats 4000000 in
theorem walk_4c (n k more cut b next : Int) (w : World)
    (hB : wholeB cut b next = true) (g1 : rnd b ≤ near cut (rnd b) next) (g2 : near cut (rnd b) next + rnd b ≤ 1073741823)
    (hC : pairB n k = true) (hm : k ≤ more) (hm2 : n ≤ more) :
    Calls Try.prog 3 #[.int .i64 n, .int .i64 k, .int .i64 more, .int .i64 cut, .int .i64 b, .int .i64 next] w fun e w' => e = .returned (.bool true) ∧ w' = w := by
  obtain ⟨⟨hx0, hx1⟩, hxc, hxl, hxh⟩ := near_spec cut b next hB
  obtain ⟨⟨⟨hn, hb⟩, hc⟩, hl⟩ := (wholeB_iff _ _ _).1 hB
  obtain ⟨n0, n1⟩ := mayB_yes hn
  have hmx : mayB (near cut (rnd b) next) = true := (mayB_iff _).2 ⟨hx0, hx1⟩
  have hr := rnd_bd b
  have hW := whole_yes cut b next
  have hxl := hxl g1
  have hxh := hxh g2
  go_enter Try.func3, Try.ntmps3
  go_wp2_with fail
  refine (whole_yes 155 1 4660 _ rfl).mono ?_
  rintro e w1 ⟨rfl, rfl⟩
  rw [show near 155 (rnd 1) 4660 = 4763 from rfl]
  go_wp2_with fail
  refine (hW _ hB).mono ?_
  rintro e w1 ⟨rfl, rfl⟩
  go_wp2_with fail
  refine (cut_yes (near cut (rnd b) next) b _ hmx hb).mono ?_
  rintro e w1 ⟨rfl, rfl⟩
  rw [hxc]
  go_wp2_with fail
  refine (round b _ hb).mono ?_
  rintro e w1 ⟨rfl, rfl⟩
  generalize hxx : near cut (rnd b) next = x at hx0 hx1 g1 g2 hxl hxh ⊢
  generalize hrr : rnd b = r at hr g1 g2 hxl hxh ⊢
  go_wp2_with fail
  refine (farc (x - next) _ (by omega)).mono ?_
  rintro e w1 ⟨rfl, rfl⟩
  go_wp2_with fail
  refine (farc (x - r - next) _ (by omega)).mono ?_
  rintro e w1 ⟨rfl, rfl⟩
  go_wp2_with fail
  refine (farc (x + r - next) _ (by omega)).mono ?_
  rintro e w1 ⟨rfl, rfl⟩
  go_wp2_with fail
  go_wp2_with fail
  refine (need_yes n k _ hC).mono ?_
  rintro e w1 ⟨rfl, rfl⟩
  go_wp2
  go_ret
  exact ⟨by simp, rfl⟩

set_option maxRecDepth 100000 in
set_option maxHeartbeats 4000000 in
theorem walk_4d (n k more cut b next : Int) (w : World)
    (hB : wholeB cut b next = true) (g1 : rnd b ≤ near cut (rnd b) next) (g2 : near cut (rnd b) next + rnd b ≤ 1073741823)
    (hC : pairB n k = true) (hm : k ≤ more) (hm2 : more < n) :
    Calls Try.prog 3 #[.int .i64 n, .int .i64 k, .int .i64 more, .int .i64 cut, .int .i64 b, .int .i64 next] w fun e w' => e = .returned (.bool true) ∧ w' = w := by
  obtain ⟨⟨hx0, hx1⟩, hxc, hxl, hxh⟩ := near_spec cut b next hB
  obtain ⟨⟨⟨hn, hb⟩, hc⟩, hl⟩ := (wholeB_iff _ _ _).1 hB
  obtain ⟨n0, n1⟩ := mayB_yes hn
  have hmx : mayB (near cut (rnd b) next) = true := (mayB_iff _).2 ⟨hx0, hx1⟩
  have hr := rnd_bd b
  have hW := whole_yes cut b next
  have hxl := hxl g1
  have hxh := hxh g2
  obtain ⟨ht0, ht1⟩ := told_right n k more hC hm hm2
  obtain ⟨p0, p1, p2, p3⟩ := pairB_yes hC
  have hmn : mayB n = true := (mayB_iff _).2 ⟨p0, p1⟩
  have hlb := need_len n k
  have hd : 1 ≤ need n k ∧ need n k ≤ 4 := of_decide_eq_true hlb
  obtain ⟨hd0, hd1⟩ := hd
  go_enter Try.func3, Try.ntmps3
  go_wp2_with fail
  refine (whole_yes 155 1 4660 _ rfl).mono ?_
  rintro e w1 ⟨rfl, rfl⟩
  rw [show near 155 (rnd 1) 4660 = 4763 from rfl]
  go_wp2_with fail
  refine (hW _ hB).mono ?_
  rintro e w1 ⟨rfl, rfl⟩
  go_wp2_with fail
  refine (cut_yes (near cut (rnd b) next) b _ hmx hb).mono ?_
  rintro e w1 ⟨rfl, rfl⟩
  rw [hxc]
  go_wp2_with fail
  refine (round b _ hb).mono ?_
  rintro e w1 ⟨rfl, rfl⟩
  generalize hxx : near cut (rnd b) next = x at hx0 hx1 g1 g2 hxl hxh ⊢
  generalize hrr : rnd b = r at hr g1 g2 hxl hxh ⊢
  go_wp2_with fail
  refine (farc (x - next) _ (by omega)).mono ?_
  rintro e w1 ⟨rfl, rfl⟩
  go_wp2_with fail
  refine (farc (x - r - next) _ (by omega)).mono ?_
  rintro e w1 ⟨rfl, rfl⟩
  go_wp2_with fail
  refine (farc (x + r - next) _ (by omega)).mono ?_
  rintro e w1 ⟨rfl, rfl⟩
  go_wp2_with fail
  go_wp2_with fail
  refine (need_yes n k _ hC).mono ?_
  rintro e w1 ⟨rfl, rfl⟩
  go_wp2_with fail
  refine (cut_yes n (need n k) _ hmn hlb).mono ?_
  rintro e w1 ⟨rfl, rfl⟩
  go_wp2_with fail
  refine (whole_yes (n % rnd (need n k)) (need n k) (more + 1) _ ht0).mono ?_
  rintro e w1 ⟨rfl, rfl⟩
  rw [ht1]
  generalize need n k = d at hd0 hd1 ⊢
  go_wp2
  go_ret
  exact ⟨by simp <;> omega, rfl⟩

theorem walk_all (n k more cut b next : Int) (w : World) :
    Calls Try.prog 3 #[.int .i64 n, .int .i64 k, .int .i64 more, .int .i64 cut, .int .i64 b, .int .i64 next] w fun e w' => e = .returned (.bool true) ∧ w' = w := by
  have hC : pairB n k = false ∨ (pairB n k = true ∧ more < k) ∨ (pairB n k = true ∧ k ≤ more ∧ n ≤ more) ∨ (pairB n k = true ∧ k ≤ more ∧ more < n) := by
    cases h : pairB n k with
    | false => exact Or.inl rfl
    | true =>
      by_cases h1 : more < k
      · exact Or.inr (Or.inl ⟨rfl, h1⟩)
      · by_cases h2 : n ≤ more
        · exact Or.inr (Or.inr (Or.inl ⟨rfl, by omega, h2⟩))
        · exact Or.inr (Or.inr (Or.inr ⟨rfl, by omega, by omega⟩))
  cases hB : wholeB cut b next with
  | false =>
    rcases hC with c | ⟨c, c1⟩ | ⟨c, c1, c2⟩ | ⟨c, c1, c2⟩
    · exact walk_0a n k more cut b next w hB c
    · exact walk_0b n k more cut b next w hB c c1
    · exact walk_0c n k more cut b next w hB c c1 c2
    · exact walk_0d n k more cut b next w hB c c1 c2
  | true =>
    by_cases g1 : rnd b ≤ near cut (rnd b) next
    · by_cases g2 : near cut (rnd b) next + rnd b ≤ 1073741823
      · rcases hC with c | ⟨c, c1⟩ | ⟨c, c1, c2⟩ | ⟨c, c1, c2⟩
        · exact walk_4a n k more cut b next w hB g1 g2 c
        · exact walk_4b n k more cut b next w hB g1 g2 c c1
        · exact walk_4c n k more cut b next w hB g1 g2 c c1 c2
        · exact walk_4d n k more cut b next w hB g1 g2 c c1 c2
      · rcases hC with c | ⟨c, c1⟩ | ⟨c, c1, c2⟩ | ⟨c, c1, c2⟩
        · exact walk_2a n k more cut b next w hB g1 (by omega) c
        · exact walk_2b n k more cut b next w hB g1 (by omega) c c1
        · exact walk_2c n k more cut b next w hB g1 (by omega) c c1 c2
        · exact walk_2d n k more cut b next w hB g1 (by omega) c c1 c2
    · by_cases g2 : near cut (rnd b) next + rnd b ≤ 1073741823
      · rcases hC with c | ⟨c, c1⟩ | ⟨c, c1, c2⟩ | ⟨c, c1, c2⟩
        · exact walk_3a n k more cut b next w hB (by omega) g2 c
        · exact walk_3b n k more cut b next w hB (by omega) g2 c c1
        · exact walk_3c n k more cut b next w hB (by omega) g2 c c1 c2
        · exact walk_3d n k more cut b next w hB (by omega) g2 c c1 c2
      · rcases hC with c | ⟨c, c1⟩ | ⟨c, c1, c2⟩ | ⟨c, c1, c2⟩
        · exact walk_1a n k more cut b next w hB (by omega) (by omega) c
        · exact walk_1b n k more cut b next w hB (by omega) (by omega) c c1
        · exact walk_1c n k more cut b next w hB (by omega) (by omega) c c1 c2
        · exact walk_1d n k more cut b next w hB (by omega) (by omega) c c1 c2

theorem walk (a0 : Int) (a1 : Int) (a2 : Int) (a3 : Int) (a4 : Int) (a5 : Int) (w0 : (Lit.int .i64 a0).wf = true) (w1 : (Lit.int .i64 a1).wf = true) (w2 : (Lit.int .i64 a2).wf = true) (w3 : (Lit.int .i64 a3).wf = true) (w4 : (Lit.int .i64 a4).wf = true) (w5 : (Lit.int .i64 a5).wf = true) (w : World) :
    Calls Try.prog 3 #[.int .i64 a0, .int .i64 a1, .int .i64 a2, .int .i64 a3, .int .i64 a4, .int .i64 a5] w fun e w' => e = .returned (.bool true) ∧ Grown w w' :=
  (walk_all a0 a1 a2 a3 a4 a5 w).mono fun e w' ⟨he, hw⟩ => ⟨he, hw ▸ Grown.refl _⟩

/-! ### THE ROW's STEP: WRITTEN OUT: LEAVE IT -/
set_option maxRecDepth 100000 in
theorem lifted (os : Os) (started : os.Started) (H : Type) (enc : TypeId × Value → H) :
    ReturnsInHanded {} Try.checked os 3 .any (Rows.numberWholeSpec.pre6 enc Try.prog Try.f3 Rows.numberWholeRow.domain false) (Rows.numberWholeSpec.post enc Try.prog Try.f3 false true false false) := by
  refine returnsInHanded_of_change (C := Try.checked) own started (by kernel_rfl) Try.func3
    (ChangeSpec.witness6 (enc := enc) (C := Try.checked) false ⟨#[], #[.int .i64 0, .int .i64 0, .int .i64 0, .int .i64 0, .int .i64 0, .int .i64 0], []⟩ 8 (by kernel_rfl) (by kernel_rfl) (by kernel_rfl) (by kernel_rfl)) ?_
  intro W base args ds gs before hval0 hW hcnd _
  have hval : ∀ (j : Nat) t v, Try.f3.params[j]? = some t → args[j]? = some v → Value.okWide Try.prog W .any base t v := hval0
  have hW' := hW
  obtain ⟨p, q, hA0, hV, rfl, hfz, hnd⟩ := hW
  have hA : DataW.TrodAll enc Try.prog W 0 (fun _ => true) true Try.f3.params.toList args.toList ds p := hA0
  rw [Try.params3] at hA hval
  obtain ⟨v0, vs0, d0, ds0, p0, q0, hargs, rfl, rfl, h0, r0⟩ := trodAll_cons hA
  obtain ⟨v1, vs1, d1, ds1, p1, q1, rfl, rfl, rfl, h1, r1⟩ := trodAll_cons r0
  obtain ⟨v2, vs2, d2, ds2, p2, q2, rfl, rfl, rfl, h2, r2⟩ := trodAll_cons r1
  obtain ⟨v3, vs3, d3, ds3, p3, q3, rfl, rfl, rfl, h3, r3⟩ := trodAll_cons r2
  obtain ⟨v4, vs4, d4, ds4, p4, q4, rfl, rfl, rfl, h4, r4⟩ := trodAll_cons r3
  obtain ⟨v5, vs5, d5, ds5, p5, q5, rfl, rfl, rfl, h5, r5⟩ := trodAll_cons r4
  obtain ⟨rfl, rfl, rfl⟩ := trodAll_nil r5
  obtain rfl : args = #[v0, v1, v2, v3, v4, v5] := by cases args; simp_all
  obtain ⟨rfl, rfl⟩ := trodVars_none hV
  obtain ⟨a0, rfl, rfl, rfl, w0⟩ := open_int Try.underlying3 (hval 0 3 v0 rfl rfl) h0
  obtain ⟨a1, rfl, rfl, rfl, w1⟩ := open_int Try.underlying3 (hval 1 3 v1 rfl rfl) h1
  obtain ⟨a2, rfl, rfl, rfl, w2⟩ := open_int Try.underlying3 (hval 2 3 v2 rfl rfl) h2
  obtain ⟨a3, rfl, rfl, rfl, w3⟩ := open_int Try.underlying3 (hval 3 3 v3 rfl rfl) h3
  obtain ⟨a4, rfl, rfl, rfl, w4⟩ := open_int Try.underlying3 (hval 4 3 v4 rfl rfl) h4
  obtain ⟨a5, rfl, rfl, rfl, w5⟩ := open_int Try.underlying3 (hval 5 3 v5 rfl rfl) h5
  clear hA0 hval0
  simp only [List.append_nil] at hW'
  refine (walk a0 a1 a2 a3 a4 a5 w0 w1 w2 w3 w4 w5 W).mono fun e W' ⟨he, hg⟩ => ?_
  subst he
  exact ⟨_, rfl, post_of_same (pa := []) (pv := []) hW' (fun _ _ _ => (trodAll_cons_mk (shut_bool Try.underlying4 _) trodAll_mk0)) (fun sp _ => (trodAll_cons_mk (shut_int Try.underlying3 w0) (trodAll_cons_mk (shut_int Try.underlying3 w1) (trodAll_cons_mk (shut_int Try.underlying3 w2) (trodAll_cons_mk (shut_int Try.underlying3 w3) (trodAll_cons_mk (shut_int Try.underlying3 w4) (trodAll_cons_mk (shut_int Try.underlying3 w5) trodAll_mk0))))))) (fun _ _ => rfl) rfl
    (hg.frame _) hg.2.1 (ok_one (by kernel_rfl) rfl (okWide_bool_mk Try.underlying4 _))⟩

theorem over : Rows.numberWholeRow.holds Try.pinned (OpenSpec.ofChange Rows.numberWholeSpec) :=
  OpenClaim.holds_of_wide 3 Try.f3 rfl rfl rfl rfl rfl rfl rfl ⟨rfl, rfl, rfl, rfl, rfl⟩ rfl rfl rfl rfl rfl (by kernel_rfl) Try.func3 (by kernel_rfl)
    (of_decide_eq_true (by kernel_rfl)) (by unfold Func.isWrapper; first | (rw [if_pos (by decide +kernel)]; kernel_rfl) | (rw [if_neg (by decide +kernel)]; exact ⟨rfl, rfl⟩))
    (fun os started H enc _ => lifted os started H enc)

/-- ████ THE STATEMENT ████ -/
theorem proved : Rows.NumberWholeSaid :=
  over
end Go.Proofs.Ytbhjncdckkenjaa.numberWhole
namespace Go.Proofs.Ytbhjncdckkenjaa
theorem numberWhole_holds : Rows.NumberWholeSaid := numberWhole.proved
#print axioms numberWhole_holds
end Go.Proofs.Ytbhjncdckkenjaa
