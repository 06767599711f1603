/- LossTells' walk: the packets are wrong. -/
import Derived.Test.YtingcgadolcanaaDoorT
import Derived.Deep.DeepCutAuto
namespace Go.Proofs.YtingcgadolcanaaDoor
open Go.RowKit Go.Lib Go.Sort
set_option linter.unusedVariables false
set_option linter.unusedSimpArgs false

set_option maxRecDepth 100000 in
set_option maxHeartbeats 8000000 in
theorem tells_A (ao : Option Addr) (len cap : Nat) (ro : Option Addr) (m rc : Nat) (now wait : Int) (g : Int) (w : World) (hlen : 0 < len) (hl : len ≤ 9223372036854775807) (hg : ¬ g = 0)
    (KR : Hid (∀ w1 , Below w.heap.size w w1 → Calls Tryd.prog 4 #[.slice ao len cap] w1 fun e w' => e = .returned (.int .i64 (g)) ∧ Below w1.heap.size w1 w'))
    (KC : Hid (∀ w1 , Below w.heap.size w w1 → Calls Tryd.prog 6 #[.slice ao len cap] w1 fun e w' => e = .returned (errV (g)) ∧ Below w1.heap.size w1 w'))
    (KE : Hid (∀ w1 (f : Int), Below w.heap.size w w1 → Calls Tryd.prog 5 #[errV f, .int .i64 f] w1 fun e w' => e = .returned (.bool true) ∧ Below w1.heap.size w1 w'))
    (KW : Hid (∀ w1 , Below w.heap.size w w1 → Calls Tryd.prog 7 #[.slice ao len cap] w1 fun e w' => e = .returned (.tuple #[.int .i64 (0), errV (g)]) ∧ Below w1.heap.size w1 w'))
    (KL : Hid (∀ w1 , Below w.heap.size w w1 → Calls Tryd.prog 10 #[.slice ao len cap, .slice ro m rc] w1 fun e w' => ∃ u', e = .returned (.tuple #[u', errV (g)]) ∧ Row3 w' u' ([]) ∧ Below w1.heap.size w1 w'))
    (KO : Hid (∀ w1 , Below w.heap.size w w1 → Calls Tryd.prog 12 #[.slice ao len cap, .slice ro m rc, .int .i64 now, .int .i64 wait] w1 fun e w' => ∃ y, e = .returned (.tuple #[y, errV (g)]) ∧ IRow w' y ([]) ∧ Below w1.heap.size w1 w')) :
    Calls Tryd.prog 3 #[.slice ao len cap, .slice ro m rc, .int .i64 now, .int .i64 wait] w fun e w' => e = .returned (.bool true) ∧ Below w.heap.size w w' := by
  have hz : (0 : Int) < (len : Int) := by omega
  have hB0 := Below.refl w.heap.size w
  go_enter Tryd.func3, Tryd.ntmps3
  go_wp2_with fail
  refine (KR.out _ hB0).mono ?_
  rintro e w1 ⟨rfl, hb1⟩
  have hB1 := hB0.trans (hb1.mono hB0.size)
  go_wp2_with fail
  refine (KC.out _ hB1).mono ?_
  rintro e w2 ⟨rfl, hb2⟩
  have hB2 := hB1.trans (hb2.mono hB1.size)
  go_wp2_with fail
  refine (KE.out _ (g) hB2).mono ?_
  rintro e w3 ⟨rfl, hb3⟩
  have hB3 := hB2.trans (hb3.mono hB2.size)
  go_wp2_with fail
  refine wp_loop_rounds 1 ?_
  rw [rounds_succ]
  go_wp2_with fail
  refine (KW.out _ hB3).mono ?_
  rintro e w4 ⟨rfl, hb4⟩
  have hB4 := hB3.trans (hb4.mono hB3.size)
  go_wp2_with fail
  refine (KE.out _ g hB4).mono ?_
  rintro e w5 ⟨rfl, hb5⟩
  have hB5 := hB4.trans (hb5.mono hB4.size)
  go_wp2_with fail
  refine wp_loop_rounds 1 ?_
  rw [rounds_succ]
  go_wp2_with fail
  refine (KL.out _ hB5).mono ?_
  rintro e w6 ⟨u6, rfl, hr6, hb6⟩
  have hB6 := hB5.trans (hb6.mono hB5.size)
  go_wp2_with fail
  refine (KE.out _ (g) hB6).mono ?_
  rintro e w7 ⟨rfl, hb7⟩
  have hB7 := hB6.trans (hb7.mono hB6.size)
  have hs5 : Below w5.heap.size w5 w7 := hb6.trans (hb7.mono hb6.size)
  go_wp2_with fail
  refine (same3_eq _ _ ([]) _ (hr6.below hb7) (Row3.nil _)).mono ?_
  rintro e w8 ⟨rfl, hb8⟩
  have hB8 := hB7.trans (hb8.mono hB7.size)
  go_wp2_with fail
  refine (KO.out _ hB8).mono ?_
  rintro e w9 ⟨u9, rfl, hr9, hb9⟩
  have hB9 := hB8.trans (hb9.mono hB8.size)
  go_wp2_with fail
  refine (KE.out _ (g) hB9).mono ?_
  rintro e w10 ⟨rfl, hb10⟩
  have hB10 := hB9.trans (hb10.mono hB9.size)
  have ht5 : Below w5.heap.size w5 w10 := hs5.trans ((hb8.trans ((hb9.trans (hb10.mono hb9.size)).mono hb8.size)).mono hs5.size)
  go_wp2_with fail
  refine (sameI_eq _ _ ([]) _ (hr9.below hb10) (IRow.nil _)).mono ?_
  rintro e w11 ⟨rfl, hb11⟩
  have hB11 := hB10.trans (hb11.mono hB10.size)
  go_wp2_with fail
  go_ret
  exact ⟨rfl, hB11⟩
end Go.Proofs.YtingcgadolcanaaDoor
