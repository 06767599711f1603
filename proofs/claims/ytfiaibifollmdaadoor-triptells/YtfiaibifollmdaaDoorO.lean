/- The walk of the law TripTells, whatever comes in. -/
import Derived.Test.YtfiaibifollmdaaDoorU
import Derived.Test.YtfiaibifollmdaaDoorV
import Derived.Test.YtfiaibifollmdaaDoorW
namespace Go.Proofs.YtfiaibifollmdaaDoor
open Go.RowKit Go.Lib Go.Sort
set_option linter.unusedVariables false
set_option linter.unusedSimpArgs false

theorem nextB_no {s v l n d : Int} (h : ¬ (rightB s v l = true ∧ timeB n = true ∧ delayB d = true)) : nextB s v l n d = false := by
  cases e : nextB s v l n d with
  | false => rfl
  | true => exact absurd (nextB_yes e) h
theorem tells_calls (n s v l d : Int) (w : World) (hH : Handle w) :
    Calls Tryd.prog 3 #[.int .i64 n, trip s v l, .int .i64 d] w fun e w' => e = .returned (.bool true) ∧ Below w.heap.size w w' := by
  cases ht : timeB n with
  | false =>
    have hn : nextB s v l n d = false := nextB_no (by simp [ht])
    cases hr : rightB s v l with
    | false => exact tells_nn n s v l d w hH ht hr hn
    | true => exact tells_ny n s v l d w hH ht hr hn
  | true =>
    cases hr : rightB s v l with
    | false => exact tells_yn n s v l d w hH ht hr (nextB_no (by simp [hr]))
    | true =>
      cases hd : delayB d with
      | true => exact tells_ok n s v l d w hH ht hr (by simp [nextB, ht, hr, hd]) hd
      | false =>
        have hn : nextB s v l n d = false := nextB_no (by simp [hd])
        rcases delayB_no hd with c | c
        · exact tells_dlo n s v l d w hH ht hr hn c
        · exact tells_dhi n s v l d w hH ht hr hn c
end Go.Proofs.YtfiaibifollmdaaDoor
