/- The walk of the law PathTells, whatever comes in. -/
import Derived.Test.YtjjfeffmmkoooaaDoorU
import Derived.Test.YtjjfeffmmkoooaaDoorV
import Derived.Test.YtjjfeffmmkoooaaDoorW
namespace Go.Proofs.YtjjfeffmmkoooaaDoor
open Go.RowKit Go.Lib Go.Sort
set_option linter.unusedVariables false
set_option linter.unusedSimpArgs false

theorem tells_walk (i o : Int) (k : Bool) (n : Int) (w : World) (hH : Handle w) : Calls Tryd.prog 3 #[path i o k, .int .i64 n] w fun e w' => e = .returned (.bool true) ∧ Below w.heap.size w w' := by
  by_cases h : flt i o k = 0
  · by_cases hz : i = 0
    · subst hz
      exact tells_zero o k n _ _ _ _ _ _ _ _ _ _ w hH (rcame_calls 0 o k n) (came_calls 0 o k n) (same_errV _) (rsend_calls 0 o k n) (send_calls 0 o k n) (same_errV _) h
    · exact tells_some i o k n _ _ _ _ _ _ _ _ _ _ w hH (rcame_calls i o k n) (came_calls i o k n) (same_errV _) (rsend_calls i o k n) (send_calls i o k n) (same_errV _) h hz
  · exact tells_wrong i o k n _ _ _ _ _ _ _ _ _ _ w hH (rcame_calls i o k n) (came_calls i o k n) (same_errV _) (rsend_calls i o k n) (send_calls i o k n) (same_errV _) _ rfl h
end Go.Proofs.YtjjfeffmmkoooaaDoor
