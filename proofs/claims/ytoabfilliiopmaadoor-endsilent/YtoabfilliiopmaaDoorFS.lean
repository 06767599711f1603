/- The law's comparison of two lists of integers and of two frames, where they are the same. -/
import Derived.Test.YtoabfilliiopmaaDoorFJ
namespace Go.Proofs.YtoabfilliiopmaaDoor
open Go.RowKit Go.Lib Go.Sort
set_option linter.unusedVariables false
set_option linter.unusedSimpArgs false

end Go.Proofs.YtoabfilliiopmaaDoor
