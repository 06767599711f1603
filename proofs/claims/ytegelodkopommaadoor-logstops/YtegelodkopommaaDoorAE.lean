/- What Add answers. -/
import Derived.Test.YtegelodkopommaaDoorAD
import Derived.Test.YtegelodkopommaaDoorRE
import Derived.Test.YtegelodkopommaaDoorEO
namespace Go.Proofs.YtegelodkopommaaDoor
open Go.RowKit Go.Lib Go.Sort
set_option linter.unusedVariables false
set_option linter.unusedSimpArgs false
theorem add_full {v : Value} {cm : List R} {n : Int} {w : World} (h : Row w v cm) (hk : chk cm = 0) (hN : isN n = true) (hl : 12 < (addL cm n).length) : Calls Tryd.prog 19 #[v, .int .i64 n] w fun e w' => e = .returned (.tuple #[.slice none 0 0, .bool false, errV 4]) ∧ Below w.heap.size w w' :=
  (add_ok v cm n w h hk hN).mono fun e w' ⟨zs', h1, h2, _, hb, hc⟩ => by
    have := addL_is hk h1 h2
    subst this
    rcases hc with ⟨_, he⟩ | ⟨hx, _⟩
    · exact ⟨he, hb⟩
    · omega
theorem add_fits {v : Value} {cm : List R} {n : Int} {w : World} (h : Row w v cm) (hk : chk cm = 0) (hN : isN n = true) (hl : (addL cm n).length ≤ 12) : Calls Tryd.prog 19 #[v, .int .i64 n] w fun e w' => ∃ v', e = .returned (.tuple #[v', .bool (!memB cm n), .nilIface]) ∧ w'.ownsRow w.heap.size 37 2 v' (addL cm n).length (flat (addL cm n)) ∧ Below w.heap.size w w' :=
  (add_ok v cm n w h hk hN).mono fun e w' ⟨zs', h1, h2, _, hb, hc⟩ => by
    have := addL_is hk h1 h2
    subst this
    rcases hc with ⟨hx, _⟩ | ⟨_, v', ho, he⟩
    · omega
    · exact ⟨v', he, ho, hb⟩
end Go.Proofs.YtegelodkopommaaDoor
