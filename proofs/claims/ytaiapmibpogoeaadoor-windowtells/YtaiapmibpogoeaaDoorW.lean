/- The walk of the law WindowTells, whatever comes in. -/
import Derived.Test.YtaiapmibpogoeaaDoorU
import Derived.Test.YtaiapmibpogoeaaDoorV
namespace Go.Proofs.YtaiapmibpogoeaaDoor
open Go.RowKit Go.Lib Go.Sort
set_option linter.unusedVariables false
set_option linter.unusedSimpArgs false

theorem tells_walk (s l y n : Int) (w : World) (hH : Handle w) : Calls Tryd.prog 3 #[win s l y, .int .i64 n] w fun e w' => e = .returned (.bool true) ∧ Below w.heap.size w w' := by
  cases h : bB s l y n with
  | false =>
    have e1 : bothF s l y n = 1 := by simp [bothF, h]
    have e2 : sendF s l y n = 1 := by simp [sendF, h]
    have e3 : offF s l y n = 1 := by simp [offF, h]
    have RW := rwin_calls s l y n
    have PS := send_calls s l y n
    have PC := came_calls s l y n
    have PL := lost_calls s l y n
    rw [e1] at RW
    simp only [e2, sendP, ifz_f (f := 1) (by decide)] at PS
    simp only [e3, cameP, ifz_f (f := 1) (by decide)] at PC
    simp only [e3, lostP, ifz_f (f := 1) (by decide)] at PL
    exact tells_no s l y n _ w hH RW PS PC PL (same_errV 1)
  | true =>
    have RW := rwin_calls s l y n
    rw [bothF_0 h] at RW
    have hb := wB_bd (bB_yes h).1
    have hn := pkB_yes (bB_yes h).2
    refine tells_yes s l y n (sendF s l y n) (offF s l y n) _ _ _ _ _ _ _ _ _ _ _ w hH RW (send_calls s l y n) (came_calls s l y n) (lost_calls s l y n) (same_errV _) (same_errV _) ⟨hb.1.1, hb.1.2, hb.2.1.1, hb.2.1.2, hb.2.2.1, hb.2.2.2, hn.1, hn.2⟩ ?_ ?_ ?_ ?_
    · show _ ∨ _
      by_cases c : s < y + n
      · have e : sendF s l y n = 8 := by simp [sendF, h, c]
        exact .inl ⟨c, e, by rw [e]; rfl, by rw [e]; rfl, by rw [e]; rfl⟩
      · have e : sendF s l y n = 0 := by simp [sendF, h, c]
        exact .inr ⟨by omega, e, by rw [e]; rfl, by rw [e]; rfl, by rw [e]; rfl⟩
    · show _ ∨ _
      by_cases c : y < n
      · exact .inl ⟨c, by simp [offF, h, c]⟩
      · exact .inr ⟨by omega, by simp [offF, h, c]⟩
    all_goals
      show _ ∨ _
      by_cases c : y < n
      · have e : offF s l y n = 3 := by simp [offF, h, c]
        exact .inl ⟨by omega, by rw [e]; rfl, by rw [e]; rfl, by rw [e]; rfl⟩
      · have e : offF s l y n = 0 := by simp [offF, h, c]
        exact .inr ⟨e, by omega, by rw [e]; rfl, by rw [e]; rfl, by rw [e]; rfl⟩
end Go.Proofs.YtaiapmibpogoeaaDoor
