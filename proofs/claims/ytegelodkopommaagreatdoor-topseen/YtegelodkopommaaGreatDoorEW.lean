/- What one answers: what is written is read. -/
import Derived.Test.YtegelodkopommaaGreatDoorEV
namespace Go.Proofs.YtegelodkopommaaGreatDoor
open Go.RowKit Go.Lib Go.Sort
set_option linter.unusedVariables false
set_option linter.unusedSimpArgs false


def qB : ByteArray := { data := #[113] }
def oneX : En := writeS (newE 9) qB
def oneB : ByteArray := makeB oneX
def oneY : En := (takeP (newE 9) oneB).2
theorem takeP_yes {e : En} {b : ByteArray} {n : Int} {fs : List F} (h1 : opF b (nextN e) = 0) (h2 : rdP b (nextN e) = some (n, fs)) : takeP e b = come e n fs := by
  unfold takeP
  rw [if_neg (by simpa using h1), h2]
theorem one_win : Cx.winB 9 = true := by decide
theorem one_write : writeF (newE 9) qB = 0 := by kernel_rfl
theorem one_frs : frs oneX = [(4, [9], nilB), (3, [0], qB)] := by kernel_rfl
theorem one_make : makeF oneX = 0 := by kernel_rfl
theorem one_rd : rdP oneB 0 = some (0, [(4, [9], nilB), (3, [0], qB)]) := by
  have h := rdP_back (n := 0) (k := -1) (more := -1) (l := frs oneX) one_make (by omega) (by omega)
  have e : oneB = pkS 0 (-1) (frs oneX) := by unfold oneB makeB; rw [if_pos one_make]; rfl
  rw [show (-1 : Int) + 1 = 0 from rfl, ← e, one_frs] at h
  exact h
theorem one_size : oneB.size ≤ 200 := by
  have e : oneB = pkS 0 (-1) (frs oneX) := by unfold oneB makeB; rw [if_pos one_make]; rfl
  rw [e]
  exact (pkF_ok one_make).2.2.2.2
theorem one_take : takeP (newE 9) oneB = come (newE 9) 0 [(4, [9], nilB), (3, [0], qB)] := by
  have h1 : opF oneB (nextN (newE 9)) = 0 := opF_zero (by decide) one_size one_rd
  exact takeP_yes h1 one_rd
theorem one_took : (takeP (newE 9) oneB).1 = 0 := by rw [one_take]; kernel_rfl
theorem one_readF : readF oneY 5 = 0 := by unfold oneY; rw [one_take]; kernel_rfl
theorem one_readB : readB oneY 5 = qB := by unfold oneY; rw [one_take]; kernel_rfl
theorem one_noack : ∀ n fs, rdP oneB (nextN (newE 9)) = some (n, fs) → ∀ f ∈ fs, f.1 = 2 → AckC f.2.1 := by
  intro n fs h f hf h2
  have h' : rdP oneB 0 = some (n, fs) := h
  rw [one_rd] at h'
  cases h'
  simp at hf
  rcases hf with rfl | rfl
  · cases h2
  · cases h2
set_option maxRecDepth 100000 in
set_option maxHeartbeats 4000000 in
theorem one_calls (w : World) (hV : V.Forms w ∧ Cnts w) : Calls Tryz.prog 4 #[] w fun e w' => e = .returned (.bool true) ∧ Below w.heap.size w w' := by
  have HV : Hid (V.Forms w ∧ Cnts w) := hV
  have HN := new_yes 9 w one_win
  have hq : ({ data := #[113] } : ByteArray).toList = [113] := by kernel_rfl
  clear hV
  go_enter Tryz.func4, Tryz.ntmps4
  go_wp2_with fail
  refine HN.mono ?_
  rintro e w1 ⟨xb, rfl, hO1, hb1⟩
  have HN2 := duo_new hO1 hb1 one_win
  clear HN
  go_wp2_with fail
  refine HN2.mono ?_
  rintro e w2 ⟨yb, rfl, hD⟩
  have HW := duo_write hD qB (show 1 ≤ 140737488351232 by omega)
  rw [one_write, errV_0] at HW
  have HM : Hid (∀ X, Duo w X xb yb oneX (newE 9) → Calls Tryz.prog 17 #[.pointer (some ⟨xb, 0, none⟩)] X fun e w' => e = .returned (.string oneB) ∧ Duo w w' xb yb (makeS oneX) (newE 9)) := fun X hX => duo_make hX (keepOK_nil rfl) HV.out
  have HT : Hid (∀ X, Duo w X xb yb (makeS oneX) (newE 9) → Calls Tryz.prog 16 #[.pointer (some ⟨yb, 0, none⟩), .string oneB] X fun e w' => e = .returned .nilIface ∧ Duo w w' xb yb (makeS oneX) oneY) := fun X hX => (duo_take hX.swap oneB (Nat.le_trans one_size (by omega)) HV.out one_noack).mono fun e w' ⟨a, d⟩ => ⟨by rw [a, one_took, errV_0], d.swap⟩
  have HR : Hid (∀ X, Duo w X xb yb (makeS oneX) oneY → Calls Tryz.prog 18 #[.pointer (some ⟨yb, 0, none⟩), .int .i64 5] X fun e w' => e = .returned (.tuple #[.string qB, .nilIface]) ∧ Below w.heap.size w w') := fun X hX => (duo_read hX.swap 5).mono fun e w' ⟨a, d⟩ => ⟨by rw [a, one_readF, one_readB, errV_0], d.bel⟩
  have hqB : qB = { data := #[113] } := rfl
  rw [hqB] at HW HR
  clear HN2 hD hO1 hb1
  generalize oneB = bb at *
  go_wp2_with (first | (go_at_call 15; refine HW.mono ?_; rintro e w3 ⟨rfl, hD3⟩) | (go_at_call 17; refine (HM.out _ hD3).mono ?_; rintro e w4 ⟨rfl, hD4⟩) | (go_at_call 16; refine (HT.out _ hD4).mono ?_; rintro e w5 ⟨rfl, hD5⟩) | (go_at_call 18; refine (HR.out _ hD5).mono ?_; rintro e w6 ⟨rfl, hB6⟩))
  go_ret
  exact ⟨by simp, hB6⟩
end Go.Proofs.YtegelodkopommaaGreatDoor
