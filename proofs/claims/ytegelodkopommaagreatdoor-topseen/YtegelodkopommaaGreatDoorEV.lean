/- Two Ends of a law's own, and what each call on them leaves. -/
import Derived.Test.YtegelodkopommaaGreatDoorEH
import Derived.Test.YtegelodkopommaaGreatDoorEI
import Derived.Test.YtegelodkopommaaGreatDoorEK
import Derived.Test.YtegelodkopommaaGreatDoorEL
import Derived.Test.YtegelodkopommaaGreatDoorEU
namespace Go.Proofs.YtegelodkopommaaGreatDoor
open Go.RowKit Go.Lib Go.Sort
set_option linter.unusedVariables false
set_option linter.unusedSimpArgs false


/-- Two Ends, apart from each other, not below what was there when the law began, and that is as it was. -/
def Duo (w0 wr : World) (xb yb : Nat) (ex ey : En) : Prop :=
  ∃ xl xc yl yc, EO wr w0.heap.size xb xl xc ex ∧ EO wr w0.heap.size yb yl yc ey ∧ (∀ k, OwnE xb xl xc k → ¬ OwnE yb yl yc k) ∧ Below w0.heap.size w0 wr
section
variable {w0 wr wx : World} {xb yb : Nat} {ex ey : En}
theorem Duo.swap (h : Duo w0 wr xb yb ex ey) : Duo w0 wr yb xb ey ex := by
  obtain ⟨xl, xc, yl, yc, h1, h2, h3, h4⟩ := h
  exact ⟨yl, yc, xl, xc, h2, h1, fun k hk hx => h3 k hx hk, h4⟩
theorem Duo.bel (h : Duo w0 wr xb yb ex ey) : Below w0.heap.size w0 wr := by
  obtain ⟨_, _, _, _, _, _, _, h4⟩ := h
  exact h4
theorem Duo.below (h : Duo w0 wr xb yb ex ey) (hb : Below wr.heap.size wr wx) : Duo w0 wx xb yb ex ey := by
  obtain ⟨xl, xc, yl, yc, h1, h2, h3, h4⟩ := h
  exact ⟨xl, xc, yl, yc, h1.below hb, h2.below hb, h3, h4.trans (hb.mono h4.size)⟩
theorem Duo.inv (h : Duo w0 wr xb yb ex ey) : EInv ex := by
  obtain ⟨_, _, _, _, h1, _⟩ := h
  exact h1.inv
theorem duo_turn {xl xc yl yc : Value} {e' : En} (h1 : EO wr w0.heap.size xb xl xc ex) (h2 : EO wr w0.heap.size yb yl yc ey) (h3 : ∀ k, OwnE xb xl xc k → ¬ OwnE yb yl yc k) (h4 : Below w0.heap.size w0 wr) (ht : Turn wr wx w0.heap.size xb xl xc e') : Duo w0 wx xb yb e' ey := by
  have hb := ht
  obtain ⟨xl', xc', o, f, own⟩ := ht
  refine ⟨xl', xc', yl, yc, o, h2.off f (fun k hk hx => h3 k hx hk), fun k hk hy => ?_, h4.trans (f.below (fun k hk => (h1.own_lt hk).1) h1.le)⟩
  rcases own k hk with hk | hk
  · exact h3 k hk hy
  · have := (h2.own_lt hy).2; omega
theorem duo_write (h : Duo w0 wr xb yb ex ey) (b : ByteArray) (hl : b.size ≤ 140737488351232) : Calls Tryz.prog 15 #[.pointer (some ⟨xb, 0, none⟩), .string b] wr fun e w' => e = .returned (errV (writeF ex b)) ∧ Duo w0 w' xb yb (writeS ex b) ey := by
  obtain ⟨xl, xc, yl, yc, h1, h2, h3, h4⟩ := h
  exact (write_calls h1 b hl).mono fun e w' ⟨a, t⟩ => ⟨a, duo_turn h1 h2 h3 h4 t⟩
theorem duo_make (h : Duo w0 wr xb yb ex ey) (hK : KeepOK ex) (hV : V.Forms w0 ∧ Cnts w0) : Calls Tryz.prog 17 #[.pointer (some ⟨xb, 0, none⟩)] wr fun e w' => e = .returned (.string (makeB ex)) ∧ Duo w0 w' xb yb (makeS ex) ey := by
  obtain ⟨xl, xc, yl, yc, h1, h2, h3, h4⟩ := h
  exact (make_calls h1 hK (hV.1.below h4) (hV.2.below h4)).mono fun e w' ⟨a, t⟩ => ⟨a, duo_turn h1 h2 h3 h4 t⟩
theorem duo_take (h : Duo w0 wr xb yb ex ey) (b : ByteArray) (hl : b.size ≤ 9223372036854775807) (hV : V.Forms w0 ∧ Cnts w0) (hA : ∀ n fs, rdP b (nextN ex) = some (n, fs) → ∀ f ∈ fs, f.1 = 2 → AckC f.2.1) : Calls Tryz.prog 16 #[.pointer (some ⟨xb, 0, none⟩), .string b] wr fun e w' => e = .returned (errV (takeP ex b).1) ∧ Duo w0 w' xb yb (takeP ex b).2 ey := by
  obtain ⟨xl, xc, yl, yc, h1, h2, h3, h4⟩ := h
  exact (etake_calls h1 b hl (hV.1.below h4) (hV.2.below h4) hA).mono fun e w' ⟨a, t⟩ => ⟨a, duo_turn h1 h2 h3 h4 t⟩
theorem duo_read (h : Duo w0 wr xb yb ex ey) (n : Int) : Calls Tryz.prog 18 #[.pointer (some ⟨xb, 0, none⟩), .int .i64 n] wr fun e w' => e = .returned (.tuple #[.string (readB ex n), errV (readF ex n)]) ∧ Duo w0 w' xb yb (readS ex n) ey := by
  obtain ⟨xl, xc, yl, yc, h1, h2, h3, h4⟩ := h
  exact (read_calls h1 n).mono fun e w' ⟨a, t⟩ => ⟨a, duo_turn h1 h2 h3 h4 t⟩
/-- A second End beside the first. -/
theorem duo_new {xl xc : Value} {n : Int} (h1 : EO wr w0.heap.size xb xl xc ex) (h4 : Below w0.heap.size w0 wr) (hn : Cx.winB n = true) : Calls Tryz.prog 14 #[.int .i64 n] wr fun e w' => ∃ yb, e = .returned (.tuple #[.pointer (some ⟨yb, 0, none⟩), .nilIface]) ∧ Duo w0 w' xb yb ex (newE n) := by
  refine (new_yes n wr hn).mono ?_
  rintro e w' ⟨yb, rfl, hO, hb⟩
  refine ⟨yb, rfl, xl, xc, .slice none 0 0, .slice none 0 0, h1.below hb, hO.base h4.size, fun k hk hy => ?_, h4.trans (hb.mono h4.size)⟩
  have h5 := (h1.own_lt hk).2
  have h6 := (hO.own_lt hy).1
  omega
end
end Go.Proofs.YtegelodkopommaaGreatDoor
