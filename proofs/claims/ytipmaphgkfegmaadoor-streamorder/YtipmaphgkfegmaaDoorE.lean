/- A stream of a law's own, and what each call on it leaves. -/
import Derived.Test.YtipmaphgkfegmaaDoorC
import Derived.Test.YtipmaphgkfegmaaDoorD
import Derived.Test.YtipmaphgkfegmaaDoorT
namespace Go.Proofs.YtipmaphgkfegmaaDoor
open Go.RowKit Go.Lib Go.Sort
set_option linter.unusedVariables false
set_option linter.unusedSimpArgs false

section
variable {w wr wx : World} {sb : Nat} {s : St}
/-- The stream in sb is not below what was there when the law began, and that is as it was. -/
structure One (w wr : World) (sb : Nat) (s : St) : Prop where
  obj : Obj wr w.heap.size sb s
  bel : Below w.heap.size w wr
theorem One.below (h : One w wr sb s) (hb : Below wr.heap.size wr wx) : One w wx sb s := ⟨h.obj.below hb, h.bel.trans (hb.mono h.bel.size)⟩
theorem One.drewN (h : One w wr sb s) (m : Nat) : One w (wr.drewN m) sb s := h.below (below_drewN (Below.refl _ _) m)
theorem One.turn {s' : St} (h : One w wr sb s) (ht : Turned wr wx w.heap.size sb s') : One w wx sb s' :=
  ⟨ht.1, h.bel.trans (ht.2.below (fun k hk => by rw [hk]; exact h.obj.hs) h.obj.le)⟩
theorem new_one (h : Below w.heap.size w wr) : Calls Tryd.prog 5 #[] wr fun e w' => ∃ sb, e = .returned (.pointer (some ⟨sb, 0, none⟩)) ∧ One w w' sb newS :=
  (new_calls wr).mono fun e w' ⟨h1, h2, h3⟩ => ⟨wr.heap.size, h1, h2.base h.size, h.trans (h3.mono h.size)⟩
theorem put_one (h : One w wr sb s) (p : Int) (d : ByteArray) (hd : d.size ≤ 140737488351232) : Calls Tryd.prog 6 #[.pointer (some ⟨sb, 0, none⟩), .agg #[.int .i64 p, .string d]] wr fun e w' => e = .returned (errV (putF s p d)) ∧ One w w' sb (putS s p d) :=
  (put_calls h.obj p d hd).mono fun e w' ⟨h1, h2⟩ => ⟨h1, h.turn h2⟩
theorem ready_one (h : One w wr sb s) : Calls Tryd.prog 9 #[.pointer (some ⟨sb, 0, none⟩)] wr fun e w' => e = .returned (.int .i64 (rdy s : Int)) ∧ One w w' sb s :=
  (ready_calls h.obj).mono fun e w' ⟨h1, h2⟩ => ⟨h1, h.below h2⟩
theorem gaps_one (h : One w wr sb s) : Calls Tryd.prog 10 #[.pointer (some ⟨sb, 0, none⟩)] wr fun e w' => ∃ v, e = .returned v ∧ Row w' v (gaps s) ∧ One w w' sb s :=
  (gaps_calls h.obj).mono fun e w' ⟨v, h1, h2, h3⟩ => ⟨v, h1, h2, h.below h3⟩
theorem take_one (h : One w wr sb s) (n : Int) (hn : 0 ≤ n) : Calls Tryd.prog 7 #[.pointer (some ⟨sb, 0, none⟩), .int .i64 n] wr fun e w' => e = .returned (.tuple #[.string (strOfNums (takeL s n)), .nilIface]) ∧ One w w' sb (takeS s n) :=
  (take_calls h.obj n hn).mono fun e w' ⟨h1, h2⟩ => ⟨h1, h.turn h2⟩
theorem take_no_one (h : One w wr sb s) (n : Int) (hn : n < 0) : Calls Tryd.prog 7 #[.pointer (some ⟨sb, 0, none⟩), .int .i64 n] wr fun e w' => e = .returned (.tuple #[.string ByteArray.empty, .iface 51 (.int .i64 1)]) ∧ One w w' sb s :=
  (take_no h.obj n hn).mono fun e w' ⟨h1, h2⟩ => ⟨h1, h.turn h2⟩
end
end Go.Proofs.YtipmaphgkfegmaaDoor
