/- A credit that a law made itself: what its methods answer, and leave. -/
import Derived.Test.YtojhcmnmjdolpaaDoorB
namespace Go.Proofs.YtojhcmnmjdolpaaDoor
open Go.RowKit Go.Lib Go.Sort
set_option linter.unusedVariables false
set_option linter.unusedSimpArgs false

/-- The credit in sb, made since w; what was before w is as it was. -/
structure One (w wr : World) (sb : Nat) (s : St) : Prop where
  obj : Obj wr w.heap.size sb s
  bel : Below w.heap.size w wr
section
variable {w wr wx : World} {sb : Nat} {s : St}
theorem One.below (h : One w wr sb s) (hb : Below wr.heap.size wr wx) : One w wx sb s := ⟨h.obj.below hb, h.bel.trans (hb.mono h.bel.size)⟩
theorem One.drewN (h : One w wr sb s) (m : Nat) : One w (wr.drewN m) sb s := h.below (below_drewN (Below.refl _ _) m)
theorem One.turn {s' : St} (h : One w wr sb s) (ht : Turned wr wx w.heap.size sb s') : One w wx sb s' := ⟨ht.1, h.bel.trans (ht.2.below (fun k hk => by rw [hk]; exact h.obj.hs) h.obj.le)⟩
theorem new_one (hb : Below w.heap.size w wr) {n : Int} (h : winB n = true) : Calls Tryd.prog 5 #[.int .i64 n] wr fun e w' => ∃ sb, e = .returned (.tuple #[.pointer (some ⟨sb, 0, none⟩), .nilIface]) ∧ One w w' sb (newS n) :=
  (new_yes n wr h).mono fun e w' ⟨h1, h2, h3⟩ => ⟨_, h1, ⟨h2.inv, h2.four, Nat.le_trans hb.size h2.hs⟩, hb.trans (h3.mono hb.size)⟩
theorem take_one (h : One w wr sb s) (u : Int) : Calls Tryd.prog 6 #[.pointer (some ⟨sb, 0, none⟩), .int .i64 u] wr fun e w' => e = .returned (errV (takeF s u)) ∧ One w w' sb (takeS s u) :=
  (take_calls h.obj u).mono fun e w' ⟨h1, h2⟩ => ⟨h1, h.turn h2⟩
theorem read_one (h : One w wr sb s) (n : Int) : Calls Tryd.prog 7 #[.pointer (some ⟨sb, 0, none⟩), .int .i64 n] wr fun e w' => e = .returned (.tuple #[.int .i64 (getN s n), errV (getF s n)]) ∧ One w w' sb (getS s n) :=
  (read_calls h.obj n).mono fun e w' ⟨h1, h2⟩ => ⟨h1, h.turn h2⟩
theorem limit_one (h : One w wr sb s) : Calls Tryd.prog 9 #[.pointer (some ⟨sb, 0, none⟩)] wr fun e w' => e = .returned (.int .i64 s.lim) ∧ One w w' sb s :=
  (limit_calls h.obj).mono fun e w' ⟨h1, h2⟩ => ⟨h1, by rw [h2]; exact h⟩
theorem left_one (h : One w wr sb s) : Calls Tryd.prog 10 #[.pointer (some ⟨sb, 0, none⟩)] wr fun e w' => e = .returned (.int .i64 (s.came - s.read)) ∧ One w w' sb s :=
  (left_calls h.obj).mono fun e w' ⟨h1, h2⟩ => ⟨h1, h.turn h2⟩
end
end Go.Proofs.YtojhcmnmjdolpaaDoor
