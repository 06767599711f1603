/- A Log, all that is its own, and what a call leaves of both. -/
import Derived.Test.YtegelodkopommaaGreatDoorLE
namespace Go.Proofs.YtegelodkopommaaGreatDoor.Lo
open Go.RowKit Go.Lib Go.Sort
set_option linter.unusedVariables false
set_option linter.unusedSimpArgs false

/-- A Log; F is all that is its own. -/
def G (w : World) (B lb : Nat) (F : Nat → Prop) (s : Lg) : Prop := ∃ vb vc, LO w B lb vb vc s ∧ F = own lb vb vc
/-- It alone has turned, to s. -/
def Gt (w w' : World) (B lb : Nat) (F : Nat → Prop) (s : Lg) : Prop := ∃ F', G w' B lb F' s ∧ Off F w w' ∧ ∀ k, F' k → F k ∨ w.heap.size ≤ k
section
variable {w w' w0 : World} {B lb : Nat} {F : Nat → Prop} {s s' : Lg}
theorem G.lt (h : G w B lb F s) {k : Nat} (hk : F k) : k < w.heap.size := by
  obtain ⟨vb, vc, h, rfl⟩ := h
  exact h.lt hk
theorem G.ge (h : G w B lb F s) {k : Nat} (hk : F k) : B ≤ k := by
  obtain ⟨vb, vc, h, rfl⟩ := h
  exact h.ge hk
theorem G.le (h : G w B lb F s) : B ≤ w.heap.size := by
  obtain ⟨vb, vc, h, rfl⟩ := h
  exact h.le
theorem G.inv (h : G w B lb F s) : LInv s := by
  obtain ⟨vb, vc, h, rfl⟩ := h
  exact h.inv
theorem G.off {K : Nat → Prop} (h : G w B lb F s) (ho : Off K w w') (hK : ∀ k, F k → ¬ K k) : G w' B lb F s := by
  obtain ⟨vb, vc, h, rfl⟩ := h
  exact ⟨vb, vc, h.off ho hK, rfl⟩
theorem G.below (h : G w B lb F s) (hb : Below w.heap.size w w') : G w' B lb F s := h.off (Off.of_below (K := fun _ => False) hb) (fun _ _ => id)
theorem Gt.of {vb vc : Value} (h : Tu w w' B lb vb vc s) : Gt w w' B lb (own lb vb vc) s := by
  obtain ⟨vb', vc', h1, h2, h3⟩ := h
  exact ⟨_, ⟨vb', vc', h1, rfl⟩, h2, h3⟩
/-- Whether it comes to a record. -/
def rdy (s : Lg) (n : Int) : Bool := !s.st && isN n && decide ((addL (rgN s.ns) n).length ≤ 12) && !memB (rgN s.ns) n
def caF (s : Lg) (n : Int) : Int := if s.st = true then 6 else if isN n = true then (if 12 < (addL (rgN s.ns) n).length then 4 else if rdy s n = true ∧ s.ah = 0 then 6 else 0) else 1
def caB (s : Lg) (n : Int) : Bool := rdy s n && decide (s.ah ≠ 0)
def caS (s : Lg) (n : Int) : Lg := if rdy s n = true then (if s.ah = 0 then { s with st := true, x := (recF n).take 2 } else { s with ns := s.ns ++ [n], ah := dn s.ah }) else s
theorem g_came (h : G w B lb F s) (n : Int) (h5 : s.ns.length < 100000) : Calls Tryz.prog 9 #[.pointer (some ⟨lb, 0, none⟩), .int .i64 n] w fun e w' => e = .returned (.tuple #[.bool (caB s n), errV (caF s n)]) ∧ Gt w w' B lb F (caS s n) := by
  obtain ⟨vb, vc, h, rfl⟩ := h
  cases h0 : s.st with
  | true =>
    have r0 : rdy s n = false := by simp [rdy, h0]
    refine (came_stop h n h0).mono fun e w' ⟨he, hw⟩ => ⟨?_, ?_⟩
    · rw [he, caB, r0, caF, if_pos h0]; rfl
    · rw [caS, r0, if_neg (by decide), hw]; exact Gt.of (Tu.below h (Below.refl _ _))
  | false =>
    have q0 : ¬ s.st = true := by rw [h0]; decide
    cases h1 : isN n with
    | false =>
      have r0 : rdy s n = false := by simp [rdy, h1]
      refine (came_bad h n h0 h1).mono fun e w' ⟨he, hw⟩ => ⟨?_, ?_⟩
      · rw [he, caB, r0, caF, if_neg q0, if_neg (by rw [h1]; decide)]; rfl
      · rw [caS, r0, if_neg (by decide)]; exact Gt.of (Tu.below h hw)
    | true =>
      by_cases h2 : 12 < (addL (rgN s.ns) n).length
      · have r0 : rdy s n = false := by
          have : ¬ (addL (rgN s.ns) n).length ≤ 12 := by omega
          simp [rdy, this]
        refine (came_full h n h0 h1 h2).mono fun e w' ⟨he, hw⟩ => ⟨?_, ?_⟩
        · rw [he, caB, r0, caF, if_neg q0, if_pos h1, if_pos h2]; rfl
        · rw [caS, r0, if_neg (by decide)]; exact Gt.of (Tu.below h hw)
      · cases h3 : memB (rgN s.ns) n with
        | true =>
          have r0 : rdy s n = false := by simp [rdy, h3]
          refine (came_again h n h0 h1 h3).mono fun e w' ⟨he, hw⟩ => ⟨?_, ?_⟩
          · rw [he, caB, r0, caF, if_neg q0, if_pos h1, if_neg h2, if_neg (fun e => by rw [r0] at e; exact Bool.noConfusion e.1)]; rfl
          · rw [caS, r0, if_neg (by decide)]; exact Gt.of (Tu.below h hw)
        | false =>
          have h2' : (addL (rgN s.ns) n).length ≤ 12 := by omega
          have r0 : rdy s n = true := by simp [rdy, h0, h1, h2', h3]
          by_cases h4 : s.ah = 0
          · refine (came_halt h n h0 h1 h2' h3 h4).mono fun e w' ⟨he, hw⟩ => ⟨?_, ?_⟩
            · rw [he, caB, r0, h4, caF, if_neg q0, if_pos h1, if_neg h2, if_pos ⟨r0, h4⟩]; rfl
            · rw [caS, if_pos r0, if_pos h4]; exact Gt.of hw
          · refine (came_yes h n h0 h1 h2' h3 h4 h5).mono fun e w' ⟨he, hw⟩ => ⟨?_, ?_⟩
            · rw [he, caB, r0, caF, if_neg q0, if_pos h1, if_neg h2, if_neg (fun e => h4 e.2), decide_eq_true h4]; rfl
            · rw [caS, if_pos r0, if_neg h4]; exact Gt.of hw
theorem g_fail (h : G w B lb F s) (n : Int) (h0 : -9223372036854775808 ≤ n) (h1 : n ≤ 9223372036854775807) : Calls Tryz.prog 6 #[.pointer (some ⟨lb, 0, none⟩), .int .i64 n] w fun e w' => (∃ v, e = .returned v) ∧ Gt w w' B lb F { s with ah := n } := by
  obtain ⟨vb, vc, h, rfl⟩ := h
  exact (fail_calls h n h0 h1).mono fun e w' ⟨he, h1, h2⟩ => ⟨he, Gt.of (Tu.same h1 h2)⟩
theorem g_sync (h : G w B lb F s) : Calls Tryz.prog 10 #[.pointer (some ⟨lb, 0, none⟩)] w fun e w' => e = .returned (errV (syF s)) ∧ Gt w w' B lb F (syS s) := by
  obtain ⟨vb, vc, h, rfl⟩ := h
  exact (sync_calls h).mono fun e w' ⟨he, h1, h2⟩ => ⟨he, Gt.of (Tu.same h1 h2)⟩
theorem g_crash (h : G w B lb F s) (n : Int) (h0 : -9223372036854775808 ≤ n) (h1 : n ≤ 9223372036854775807) : Calls Tryz.prog 11 #[.pointer (some ⟨lb, 0, none⟩), .int .i64 n] w fun e w' => (∃ v, e = .returned v) ∧ Gt w w' B lb F (crS s n) := by
  obtain ⟨vb, vc, h, rfl⟩ := h
  exact (crash_calls h n h0 h1).mono fun e w' ⟨he, h1⟩ => ⟨he, Gt.of h1⟩
theorem g_all (h : G w B lb F s) : Calls Tryz.prog 13 #[.pointer (some ⟨lb, 0, none⟩)] w fun e w' => ∃ v, e = .returned v ∧ w'.ownsRow w.heap.size 66 2 v (rgN s.ns).length (flat (rgN s.ns)) ∧ Below w.heap.size w w' := by
  obtain ⟨vb, vc, h, rfl⟩ := h
  exact all_calls h
/-- A Log that a law made; what was there when it began is as it was. -/
def Gq (w0 w : World) (lb : Nat) (s : Lg) : Prop := ∃ F, G w w0.heap.size lb F s ∧ Below w0.heap.size w0 w
theorem Gq.bel (h : Gq w0 w lb s) : Below w0.heap.size w0 w := h.choose_spec.2
theorem Gq.below (h : Gq w0 w lb s) (hb : Below w.heap.size w w') : Gq w0 w' lb s := by
  obtain ⟨F, h1, h2⟩ := h
  exact ⟨F, h1.below hb, h2.trans (hb.mono h2.size)⟩
theorem Gq.turn (h : G w w0.heap.size lb F s) (hb : Below w0.heap.size w0 w) (ht : Gt w w' w0.heap.size lb F s') : Gq w0 w' lb s' := by
  obtain ⟨F', h1, h2, _⟩ := ht
  exact ⟨F', h1, hb.trans (h2.below (fun k hk => h.ge hk) h.le)⟩
theorem q_new (hb : Below w0.heap.size w0 w) : Calls Tryz.prog 5 #[] w fun e w' => ∃ lb, e = .returned (.pointer (some ⟨lb, 0, none⟩)) ∧ Gq w0 w' lb Lg.new :=
  (new_calls w).mono fun e w' ⟨h1, h2, h3⟩ => ⟨_, h1, _, ⟨_, _, h2.base hb.size, rfl⟩, hb.trans (h3.mono hb.size)⟩
theorem q_came (h : Gq w0 w lb s) (n : Int) (h5 : s.ns.length < 100000) : Calls Tryz.prog 9 #[.pointer (some ⟨lb, 0, none⟩), .int .i64 n] w fun e w' => e = .returned (.tuple #[.bool (caB s n), errV (caF s n)]) ∧ Gq w0 w' lb (caS s n) := by
  obtain ⟨F, h1, h2⟩ := h
  exact (g_came h1 n h5).mono fun e w' ⟨he, ht⟩ => ⟨he, Gq.turn h1 h2 ht⟩
theorem q_fail (h : Gq w0 w lb s) (n : Int) (h0 : -9223372036854775808 ≤ n) (h9 : n ≤ 9223372036854775807) : Calls Tryz.prog 6 #[.pointer (some ⟨lb, 0, none⟩), .int .i64 n] w fun e w' => (∃ v, e = .returned v) ∧ Gq w0 w' lb { s with ah := n } := by
  obtain ⟨F, h1, h2⟩ := h
  exact (g_fail h1 n h0 h9).mono fun e w' ⟨he, ht⟩ => ⟨he, Gq.turn h1 h2 ht⟩
theorem q_sync (h : Gq w0 w lb s)  : Calls Tryz.prog 10 #[.pointer (some ⟨lb, 0, none⟩)] w fun e w' => e = .returned (errV (syF s)) ∧ Gq w0 w' lb (syS s) := by
  obtain ⟨F, h1, h2⟩ := h
  exact (g_sync h1 ).mono fun e w' ⟨he, ht⟩ => ⟨he, Gq.turn h1 h2 ht⟩
theorem q_crash (h : Gq w0 w lb s) (n : Int) (h0 : -9223372036854775808 ≤ n) (h9 : n ≤ 9223372036854775807) : Calls Tryz.prog 11 #[.pointer (some ⟨lb, 0, none⟩), .int .i64 n] w fun e w' => (∃ v, e = .returned v) ∧ Gq w0 w' lb (crS s n) := by
  obtain ⟨F, h1, h2⟩ := h
  exact (g_crash h1 n h0 h9).mono fun e w' ⟨he, ht⟩ => ⟨he, Gq.turn h1 h2 ht⟩
theorem q_all (h : Gq w0 w lb s) : Calls Tryz.prog 13 #[.pointer (some ⟨lb, 0, none⟩)] w fun e w' => ∃ v, e = .returned v ∧ w'.ownsRow w.heap.size 66 2 v (rgN s.ns).length (flat (rgN s.ns)) ∧ Gq w0 w' lb s := by
  have hq := h
  obtain ⟨F, h1, h2⟩ := h
  exact (g_all h1).mono fun e w' ⟨v, he, ho, hb⟩ => ⟨v, he, ho, hq.below hb⟩
theorem first_add {n : Int} : addL [] n = [(n, n)] := rfl
theorem two_add {n m : Int} : (addL [(n, n)] m).length ≤ 2 := by
  unfold addL withF
  repeat' split
  all_goals first | (simp [withF]; done) | (unfold withF; (repeat' split) <;> simp)
end
end Go.Proofs.YtegelodkopommaaGreatDoor.Lo
