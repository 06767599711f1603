/- What isLimit, isName, New and isFull answer. -/
import Derived.Test.YtlmllfakoglbcaaDoorB
namespace Go.Proofs.YtlmllfakoglbcaaDoor
open Go.RowKit Go.Lib Go.Sort
set_option linter.unusedVariables false
set_option linter.unusedSimpArgs false

def limitB (n : Int) : Bool := decide (1 ≤ n ∧ n ≤ 8)
theorem limitB_yes {n : Int} (h : limitB n = true) : 1 ≤ n ∧ n ≤ 8 := of_decide_eq_true h
theorem limitB_no {n : Int} (h : limitB n = false) : n < 1 ∨ 8 < n := by have := of_decide_eq_false h; omega

set_option maxRecDepth 100000 in
set_option maxHeartbeats 2000000 in
theorem isLimit_calls (n : Int) (w : World) : Calls Tryd.prog 16 #[.int .i64 n] w fun e w' => e = .returned (.bool (limitB n)) ∧ w' = w := by
  by_cases h1 : 1 ≤ n
  · by_cases h2 : n ≤ 8
    · go_enter Tryd.func16, Tryd.ntmps16
      go_wp2
      go_ret
      exact ⟨by simp [limitB, h1, h2], rfl⟩
    · go_enter Tryd.func16, Tryd.ntmps16
      go_wp2
      go_ret
      exact ⟨by simp [limitB, h1, h2], rfl⟩
  · go_enter Tryd.func16, Tryd.ntmps16
    go_wp2
    go_ret
    exact ⟨by simp [limitB] <;> omega, rfl⟩

set_option maxRecDepth 100000 in
set_option maxHeartbeats 2000000 in
theorem isName_calls (n : Int) (w : World) : Calls Tryd.prog 17 #[.int .i64 n] w fun e w' => e = .returned (.bool (nameB n)) ∧ w' = w := by
  by_cases h1 : 0 ≤ n
  · by_cases h2 : n ≤ 1073741823
    · go_enter Tryd.func17, Tryd.ntmps17
      go_wp2
      go_ret
      exact ⟨by simp [nameB, h1, h2], rfl⟩
    · go_enter Tryd.func17, Tryd.ntmps17
      go_wp2
      go_ret
      exact ⟨by simp [nameB, h1, h2], rfl⟩
  · go_enter Tryd.func17, Tryd.ntmps17
    go_wp2
    go_ret
    exact ⟨by simp [nameB] <;> omega, rfl⟩

set_option maxRecDepth 100000 in
set_option maxHeartbeats 2000000 in
theorem may_calls (n : Int) (w : World) : Calls Tryd.prog 23 #[.int .i64 n] w fun e w' => e = .returned (.bool (nameB n)) ∧ w' = w := by
  by_cases h1 : 0 ≤ n
  · by_cases h2 : n ≤ 1073741823
    · go_enter Tryd.func23, Tryd.ntmps23
      go_wp2
      go_ret
      exact ⟨by simp [nameB, h1, h2], rfl⟩
    · go_enter Tryd.func23, Tryd.ntmps23
      go_wp2
      go_ret
      exact ⟨by simp [nameB, h1, h2], rfl⟩
  · go_enter Tryd.func23, Tryd.ntmps23
    go_wp2
    go_ret
    exact ⟨by simp [nameB] <;> omega, rfl⟩

theorem new_obj (w : World) (L : Int) (h : limitB L = true) : Obj ((w.alloc (.map #[] 0)).alloc (.cells #[.int .i64 L, .map (some w.heap.size), .slice none 0 0] 51)) w.heap.size (w.heap.size + 1) w.heap.size (.slice none 0 0) L [] [] := by
  obtain ⟨h1, h8⟩ := limitB_yes h
  have hm : (w.alloc (.map #[] 0)).ownsMap Tryd.prog 3 (plainElem (H := Unit) Tryd.prog 3) w.heap.size 0 (.map []) := World.ownsMap_made w _ _ _
  have e : (w.alloc (.map #[] 0)).heap.size = w.heap.size + 1 := by simp
  refine ⟨Inv.start h1 h8, ?_, ?_, ?_, ?_, ⟨.map [], hm.alloc _, Names.start⟩, World.ownsRow_nil _ _ _ _, by omega, by omega, by omega, fun k hk => by simp [Value.ownBlock] at hk⟩
  · rw [← e]; simp
  · rw [← e]; simp
  · rw [← e]; simp
  · rw [← e]; simp
set_option maxRecDepth 100000 in
set_option maxHeartbeats 2000000 in
theorem new_no (L : Int) (w : World) (h : limitB L = false) : Calls Tryd.prog 6 #[.int .i64 L] w fun e w' => e = .returned (.tuple #[.pointer none, .iface 48 (.int .i64 1)]) ∧ w' = w := by
  go_enter Tryd.func6, Tryd.ntmps6
  go_wp2_with (go_at_call 16; refine (isLimit_calls L _).mono ?_; rintro e w1 ⟨rfl, rfl⟩; rw [h])
  go_ret2
  exact ⟨rfl, rfl⟩
set_option maxRecDepth 100000 in
set_option maxHeartbeats 2000000 in
theorem new_yes (L : Int) (w : World) (h : limitB L = true) : Calls Tryd.prog 6 #[.int .i64 L] w fun e w' => e = .returned (.tuple #[.pointer (some ⟨w.heap.size + 1, 0, none⟩), .nilIface]) ∧ Obj w' w.heap.size (w.heap.size + 1) w.heap.size (.slice none 0 0) L [] [] ∧ Below w.heap.size w w' := by
  have hmm := @run_makeMap Tryd.prog
  go_enter Tryd.func6, Tryd.ntmps6
  go_wp2_with (go_at_call 16; refine (isLimit_calls L _).mono ?_; rintro e w1 ⟨rfl, rfl⟩; rw [h])
  go_ret2
  exact ⟨by simp, new_obj _ L h, ((Below.refl _ _).alloc (Nat.le_refl _) _).alloc (by simp) _⟩

theorem len_map {W : World} {bm m : Nat} {D : DataW Unit} (h : W.ownsMap Tryd.prog 3 (plainElem Tryd.prog 3) bm m D) (q : Nat) (ty : TypeId) : (Builtin.len_ #[49] ty #[.map (some bm)]).run Tryd.prog (W.drewN q) = .ok (.int .i64 (Maps.size D)) (W.drewN q) :=
  World.ownsMap.len (w := W.drewN q) h Tryd.underlying49 ty
def fullB (L : Int) (ns : List Int) (ls : List R) : Bool := decide (L ≤ (ls.length : Int)) || decide (100 ≤ ns.length)

set_option maxRecDepth 100000 in
set_option maxHeartbeats 2000000 in
theorem isFull_a {w : World} {B sb bm : Nat} {v : Value} {L : Int} {ns : List Int} {ls : List R} (h : Obj w B sb bm v L ns ls) (g1 : L ≤ (ls.length : Int)) :
    Calls Tryd.prog 18 #[.pointer (some ⟨sb, 0, none⟩)] w fun e w' => e = .returned (.bool true) ∧ Below w.heap.size w w' := by
  obtain ⟨inv, c0, c1, c2, f2, ⟨D, hD, hN⟩, row, _⟩ := h
  have hlen := len_map hD
  rw [hN.size] at hlen
  obtain ⟨a, cap, rfl⟩ : ∃ a cap, v = .slice a ls.length cap := by
    rcases row.2 with ⟨rfl, e⟩ | ⟨g, cap, cur, rfl, _⟩
    · exact ⟨none, 0, by rw [e]⟩
    · exact ⟨_, _, rfl⟩
  clear hD hN row inv
  generalize ls.length = m at *
  generalize ns.length = k at *
  go_enter Tryd.func18, Tryd.ntmps18
  go_wp2
  go_quiet (fail)
  go_wp2
  go_ret
  exact ⟨rfl, by repeat (first | exact Below.refl _ _ | exact below_drewN (Below.refl _ _) _ | refine Below.drew ?_)⟩

set_option maxRecDepth 100000 in
set_option maxHeartbeats 2000000 in
theorem isFull_b {w : World} {B sb bm : Nat} {v : Value} {L : Int} {ns : List Int} {ls : List R} (h : Obj w B sb bm v L ns ls) (g1 : decide (L ≤ (ls.length : Int)) = false) (g2 : (100 : Int) ≤ (ns.length : Int)) :
    Calls Tryd.prog 18 #[.pointer (some ⟨sb, 0, none⟩)] w fun e w' => e = .returned (.bool true) ∧ Below w.heap.size w w' := by
  obtain ⟨inv, c0, c1, c2, f2, ⟨D, hD, hN⟩, row, _⟩ := h
  have hlen := len_map hD
  rw [hN.size] at hlen
  obtain ⟨a, cap, rfl⟩ : ∃ a cap, v = .slice a ls.length cap := by
    rcases row.2 with ⟨rfl, e⟩ | ⟨g, cap, cur, rfl, _⟩
    · exact ⟨none, 0, by rw [e]⟩
    · exact ⟨_, _, rfl⟩
  clear hD hN row inv
  generalize ls.length = m at *
  generalize ns.length = k at *
  go_enter Tryd.func18, Tryd.ntmps18
  go_wp2
  go_quiet (fail)
  go_wp2
  go_ret
  exact ⟨rfl, by repeat (first | exact Below.refl _ _ | exact below_drewN (Below.refl _ _) _ | refine Below.drew ?_)⟩

set_option maxRecDepth 100000 in
set_option maxHeartbeats 2000000 in
theorem isFull_c {w : World} {B sb bm : Nat} {v : Value} {L : Int} {ns : List Int} {ls : List R} (h : Obj w B sb bm v L ns ls) (g1 : decide (L ≤ (ls.length : Int)) = false) (g2 : decide ((100 : Int) ≤ (ns.length : Int)) = false) :
    Calls Tryd.prog 18 #[.pointer (some ⟨sb, 0, none⟩)] w fun e w' => e = .returned (.bool false) ∧ Below w.heap.size w w' := by
  obtain ⟨inv, c0, c1, c2, f2, ⟨D, hD, hN⟩, row, _⟩ := h
  have hlen := len_map hD
  rw [hN.size] at hlen
  obtain ⟨a, cap, rfl⟩ : ∃ a cap, v = .slice a ls.length cap := by
    rcases row.2 with ⟨rfl, e⟩ | ⟨g, cap, cur, rfl, _⟩
    · exact ⟨none, 0, by rw [e]⟩
    · exact ⟨_, _, rfl⟩
  clear hD hN row inv
  generalize ls.length = m at *
  generalize ns.length = k at *
  go_enter Tryd.func18, Tryd.ntmps18
  go_wp2
  go_quiet (fail)
  go_wp2
  go_ret
  exact ⟨rfl, by repeat (first | exact Below.refl _ _ | exact below_drewN (Below.refl _ _) _ | refine Below.drew ?_)⟩

theorem isFull_calls {w : World} {B sb bm : Nat} {v : Value} {L : Int} {ns : List Int} {ls : List R} (h : Obj w B sb bm v L ns ls) :
    Calls Tryd.prog 18 #[.pointer (some ⟨sb, 0, none⟩)] w fun e w' => e = .returned (.bool (fullB L ns ls)) ∧ Below w.heap.size w w' := by
  by_cases g1 : L ≤ (ls.length : Int)
  · have e : fullB L ns ls = true := by simp [fullB, g1]
    rw [e]; exact isFull_a h g1
  · by_cases g2 : (100 : Int) ≤ (ns.length : Int)
    · have e : fullB L ns ls = true := by simp [fullB]; omega
      rw [e]; exact isFull_b h (decide_eq_false g1) g2
    · have e : fullB L ns ls = false := by simp [fullB]; omega
      rw [e]; exact isFull_c h (decide_eq_false g1) (decide_eq_false g2)
end Go.Proofs.YtlmllfakoglbcaaDoor
