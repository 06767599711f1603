/- The law's comparison of two lists of integers and of two frames, where they are the same. -/
import Derived.Test.YtjpdembofiadbaaDoorFJ
namespace Go.Proofs.YtjpdembofiadbaaDoor
open Go.RowKit Go.Lib Go.Sort
set_option linter.unusedVariables false
set_option linter.unusedSimpArgs false
set_option linter.unusedSimpArgs false

set_option maxRecDepth 100000 in
set_option maxHeartbeats 4000000 in
theorem sameI_some (b1 o1 c1 b2 o2 c2 len : Nat) (zs : List Int) (w : World) (hlen : zs.length = len) (hl : len ≤ 9223372036854775807) (h1 : b1 < w.heap.size) (h2 : b2 < w.heap.size) (hc1 : ICells w b1 o1 zs) (hc2 : ICells w b2 o2 zs) :
    Calls Tryd.prog 39 #[.slice (some ⟨b1, o1, none⟩) len c1, .slice (some ⟨b2, o2, none⟩) len c2] w fun e w' => e = .returned (.bool true) ∧ Below w.heap.size w w' := by
  have HL : Hid (zs.length = len) := hlen
  have H1 : Hid (ICells w b1 o1 zs) := hc1
  have H2 : Hid (ICells w b2 o2 zs) := hc2
  clear hlen hc1 hc2
  go_enter Tryd.func39, Tryd.ntmps39
  go_wp2_with fail
  go_loopw [5] (fun i wr => ∃ k : Nat, k ≤ len ∧ i = .int .i64 (k : Int) ∧ Below w.heap.size w wr) (fun i _ => len - (intOf i).toNat)
  case atStart => exact ⟨0, Nat.zero_le _, rfl, Below.refl _ _⟩
  case round =>
    obtain ⟨k, hk, rfl, hB⟩ := hrel
    by_cases hlt : k < len
    · have g1 : (k : Int) < (len : Int) := by omega
      have hkl : k < zs.length := by have := HL.out; omega
      have z1 := H1.out.below h1 hB k hkl
      have z2 := H2.out.below h2 hB k hkl
      generalize zs[k]?.getD 0 = y at *
      have gk : ¬ (k : Int) < 0 := by omega
      clear hkl
      go_wp2_with fail
      go_quiet (fail)
      go_wp2_with fail
      exact ⟨⟨k + 1, by omega, by go_num, below_drewN hB _⟩, by simp [intOf]; omega⟩
    · have g1 : ¬ (k : Int) < (len : Int) := by omega
      go_wp2_with fail
      go_ret
      exact ⟨rfl, hB⟩

set_option maxRecDepth 100000 in
set_option maxHeartbeats 4000000 in
theorem sameI_none (a1 a2 : Option Addr) (c1 c2 : Nat) (w : World) : Calls Tryd.prog 39 #[.slice a1 0 c1, .slice a2 0 c2] w fun e w' => e = .returned (.bool true) ∧ Below w.heap.size w w' := by
  go_enter Tryd.func39, Tryd.ntmps39
  go_wp2_with fail
  refine wp_loop_rounds 1 ?_
  rw [rounds_succ]
  go_wp2_with fail
  go_ret
  exact ⟨rfl, Below.refl _ _⟩
theorem sameI_calls (v1 v2 : Value) (zs : List Int) (w : World) (h1 : IRow w v1 zs) (h2 : IRow w v2 zs) : Calls Tryd.prog 39 #[v1, v2] w fun e w' => e = .returned (.bool true) ∧ Below w.heap.size w w' := by
  obtain ⟨a1, c1, rfl, hl, _, hz1⟩ := h1
  obtain ⟨a2, c2, rfl, _, _, hz2⟩ := h2
  by_cases h0 : zs = []
  · subst h0; exact sameI_none a1 a2 c1 c2 w
  · rcases hz1 with h | ⟨b1, o1, rfl, l1, C1⟩
    · exact absurd h h0
    · rcases hz2 with h | ⟨b2, o2, rfl, l2, C2⟩
      · exact absurd h h0
      · exact sameI_some b1 o1 c1 b2 o2 c2 _ zs w rfl hl l1 l2 C1 C2

set_option maxRecDepth 100000 in
set_option maxHeartbeats 4000000 in
theorem sameF_calls (k : Int) (v1 v2 : Value) (d : ByteArray) (zs : List Int) (w : World) (h1 : IRow w v1 zs) (h2 : IRow w v2 zs) : Calls Tryd.prog 24 #[.agg #[.int .i64 k, v1, .string d], .agg #[.int .i64 k, v2, .string d]] w fun e w' => e = .returned (.bool true) ∧ Below w.heap.size w w' := by
  have bel : Below w.heap.size w ((w.alloc (.cells #[.int .i64 k, v1, .string d] 38)).alloc (.cells #[.int .i64 k, v2, .string d] 38)) := ((Below.refl _ w).alloc (Nat.le_refl _) _).alloc (by simp) _
  have HS := sameI_calls v1 v2 zs _ (h1.below bel) (h2.below bel)
  have hee : (d.toList == d.toList) = true := by simp
  obtain ⟨a1, c1, rfl, _⟩ := h1
  obtain ⟨a2, c2, rfl, _⟩ := h2
  generalize zs.length = n at *
  go_enter Tryd.func24, Tryd.ntmps24
  go_wp2_with (first | (go_at_call 39; refine HS.mono ?_; rintro e w1 ⟨rfl, hb1⟩; have hB1 := bel.trans (hb1.mono bel.size)))
  go_ret
  exact ⟨by simp, hB1⟩
end Go.Proofs.YtjpdembofiadbaaDoor
