/- An argument that is a slice of strings, as it lies in memory. -/
import Derived.Test.YtljilhhnejjifaaP
import Derived.SliceStrings
namespace Go.Proofs.Ytljilhhnejjifaa
open Go.ChangeShapes Go.WideShapes Go.ChangeAt Go.RowKit
set_option linter.unusedVariables false
set_option linter.unusedSimpArgs false

def Texts (w : World) (b off len : Nat) : Prop := b < w.heap.size ∧ ∀ r, r < len → ∃ d : ByteArray, w.cell? ⟨b, off + r, none⟩ = some (.string d) ∧ d.size ≤ 140737488351232
def TextsArg (w : World) (v : Value) : Prop := ∃ ao len c, v = .slice ao len c ∧ len ≤ 9223372036854775807 ∧ (len = 0 ∨ ∃ b off, ao = some ⟨b, off, none⟩ ∧ Texts w b off len)
theorem weights_all {H : Type} {P : Program} {e : TypeId} : ∀ {l : List (DataW H)} {d : DataW H}, d ∈ l → ∀ n ∈ d.weights P e, n ∈ DataW.weightsAll P e l
  | d0 :: r, d, h, n, hn => by
    simp only [DataW.weightsAll, List.mem_append]
    rcases List.mem_cons.1 h with rfl | h
    · exact .inl hn
    · exact .inr (weights_all h n hn)
theorem open_texts {H : Type} {enc : TypeId × Value → H} {W : World} {a : Option Addr} {len cap : Nat} {d : DataW H} {ps : List MemPlace} (h : DataW.Trod enc Try.prog W 0 (fun _ => true) true 22 (.slice a len cap) d ps) (hw : ∀ n ∈ d.weights Try.prog 22, n ≤ reachBytes) : TextsArg W (.slice a len cap) := by
  obtain ⟨fuel, hf⟩ := h
  rcases open_strings Try.underlying22 Try.underlying9 (by kernel_rfl) hf with ⟨hcs, _⟩ | ⟨y, l, c, ss, hcs, _, hl, hm, hz, hx, hcell, _⟩
  · simp [Value.cells] at hcs
    obtain ⟨rfl, rfl, rfl⟩ := hcs
    exact ⟨none, 0, 0, rfl, by omega, .inl rfl⟩
  · simp [Value.cells] at hcs
    obtain ⟨rfl, rfl, rfl⟩ := hcs
    have hz : ss.length = cap := by simpa using hz
    have hd : d = .slice (strs (ss.take len)) (strs (ss.drop len)) := congrArg Prod.fst hx
    subst hd
    have hlm : len ≤ 9223372036854775807 := Nat.le_trans hl hm
    by_cases h0 : len = 0
    · exact ⟨_, _, _, rfl, hlm, .inl h0⟩
    · obtain ⟨b, off, rfl, hb⟩ := addr_plain (hcell 0 (by omega))
      refine ⟨_, _, _, rfl, hlm, .inr ⟨b, off, rfl, hb, fun r hr => ?_⟩⟩
      have hc := hcell r (by omega)
      rw [Addr.add_lit] at hc
      refine ⟨_, hc, ?_⟩
      have hr' : r < ss.length := by omega
      have hmem : (DataW.lit (.string (ss[r]).data.toList) : DataW H) ∈ strs (ss.take len) := by
        unfold strs
        refine List.mem_map.2 ⟨ss[r], ?_, rfl⟩
        refine List.mem_iff_getElem.2 ⟨r, by simp; omega, by simp⟩
      have := hw (ss[r]).data.toList.length (by
        simp only [DataW.weights, Try.underlying22, List.mem_cons, List.mem_append]
        refine .inr (.inl (weights_all hmem _ ?_))
        simp [DataW.weights])
      have e2 : reachBytes = 140737488351232 := by decide
      rw [e2] at this
      simpa [List.getD, hr'] using this
end Go.Proofs.Ytljilhhnejjifaa
