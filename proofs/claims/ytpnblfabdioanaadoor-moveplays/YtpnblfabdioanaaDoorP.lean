/- An argument that is a slice of slices of integers, as it lies in memory. -/
import Derived.Test.YtpnblfabdioanaaDoorEO
import Derived.ProofKit
import Derived.OpenShut
import Derived.LaidMore
import Derived.SizedLaws
import Derived.Deep.Matrix
namespace Go.Proofs.YtpnblfabdioanaaDoor
open Go.ChangeShapes Go.WideShapes Go.ChangeAt Go.RowKit
set_option linter.unusedVariables false
set_option linter.unusedSimpArgs false

def iat (zs : List Int) (j : Nat) : Int := zs[j]?.getD 0
theorem iat_get {ns : List Int} {j : Nat} (h : j < ns.length) : ns[j]? = some (iat ns j) := by simp [iat, h]
def wf64 (n : Int) : Prop := (Lit.int .i64 n).wf = true
/-- The integers zs lie where a slice of that many leads to. -/
def Ints (w : World) (ao : Option Addr) (zs : List Int) : Prop := zs.length ≤ 9223372036854775807 ∧ (∀ n ∈ zs, wf64 n) ∧ (zs = [] ∨ ∃ b off, ao = some ⟨b, off, none⟩ ∧ b < w.heap.size ∧ ∀ j, j < zs.length → w.cell? ⟨b, off + j, none⟩ = some (.int .i64 (iat zs j)))
/-- From the cell b, off on there lie len slices of integers. -/
def Steps (w : World) (b off len : Nat) : Prop := b < w.heap.size ∧ len ≤ 9223372036854775807 ∧ ∀ r, r < len → ∃ ao c zs, w.cell? ⟨b, off + r, none⟩ = some (.slice ao zs.length c) ∧ Ints w ao zs
def StepsArg (w : World) (v : Value) : Prop := ∃ ao len c, v = .slice ao len c ∧ (len = 0 ∨ ∃ b off, ao = some ⟨b, off, none⟩ ∧ Steps w b off len)
theorem Ints.below {w w' : World} {ao : Option Addr} {zs : List Int} (h : Ints w ao zs) (hb : Below w.heap.size w w') : Ints w' ao zs := by
  refine ⟨h.1, h.2.1, h.2.2.imp id ?_⟩
  rintro ⟨b, off, e, hl, hc⟩
  exact ⟨b, off, e, Nat.lt_of_lt_of_le hl hb.size, fun j hj => (hb.cell (p := ⟨b, off + j, none⟩) hl).trans (hc j hj)⟩
theorem Steps.below {w w' : World} {b off len : Nat} (h : Steps w b off len) (hb : Below w.heap.size w w') : Steps w' b off len := by
  refine ⟨Nat.lt_of_lt_of_le h.1 hb.size, h.2.1, fun r hr => ?_⟩
  obtain ⟨ao, c, zs, h1, h2⟩ := h.2.2 r hr
  exact ⟨ao, c, zs, (hb.cell (p := ⟨b, off + r, none⟩) h.1).trans h1, h2.below hb⟩
theorem addr_plain {W : World} {x : Addr} {v : Value} (h : W.cell? (x.add 0) = some v) : ∃ b off, x = ⟨b, off, none⟩ ∧ b < W.heap.size := by
  obtain ⟨b, off, s⟩ := x
  cases s with
  | none =>
    refine ⟨b, off, rfl, ?_⟩
    rw [Addr.add_lit] at h
    exact World.block_lt_of_cell? W _ h
  | some s =>
    simp [World.cell?, Addr.add] at h
    split at h <;> simp_all
theorem open_rows {H : Type} {enc : TypeId × Value → H} {W : World} {a : Option Addr} {len cap : Nat} {d : DataW H} {ps : List MemPlace} (h : DataW.Trod enc Tryd.prog W 0 (fun _ => true) true 36 (.slice a len cap) d ps) : StepsArg W (.slice a len cap) := by
  obtain ⟨fuel, hf⟩ := h
  rcases Go.Deep.open_int_rows Tryd.underlying36 Tryd.underlying50 Tryd.underlying3 (by kernel_rfl) (by kernel_rfl) hf with ⟨hcs, _⟩ | ⟨y, l, c, A, L, C, Z, hcs, _, hl, hm, _, hx⟩
  · simp [Value.cells] at hcs
    obtain ⟨rfl, rfl, rfl⟩ := hcs
    exact ⟨none, 0, 0, rfl, .inl rfl⟩
  · simp [Value.cells] at hcs
    obtain ⟨rfl, rfl, rfl⟩ := hcs
    by_cases h0 : len = 0
    · exact ⟨_, _, _, rfl, .inl h0⟩
    · obtain ⟨b, off, rfl, hb⟩ := addr_plain (hx 0 (by omega)).1
      refine ⟨_, _, _, rfl, .inr ⟨b, off, rfl, hb, Nat.le_trans hl hm, fun r hr => ?_⟩⟩
      obtain ⟨c1, c2, c3, c4, c5, c6, c7⟩ := hx r (by omega)
      rw [Addr.add_lit] at c1
      have hlen : ((Z r).take (L r)).length = L r := by simp; omega
      refine ⟨A r, C r, (Z r).take (L r), by rw [hlen]; exact c1, by rw [hlen]; exact Nat.le_trans c2 c3, fun n hn => c5 n (List.mem_of_mem_take hn), ?_⟩
      by_cases hL : L r = 0
      · left; rw [hL]; rfl
      · right
        cases hA : A r with
        | none => have := c6 hA; omega
        | some a' =>
          obtain ⟨_, hc⟩ := c7 a' hA
          obtain ⟨b', off', rfl, hb'⟩ := addr_plain (hc 0 (by omega))
          refine ⟨b', off', rfl, hb', fun j hj => ?_⟩
          rw [hlen] at hj
          have := hc j (by omega)
          rw [Addr.add_lit] at this
          rw [this]
          simp [iat, List.getD, List.getElem?_take, hj]
theorem row_at' {w wr : World} {b off len : Nat} (h : Steps w b off len) (hb : Below w.heap.size w wr) {k : Nat} (hk : k < len) : ∃ ar cr zs, wr.cell? ⟨b, off + k, none⟩ = some (.slice ar zs.length cr) ∧ Ints w ar zs := by
  obtain ⟨ar, cr, zs, h1, h2⟩ := h.2.2 k hk
  exact ⟨ar, cr, zs, (hb.cell (p := ⟨b, off + k, none⟩) h.1).trans h1, h2⟩
end Go.Proofs.YtpnblfabdioanaaDoor
