/- What the document's Ranges of an ack's numbers and Counts answer. -/
import Derived.Test.YtjpdembofiadbaaDoorFC
namespace Go.Proofs.YtjpdembofiadbaaDoor
open Go.RowKit Go.Lib Go.Sort
set_option linter.unusedVariables false
set_option linter.unusedSimpArgs false
set_option linter.unusedSimpArgs false

set_option maxRecDepth 100000 in
set_option maxHeartbeats 4000000 in
theorem dranges_some (b off M L C : Nat) (ns : List Int) (w : World) (hLM : L = 2 * M) (hM12 : M ≤ 12) (hlen : ns.length = L) (hb : b < w.heap.size) (hcc : ICells w b off ns) :
    Calls Tryd.prog 27 #[.slice (some ⟨b, off, none⟩) L C] w fun e w' => ∃ v, e = .returned v ∧ Row w' v (rgs ns) ∧ Below w.heap.size w w' := by
  have HLM : Hid (L = 2 * M) := hLM
  have HLen : Hid (ns.length = L) := hlen
  have CC : Hid (ICells w b off ns) := hcc
  have HRL : Hid ((rgs ns).length = M) := rgs_length M ns (by omega)
  obtain ⟨i0, hi0, hz0, hz1, hz2⟩ := info_parts infoR
  have HI : Hid (Tryd.prog.info? 76 = some i0 ∧ i0.zero = some (.agg #[.int .i64 0, .int .i64 0]) ∧ i0.size = 2 ∧ i0.bytes = 16) := ⟨hi0, hz0, hz1, hz2⟩
  have hL24 : L ≤ 24 := by omega
  clear hlen hcc hLM hi0 hz0 hz1 hz2
  go_enter Tryd.func27, Tryd.ntmps27
  go_wp2_with fail
  go_loopw [3, 4] (fun v i wr => ∃ k j : Nat, k ≤ M ∧ Hid (j = 2 * k) ∧ i = .int .i64 (j : Int) ∧ wr.ownsRow w.heap.size 76 2 v k (flat ((rgs ns).take k)) ∧ Below w.heap.size w wr) (fun _ i _ => L - (intOf i).toNat)
  case atStart => exact ⟨0, 0, Nat.zero_le _, rfl, rfl, World.ownsRow_nil _ _ _ _, Below.refl _ _⟩
  case round =>
    obtain ⟨k, j, hk, HJ, rfl, hown, hB⟩ := hrel
    by_cases hlt : k < M
    · have hj := HJ.out
      have hL := HLM.out
      have g1 : (j : Int) + 1 < (L : Int) := by omega
      have g0 : (j : Int) < (L : Int) := by omega
      have cx0 := CC.out j (by have := HLen.out; omega)
      have cx1 := CC.out (j + 1) (by have := HLen.out; omega)
      have z0 := (hB.cell (p := ⟨b, off + j, none⟩) hb).trans cx0
      have z1 := (hB.cell (p := ⟨b, off + (j + 1), none⟩) hb).trans cx1
      have HN : Hid ((rgs ns).take (k + 1) = (rgs ns).take k ++ [(ns[j + 1]?.getD 0, ns[j]?.getD 0)]) := by
        show _ = _
        rw [take_at (by have := HRL.out; omega), ← rgs_range M ns (by have := HLen.out; omega)]
        simp [at', hlt, rgAt, hj]
      have gj0 : (0 : Int) ≤ (j : Int) := by omega
      have gj1 : (0 : Int) ≤ (j : Int) + 1 := by omega
      have hw1 : IntKind.i64.wrap ((j : Int) + 1) = (j : Int) + 1 := by simp [IntKind.wrap, IntKind.bits, IntKind.signed]; omega
      have hnt : ((j : Int) + 1).toNat = j + 1 := by omega
      clear cx0 cx1 hj hL
      generalize ns[j]?.getD 0 = na at *
      generalize ns[j + 1]?.getD 0 = nb at *
      have HK : Hid (k < 12) := by show _ < _; omega
      have d0 : wr.drew.cell? ⟨b, off + j, none⟩ = some (.int .i64 na) := z0
      have d1 : wr.drew.cell? ⟨b, off + (j + 1), none⟩ = some (.int .i64 nb) := z1
      have ownd : wr.drew.ownsRow w.heap.size 76 2 u3 k (flat ((rgs ns).take k)) := hown
      have HO : Hid (wr.drew.ownsRow w.heap.size 76 2 u3 k (flat ((rgs ns).take k))) := ownd
      have hBd : Below w.heap.size w wr.drew := hB.drew
      have hbd : b < wr.drew.heap.size := Nat.lt_of_lt_of_le hb hBd.size
      have hsd : w.heap.size ≤ wr.drew.heap.size := hBd.size
      have hs0 : w.heap.size ≤ wr.heap.size := hBd.size
      have hcn := cells_rng wr.drew nb na
      have CS : Hid (∀ j u, [Value.int .i64 nb, Value.int .i64 na][j]? = some u → (wr.drew.alloc (.cells #[.int .i64 nb, .int .i64 na] 76)).cell? ((⟨wr.drew.heap.size, 0, none⟩ : Addr).add j) = some u) := hcn
      have hng : some b ≠ u3.ownBlock := fun e => by have := (ownd.lt b e.symm).1; omega
      have hba : b < (wr.drew.alloc (.cells #[.int .i64 nb, .int .i64 na] 76)).heap.size := by rw [World.size_alloc]; omega
      have e0 := (World.cell?_alloc_lt wr.drew (.cells #[.int .i64 nb, .int .i64 na] 76) ⟨b, off + j, none⟩ hbd).trans d0
      have e1 := (World.cell?_alloc_lt wr.drew (.cells #[.int .i64 nb, .int .i64 na] 76) ⟨b, off + (j + 1), none⟩ hbd).trans d1
      obtain ⟨av, cv, rfl⟩ : ∃ a c, u3 = .slice a k c := by
        rcases hown.2 with ⟨e, h0⟩ | ⟨g', cap, cur, e, _⟩
        · exact ⟨none, 0, by rw [e, h0]⟩
        · exact ⟨_, _, e⟩
      clear hown ownd hcn z0 z1
      go_wp2_with fail
      go_region_held3 (fun X => X.cell? ⟨b, off + j, none⟩ = some (.int .i64 na) ∧ X.cell? ⟨b, off + (j + 1), none⟩ = some (.int .i64 nb)) (first | exact ⟨d0, d1⟩ | exact ⟨e0, e1⟩ | exact ⟨f0, f1⟩) (first | (refine step_append_own rfl (.tmp 12) (.tmp 23) 60 rfl w.heap.size 76 i0 _ 2 16 Tryd.underlying60 HI.out.1 HI.out.2.1 HI.out.2.2.1 HI.out.2.2.2 rfl (by decide) (.slice av k cv) k (flat ((rgs ns).take k)) (by simp [Act.eval, Act.put]) (HO.out.alloc _) ⟨wr.drew.heap.size, 0, none⟩ 1 1 [Value.int .i64 nb, Value.int .i64 na] (by simp [Act.eval, Act.put]) rfl CS.out (by intro u hu; simp at hu; rcases hu with rfl | rfl <;> rfl) (by have := HK.out; unfold maxLen; omega) (by have := HK.out; omega) (by simp; omega) ?_; intro v' w4 hown' hgrow; have f0 := cell_grown_ne e0 hgrow hba hng; have f1 := cell_grown_ne e1 hgrow hba hng))
      go_wp2_with fail
      exact ⟨⟨k + 1, j + 2, by omega, by show _ = _; have := HJ.out; omega, by go_num, by rw [HN.out, flat_append]; exact hown', (hBd.alloc hBd.size _).grown hgrow (by rw [World.size_alloc]; omega) (fun q e => (HO.out.lt q e).1)⟩, by simp [intOf]; omega⟩
    · obtain rfl : k = M := by omega
      have g1 : ¬ (j : Int) + 1 < (L : Int) := by have := HJ.out; have := HLM.out; omega
      have gj1 : (0 : Int) ≤ (j : Int) + 1 := by omega
      have hjb : j ≤ 24 := by have := HJ.out; omega
      have HE : Hid ((rgs ns).take k = rgs ns) := by show _ = _; rw [← HRL.out, List.take_length]
      rw [HE.out] at hown
      have hrow := row_of_own hown (by have := HRL.out; omega)
      obtain ⟨av, cv, hv, _⟩ := id hrow
      clear HE
      rw [HRL.out] at hv
      subst hv
      go_wp2_with fail
      go_ret
      exact ⟨_, rfl, hrow, hB⟩
theorem dranges_calls (v : Value) (ns : List Int) (M : Nat) (w : World) (hR : IRow w v ns) (hM : ns.length = 2 * M) (h1 : 1 ≤ M) (h12 : M ≤ 12) :
    Calls Tryd.prog 27 #[v] w fun e w' => ∃ v', e = .returned v' ∧ Row w' v' (rgs ns) ∧ Below w.heap.size w w' := by
  obtain ⟨ao, c, rfl, hl, hc, hz⟩ := hR
  rcases hz with h | ⟨b, off, rfl, hb, hC⟩
  · subst h; simp at hM; omega
  · exact dranges_some b off M _ c ns w hM h12 rfl hb hC

def cntD (k : Int) : Int := if k = 1 then 0 else if k = 2 then -1 else if k = 7 then 2 else 1
set_option maxRecDepth 100000 in
set_option maxHeartbeats 4000000 in
theorem dcounts_calls (k : Int) (w : World) : Calls Tryd.prog 25 #[.int .i64 k] w fun e w' => e = .returned (.int .i64 (cntD k)) ∧ w' = w := by
  by_cases h1 : k = 1
  · subst h1
    go_enter Tryd.func25, Tryd.ntmps25
    go_wp2_with fail
    go_ret
    exact ⟨rfl, rfl⟩
  · by_cases h2 : k = 2
    · subst h2
      go_enter Tryd.func25, Tryd.ntmps25
      go_wp2_with fail
      go_ret
      exact ⟨rfl, rfl⟩
    · by_cases h7 : k = 7
      · subst h7
        go_enter Tryd.func25, Tryd.ntmps25
        go_wp2_with fail
        go_ret
        exact ⟨rfl, rfl⟩
      · have e : cntD k = 1 := by simp [cntD, h1, h2, h7]
        rw [e]
        clear e
        go_enter Tryd.func25, Tryd.ntmps25
        go_wp2_with fail
        go_ret
        exact ⟨rfl, rfl⟩
end Go.Proofs.YtjpdembofiadbaaDoor
