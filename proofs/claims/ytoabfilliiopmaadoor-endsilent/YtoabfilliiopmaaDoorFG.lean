/- What take, takePiece, takeAck and takeNums answer. -/
import Derived.Test.YtoabfilliiopmaaDoorFC
namespace Go.Proofs.YtoabfilliiopmaaDoor
open Go.RowKit Go.Lib Go.Sort
set_option linter.unusedVariables false
set_option linter.unusedSimpArgs false


theorem ext_ext (s : ByteArray) (A B : Nat) (hA : A ≤ s.size) (hB : A + B ≤ s.size) : (s.extract A s.size).extract B (s.extract A s.size).size = s.extract (A + B) s.size := by
  apply ints_inj
  have h1 : (s.extract A s.size).size = s.size - A := by rw [ByteArray.size_extract]; omega
  rw [ints_drop _ B (by omega), ints_drop s A hA, ints_drop s (A + B) hB, List.drop_drop]
theorem ext_all (s : ByteArray) : s.extract 0 s.size = s := by
  apply ints_inj
  rw [ints_drop s 0 (Nat.zero_le _)]; rfl
theorem get_nat {l : List Int} (hb : Bytes l) {g c : Int} (h : V.getI l = some (g, c)) : ∃ n : Nat, c = (n : Int) ∧ n ≤ 4 ∧ n ≤ l.length ∧ 0 ≤ g ∧ g < 1073741824 := by
  obtain ⟨h1, h2, h3⟩ := getI_inv hb h
  have b := V.lng_bd g
  have m := (mayB_iff g).1 h1
  have e := congrArg List.length h3
  rw [List.length_append, List.length_drop] at e
  have := nums_lng g
  exact ⟨c.toNat, by omega, by omega, by omega, m.1, m.2⟩
abbrev noNums : Ending := .returned (.tuple #[.slice none 0 0, .string { data := #[] }, errS])

set_option maxRecDepth 100000 in
set_option maxHeartbeats 4000000 in
theorem take_calls (s : ByteArray) (many : Nat) (w : World) (hF : V.Forms w) (hl : s.size ≤ maxLen) (hm : many ≤ 100) :
    Calls Tryd.prog 39 #[.string s, .int .i64 (many : Int)] w fun e w' => ((tk many (V.ints s) = none ∧ e = noNums) ∨ (∃ ns c v, tk many (V.ints s) = some (ns, c) ∧ e = .returned (.tuple #[v, .string (s.extract c s.size), .nilIface]) ∧ OwnI w' w.heap.size v ns)) ∧ Below w.heap.size w w' := by
  unfold maxLen at hl
  simp only [noNums, errS]
  go_enter Tryd.func39, Tryd.ntmps39
  go_wp2_with fail
  go_loopw [0, 7, 12] (fun u v i wr => ∃ (t : ByteArray) (A k : Nat) (ns : List Int), u = .string t ∧ i = .int .i64 (k : Int) ∧ k ≤ many ∧ OwnI wr w.heap.size v ns ∧ ns.length = k ∧ t.size ≤ 9223372036854775807 ∧ A ≤ s.size ∧ Hid (t = s.extract A s.size) ∧ Hid (tk many (V.ints s) = tkA (many - k) ns A (V.ints s)) ∧ Below w.heap.size w wr) (fun _ _ i _ => many - (intOf i).toNat)
  case atStart => exact ⟨s, 0, 0, [], rfl, rfl, Nat.zero_le _, World.ownsRow_nil _ _ _ _, rfl, hl, Nat.zero_le _, (ext_all s).symm, (show tk many (V.ints s) = tkA (many - 0) [] 0 (V.ints s) by rw [tkA_start]; rfl), Below.refl _ _⟩
  case round =>
    obtain ⟨t, A, k, ns, rfl, rfl, hk, hown, hnk, hts, hA, HT, hE, hB⟩ := hrel
    have hit : V.ints t = (V.ints s).drop A := by rw [HT.out, ints_drop s A hA]
    obtain ⟨a4, c4, rfl⟩ := hown.shape
    by_cases hlt : k < many
    · have g0 : (k : Int) < (many : Int) := by omega
      have HG := V.get_all t wr (hF.below hB) (by unfold maxLen; exact hts)
      have hmk : many - k = (many - (k + 1)) + 1 := by omega
      cases hg : V.getI (V.ints t) with
      | none =>
        rw [hg] at HG
        have HE : Hid (tk many (V.ints s) = none) := by show _ = _; rw [hE.out, hmk]; exact tkA_none (by rw [← hit]; exact hg)
        clear hE hg hit hnk hmk
        simp only [V.getV] at HG
        go_wp2_with fail
        refine HG.mono ?_
        rintro e w1 ⟨rfl, hb1⟩
        have hB1 := hB.trans (hb1.mono hB.size)
        go_wp2_with fail
        go_ret3
        exact ⟨.inl ⟨HE.out, rfl⟩, hB1⟩
      | some p =>
        obtain ⟨n, c⟩ := p
        rw [hg] at HG
        obtain ⟨cn, rfl, hc4, hcl, hd0, hd1⟩ := get_nat (bytes_ints t) hg
        rw [ints_length] at hcl
        have hst : t.size = s.size - A := by rw [HT.out, ByteArray.size_extract]; omega
        have HE : Hid (tk many (V.ints s) = tkA (many - (k + 1)) (ns ++ [n]) (A + cn) (V.ints s)) := by
          show _ = _
          rw [hE.out, hmk, tkA_some (by rw [← hit]; exact hg)]; rfl
        have HT2 : Hid (t.extract cn t.size = s.extract (A + cn) s.size) := by
          show _ = _
          rw [HT.out]; exact ext_ext s A cn hA (by omega)
        have HA2 : Hid (A + cn ≤ s.size) := by show _ ≤ _; omega
        have gc1 : (cn : Int) ≤ (t.size : Int) := by omega
        have hts2 : (t.extract cn t.size).size ≤ 9223372036854775807 := by rw [ByteArray.size_extract]; omega
        have hn2 : ns.length + 1 ≤ 100 := by omega
        have HNK : Hid (ns.length = k) := hnk
        clear hE hg hit hmk hst hnk
        simp only [V.getV] at HG
        go_wp2_with fail
        refine HG.mono ?_
        rintro e w1 ⟨rfl, hb1⟩
        have hB1 := hB.trans (hb1.mono hB.size)
        have hs1 := hB1.size
        have own1 := (hown.below hb1).alloc (.cells #[.int .i64 n] 3)
        have hlo := (hown.below hb1).lt
        clear HG
        go_wp2_with (at_builtin; refine append_ints rfl (.tmp 23) (.tmp 25) rfl w.heap.size _ ns rfl own1 ⟨w1.heap.size, 0, none⟩ 1 1 [n] rfl rfl (cells_one w1 n) (by simp at hn2 ⊢; omega) (by simp; omega) ?_; intro v2 w2 hown2 hg2)
        have hB2 : Below w.heap.size w w2 := (hB1.alloc hs1 _).grown hg2 (by simp; omega) (fun j e => (hlo j e).1)
        exact ⟨⟨_, A + cn, k + 1, ns ++ [n], rfl, by go_num, by omega, hown2, by simp [HNK.out], hts2, HA2.out, HT2, HE, hB2⟩, by simp [intOf]; omega⟩
    · obtain rfl : k = many := by omega
      have HE : Hid (tk k (V.ints s) = some (ns, A)) := by show _ = _; rw [hE.out, Nat.sub_self, tkA_zero]
      have HO : Hid (OwnI wr w.heap.size (.slice a4 ns.length c4) ns) := hown
      clear hE hit hown
      go_wp2_with fail
      go_ret3
      exact ⟨.inr ⟨ns, A, _, HE.out, by rw [← HT.out]; rfl, HO.out⟩, hB⟩
end Go.Proofs.YtoabfilliiopmaaDoor
