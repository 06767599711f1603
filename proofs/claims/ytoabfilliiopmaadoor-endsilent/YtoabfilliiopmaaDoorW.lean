/- What numbers answers: all numbers that bytes are, to the last byte. -/
import Derived.Test.YtoabfilliiopmaaDoorL
namespace Go.Proofs.YtoabfilliiopmaaDoor
open Go.RowKit Go.Lib Go.Sort
set_option linter.unusedVariables false
set_option linter.unusedSimpArgs false

def strLen : Value → Nat
  | .string s => s.size
  | _ => 0
theorem strLen_eq (s : ByteArray) : strLen (.string s) = s.size := rfl
theorem ints_length (s : ByteArray) : (V.ints s).length = s.size := by
  simp [V.ints]
theorem ints_drop (s : ByteArray) (k : Nat) (hk : k ≤ s.size) : V.ints (s.extract k s.size) = (V.ints s).drop k := by
  obtain ⟨⟨l⟩⟩ := s
  have e : (⟨⟨l⟩⟩ : ByteArray).size = l.length := rfl
  rw [e] at hk ⊢
  simp only [V.ints, ByteArray.extract, ByteArray.copySlice, ByteArray.empty]
  simp [List.map_drop]
  rw [List.take_of_length_le (by simp)]
theorem ints_inj {s t : ByteArray} (h : V.ints s = V.ints t) : s = t := by
  rw [← V.str_ints s, ← V.str_ints t]; exact congrArg _ h
theorem OwnI.shape {w : World} {base : Nat} {v : Value} {xs : List Int} (h : OwnI w base v xs) : ∃ a c, v = .slice a xs.length c := by
  rcases h.2 with ⟨rfl, h1⟩ | ⟨g, cap, cur, rfl, _⟩
  · exact ⟨none, 0, by rw [h1]⟩
  · exact ⟨_, cap, rfl⟩
def errS : Value := .iface 53 (.int .i64 2)

set_option maxRecDepth 100000 in
set_option maxHeartbeats 2000000 in
theorem numbers_calls (s : ByteArray) (w : World) (hF : V.Forms w) (hl : s.size ≤ maxLen) :
    Calls Tryd.prog 55 #[.string s] w fun e w' => ((rd 25 (V.ints s) = none ∧ e = .returned (.tuple #[.slice none 0 0, errS])) ∨ (∃ ns v, rd 25 (V.ints s) = some ns ∧ e = .returned (.tuple #[v, .nilIface]) ∧ OwnI w' w.heap.size v ns)) ∧ Below w.heap.size w w' := by
  unfold maxLen at hl
  go_enter Tryd.func55, Tryd.ntmps55
  go_wp2_with fail
  go_loopw [0, 4] (fun u v wr => ∃ (t : ByteArray) (ns : List Int), u = .string t ∧ OwnI wr w.heap.size v ns ∧ Hid (rd 25 (V.ints s) = (rd (25 - ns.length) (V.ints t)).map (ns ++ ·)) ∧ ns.length ≤ 25 ∧ t.size ≤ 9223372036854775807 ∧ Below w.heap.size w wr) (fun u _ _ => strLen u)
  case atStart => exact ⟨s, [], rfl, World.ownsRow_nil _ _ _ _, (show rd 25 (V.ints s) = (rd 25 (V.ints s)).map ([] ++ ·) by simp), by simp, hl, Below.refl _ _⟩
  case round =>
    obtain ⟨t, ns, rfl, hown, hE, hn, hts, hB⟩ := hrel
    by_cases h0 : t.size = 0
    · have e1 : V.ints t = [] := List.eq_nil_of_length_eq_zero (by rw [ints_length]; exact h0)
      have HE : Hid (rd 25 (V.ints s) = some ns) := by show _ = _; rw [hE.out, e1, rd_nil]; simp
      have g0 : ¬ (0 : Int) < (t.size : Int) := by omega
      obtain ⟨a4, c4, rfl⟩ := hown.shape
      clear hE e1
      go_wp2_with fail
      go_ret2
      exact ⟨.inr ⟨ns, HE.out, _, rfl, hown⟩, hB⟩
    · have g0 : (0 : Int) < (t.size : Int) := by omega
      have hne : V.ints t ≠ [] := fun e => h0 (by rw [← ints_length, e]; rfl)
      obtain ⟨a4, c4, rfl⟩ := hown.shape
      by_cases h25 : ns.length = 25
      · have HE : Hid (rd 25 (V.ints s) = none) := by
          show _ = _
          rw [hE.out, h25]
          cases he : V.ints t with
          | nil => exact absurd he hne
          | cons b l => rfl
        have g25 : ((ns.length : Nat) : Int) = 25 := by omega
        clear hE hne
        go_wp2_with fail
        go_ret2
        exact ⟨.inl ⟨HE.out, rfl⟩, hB⟩
      · have g25 : (((ns.length : Nat) : Int) == 25) = false := by simp; omega
        have HG := V.get_all t wr (hF.below hB) (by unfold maxLen; exact hts)
        cases hg : V.getI (V.ints t) with
        | none =>
          rw [hg] at HG
          have HE : Hid (rd 25 (V.ints s) = none) := by show _ = _; rw [hE.out, rd_none hne hg]; rfl
          clear hE hne hg
          simp only [V.getV] at HG
          go_wp2_with fail
          refine HG.mono ?_
          rintro e w1 ⟨rfl, hb1⟩
          have hB1 := hB.trans (hb1.mono hB.size)
          go_wp2_with fail
          go_ret2
          exact ⟨.inl ⟨HE.out, rfl⟩, hB1⟩
        | some p =>
          obtain ⟨n, c⟩ := p
          rw [hg] at HG
          obtain ⟨hm, hc, he⟩ := getI_inv (bytes_ints t) hg
          have hcl := V.lng_bd n
          have hle : c.toNat ≤ t.size := by
            have := congrArg List.length he
            rw [List.length_append, List.length_drop, ints_length] at this
            have := nums_lng n
            omega
          have hk : 25 - ns.length = (25 - (ns ++ [n]).length) + 1 := by simp; omega
          have HE : Hid (rd 25 (V.ints s) = (rd (25 - (ns ++ [n]).length) (V.ints (t.extract c.toNat t.size))).map ((ns ++ [n]) ++ ·)) := by
            show _ = _
            rw [hE.out, hk, rd_some hne hg, ints_drop t _ hle]
            cases rd (25 - (ns ++ [n]).length) ((V.ints t).drop c.toNat) <;> simp
          have gc0 : 0 ≤ c := by omega
          have gc1 : c ≤ (t.size : Int) := by omega
          have hts2 : (t.extract c.toNat t.size).size = t.size - c.toNat := by simp
          have hn2 : (ns ++ [n]).length ≤ 25 := by simp; omega
          have hc1 : 1 ≤ c.toNat := by omega
          clear hE hne hg hm hc he hk
          simp only [V.getV] at HG
          go_wp2_with fail
          refine HG.mono ?_
          rintro e w1 ⟨rfl, hb1⟩
          have hB1 := hB.trans (hb1.mono hB.size)
          have hs1 := hB1.size
          have own1 := (hown.below hb1).alloc (.cells #[.int .i64 n] 3)
          have hlo := (hown.below hb1).lt
          clear HG
          go_wp2_with (at_builtin; refine append_ints rfl (.tmp 24) (.tmp 26) rfl w.heap.size _ ns rfl own1 ⟨w1.heap.size, 0, none⟩ 1 1 [n] rfl rfl (cells_one w1 n) (by simp at hn2 ⊢; omega) (by simp; omega) ?_; intro v2 w2 hown2 hg2)
          have hB2 : Below w.heap.size w w2 := (hB1.alloc hs1 _).grown hg2 (by simp; omega) (fun j e => (hlo j e).1)
          exact ⟨⟨_, ns ++ [n], rfl, hown2, HE, hn2, by rw [hts2]; omega, hB2⟩, by rw [strLen_eq, strLen_eq, hts2]; omega⟩
end Go.Proofs.YtoabfilliiopmaaDoor
