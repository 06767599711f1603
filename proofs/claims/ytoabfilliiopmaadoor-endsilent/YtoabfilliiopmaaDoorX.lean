/- Parse at every string; the walk of the law AckOne. -/
import Derived.Test.YtoabfilliiopmaaDoorT
namespace Go.Proofs.YtoabfilliiopmaaDoor
open Go.RowKit Go.Lib Go.Sort
set_option linter.unusedVariables false
set_option linter.unusedSimpArgs false

theorem parse_calls (s : ByteArray) (w : World) (hF : V.Forms w) (hl : s.size ≤ maxLen) :
    Calls Tryd.prog 45 #[.string s] w fun e w' => ((parse (V.ints s) = none ∧ e = .returned (.tuple #[.slice none 0 0, errS])) ∨ (∃ zs v, parse (V.ints s) = some zs ∧ e = .returned (.tuple #[v, .nilIface]) ∧ Row w' v zs ∧ Fits v)) ∧ Below w.heap.size w w' := by
  cases hr : rd 25 (V.ints s) with
  | none =>
    refine (parse_rd s w hF hl hr).mono fun e w' ⟨he, hb⟩ => ⟨.inl ⟨?_, he⟩, hb⟩
    simp [parse, hr]
  | some ns =>
    obtain ⟨_, hm, hlen⟩ := rd_inv 25 _ _ (bytes_ints s) hr
    have hp : parse (V.ints s) = parseN ns := by simp [parse, hr]
    rw [hp]
    match ns, hr, hm, hlen with
    | [], hr, _, _ => exact (parse_few s w hF hl _ hr (by simp)).mono fun e w' ⟨he, hb⟩ => ⟨.inl ⟨rfl, he⟩, hb⟩
    | [_], hr, _, _ => exact (parse_few s w hF hl _ hr (by simp)).mono fun e w' ⟨he, hb⟩ => ⟨.inl ⟨rfl, he⟩, hb⟩
    | [_, _], hr, _, _ => exact (parse_few s w hF hl _ hr (by simp)).mono fun e w' ⟨he, hb⟩ => ⟨.inl ⟨rfl, he⟩, hb⟩
    | hi :: m :: d :: rest, hr, hm, hlen =>
      by_cases hc : (rest.length : Int) = 2 * m
      · refine (parse_go s w hF hl hi m d rest hr hm hc).mono ?_
        rintro e w' ⟨⟨h1, he⟩ | ⟨h1, v, he, hR, hf⟩, hb⟩
        · exact ⟨.inl ⟨by simp only [parseN]; rw [if_neg (by omega)], he⟩, hb⟩
        · exact ⟨.inr ⟨_, v, by simp only [parseN]; rw [if_pos ⟨hc, h1⟩], he, hR, hf⟩, hb⟩
      · refine (parse_odd s w hF hl hi m d rest hr (hm m (by simp)) hc).mono fun e w' ⟨he, hb⟩ => ⟨.inl ⟨?_, he⟩, hb⟩
        simp only [parseN]; rw [if_neg (by omega)]
theorem parse_no (s : ByteArray) (w : World) (hF : V.Forms w) (hl : s.size ≤ maxLen) (h : parse (V.ints s) = none) :
    Calls Tryd.prog 45 #[.string s] w fun e w' => e = .returned (.tuple #[.slice none 0 0, .iface 53 (.int .i64 2)]) ∧ Below w.heap.size w w' := by
  refine (parse_calls s w hF hl).mono ?_
  rintro e w' ⟨⟨_, he⟩ | ⟨zs, v, h1, _⟩, hb⟩
  · exact ⟨he, hb⟩
  · rw [h] at h1; cases h1
theorem parse_yes (s : ByteArray) (w : World) (hF : V.Forms w) (hl : s.size ≤ maxLen) (zs : List R) (h : parse (V.ints s) = some zs) :
    Calls Tryd.prog 45 #[.string s] w fun e w' => ∃ v, e = .returned (.tuple #[v, .nilIface]) ∧ Row w' v zs ∧ Fits v ∧ Below w.heap.size w w' := by
  refine (parse_calls s w hF hl).mono ?_
  rintro e w' ⟨⟨h1, _⟩ | ⟨ys, v, h1, he, hR, hf⟩, hb⟩
  · rw [h] at h1; cases h1
  · rw [h] at h1; cases h1; exact ⟨v, he, hR, hf, hb⟩
theorem ints_str {l : List Int} (h : Bytes l) : V.ints (strOfNums l) = l := V.ints_nums l h
theorem parse_enc {zs : List R} (h : Good zs) (h0 : zs ≠ []) : parse (V.ints (strOfNums (enc zs))) = some zs := by
  rw [ints_str (bytes_enc h)]; exact (parse_iff (bytes_enc h) zs).2 ⟨h0, h, rfl⟩
theorem enc_size {zs : List R} (h : Good zs) (h0 : zs ≠ []) : (strOfNums (enc zs)).size ≤ 97 := by
  rw [strOfNums_size]
  have := enc_length h h0
  have := h.1
  omega
theorem row1 {w : World} {v : Value} {r : R} (h : Row w v [r]) : ∃ b off c, v = .slice (some ⟨b, off, none⟩) 1 c ∧ b < w.heap.size ∧ w.cell? ⟨b, off, none⟩ = some (.int .i64 r.1) ∧ w.cell? ⟨b, off + 1, none⟩ = some (.int .i64 r.2) := by
  obtain ⟨ao, c, rfl, _, _, h⟩ := h
  rcases h with h | ⟨b, off, rfl, hb, hc⟩
  · cases h
  · have := hc 0 (by simp)
    simp only [Nat.zero_mul, Nat.add_zero] at this
    exact ⟨b, off, c, rfl, hb, this.1, this.2⟩
theorem enc_one (n : Int) : strOfNums (V.nums n) ++ { data := #[0, 0] } = strOfNums (enc [(n, n)]) := by
  apply ByteArray.ext
  simp [strOfNums, enc, numsOf, tailN, V.nums]

end Go.Proofs.YtoabfilliiopmaaDoor
