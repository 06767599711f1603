/- Parse at every string; the walk of the law AckOne. -/
import Derived.Test.YtdemmpakiopgjaaDoorT
namespace Go.Proofs.YtdemmpakiopgjaaDoor
open Go.RowKit Go.Lib Go.Sort
set_option linter.unusedVariables false
set_option linter.unusedSimpArgs false

theorem parse_calls (s : ByteArray) (w : World) (hF : V.Forms w) (hl : s.size ≤ maxLen) :
    Calls Tryd.prog 11 #[.string s] w fun e w' => ((parse (V.ints s) = none ∧ e = .returned (.tuple #[.slice none 0 0, errS])) ∨ (∃ zs v, parse (V.ints s) = some zs ∧ e = .returned (.tuple #[v, .nilIface]) ∧ Row w' v zs ∧ Fits v)) ∧ Below w.heap.size w w' := by
  cases hr : rd 25 (V.ints s) with
  | none =>
    refine (parse_rd s w hF hl hr).mono fun e w' ⟨he, hb⟩ => ⟨.inl ⟨?_, he⟩, hb⟩
    simp [parse, hr]
  | some ns =>
    obtain ⟨_, hm, hlen⟩ := rd_inv 25 _ _ (bytes_ints s) hr
    have hp : parse (V.ints s) = parseN ns := by simp [parse, hr]
    rw [hp]
    match ns, hr, hm, hlen with
    | [], hr, _, _ => exact (parse_few s w hF hl _ hr (by simp)).mono fun e w' ⟨he, hb⟩ => ⟨.inl ⟨rfl, he⟩, hb⟩
    | [_], hr, _, _ => exact (parse_few s w hF hl _ hr (by simp)).mono fun e w' ⟨he, hb⟩ => ⟨.inl ⟨rfl, he⟩, hb⟩
    | [_, _], hr, _, _ => exact (parse_few s w hF hl _ hr (by simp)).mono fun e w' ⟨he, hb⟩ => ⟨.inl ⟨rfl, he⟩, hb⟩
    | hi :: m :: d :: rest, hr, hm, hlen =>
      by_cases hc : (rest.length : Int) = 2 * m
      · refine (parse_go s w hF hl hi m d rest hr hm hc).mono ?_
        rintro e w' ⟨⟨h1, he⟩ | ⟨h1, v, he, hR, hf⟩, hb⟩
        · exact ⟨.inl ⟨by simp only [parseN]; rw [if_neg (by omega)], he⟩, hb⟩
        · exact ⟨.inr ⟨_, v, by simp only [parseN]; rw [if_pos ⟨hc, h1⟩], he, hR, hf⟩, hb⟩
      · refine (parse_odd s w hF hl hi m d rest hr (hm m (by simp)) hc).mono fun e w' ⟨he, hb⟩ => ⟨.inl ⟨?_, he⟩, hb⟩
        simp only [parseN]; rw [if_neg (by omega)]
theorem parse_no (s : ByteArray) (w : World) (hF : V.Forms w) (hl : s.size ≤ maxLen) (h : parse (V.ints s) = none) :
    Calls Tryd.prog 11 #[.string s] w fun e w' => e = .returned (.tuple #[.slice none 0 0, .iface 42 (.int .i64 2)]) ∧ Below w.heap.size w w' := by
  refine (parse_calls s w hF hl).mono ?_
  rintro e w' ⟨⟨_, he⟩ | ⟨zs, v, h1, _⟩, hb⟩
  · exact ⟨he, hb⟩
  · rw [h] at h1; cases h1
theorem parse_yes (s : ByteArray) (w : World) (hF : V.Forms w) (hl : s.size ≤ maxLen) (zs : List R) (h : parse (V.ints s) = some zs) :
    Calls Tryd.prog 11 #[.string s] w fun e w' => ∃ v, e = .returned (.tuple #[v, .nilIface]) ∧ Row w' v zs ∧ Fits v ∧ Below w.heap.size w w' := by
  refine (parse_calls s w hF hl).mono ?_
  rintro e w' ⟨⟨h1, _⟩ | ⟨ys, v, h1, he, hR, hf⟩, hb⟩
  · rw [h] at h1; cases h1
  · rw [h] at h1; cases h1; exact ⟨v, he, hR, hf, hb⟩
theorem ints_str {l : List Int} (h : Bytes l) : V.ints (strOfNums l) = l := V.ints_nums l h
theorem parse_enc {zs : List R} (h : Good zs) (h0 : zs ≠ []) : parse (V.ints (strOfNums (enc zs))) = some zs := by
  rw [ints_str (bytes_enc h)]; exact (parse_iff (bytes_enc h) zs).2 ⟨h0, h, rfl⟩
theorem enc_size {zs : List R} (h : Good zs) (h0 : zs ≠ []) : (strOfNums (enc zs)).size ≤ 97 := by
  rw [strOfNums_size]
  have := enc_length h h0
  have := h.1
  omega
theorem row1 {w : World} {v : Value} {r : R} (h : Row w v [r]) : ∃ b off c, v = .slice (some ⟨b, off, none⟩) 1 c ∧ b < w.heap.size ∧ w.cell? ⟨b, off, none⟩ = some (.int .i64 r.1) ∧ w.cell? ⟨b, off + 1, none⟩ = some (.int .i64 r.2) := by
  obtain ⟨ao, c, rfl, _, _, h⟩ := h
  rcases h with h | ⟨b, off, rfl, hb, hc⟩
  · cases h
  · have := hc 0 (by simp)
    simp only [Nat.zero_mul, Nat.add_zero] at this
    exact ⟨b, off, c, rfl, hb, this.1, this.2⟩
theorem enc_one (n : Int) : strOfNums (V.nums n) ++ { data := #[0, 0] } = strOfNums (enc [(n, n)]) := by
  apply ByteArray.ext
  simp [strOfNums, enc, numsOf, tailN, V.nums]

set_option maxRecDepth 100000 in
set_option maxHeartbeats 2000000 in
theorem one_no (n : Int) (w : World) (hF : V.Forms w) (h : isN n = false) :
    Calls Tryd.prog 5 #[.int .i64 n] w fun e w' => e = .returned (.bool true) ∧ Below w.heap.size w w' := by
  have hch : chk [(n, n)] = 1 := by simp [chk, chkFrom, h]
  have HP := print_err (.slice (some ⟨w.heap.size, 0, none⟩) 1 1) [(n, n)] _ (row_new w n n) (by rw [hch]; decide)
  rw [hch, errV1] at HP
  have bel := (Below.refl w.heap.size w).alloc (Nat.le_refl _) (.cells #[.int .i64 n, .int .i64 n] 37)
  have hn := (isN_no n).1 h
  clear h hch
  go_enter Tryd.func5, Tryd.ntmps5
  go_wp2_with fail
  refine HP.mono ?_
  rintro e w1 ⟨rfl, hb1⟩
  have hB := bel.trans (hb1.mono bel.size)
  by_cases h0 : n < 0
  · go_wp2_with fail
    go_ret
    exact ⟨rfl, hB⟩
  · have h1 : 1073741823 < n := by omega
    go_wp2_with fail
    go_ret
    exact ⟨by simp [h0, h1], hB⟩

set_option maxRecDepth 100000 in
set_option maxHeartbeats 2000000 in
theorem one_yes (n : Int) (w : World) (hF : V.Forms w) (h : isN n = true) :
    Calls Tryd.prog 5 #[.int .i64 n] w fun e w' => e = .returned (.bool true) ∧ Below w.heap.size w w' := by
  have hn := (isN_iff n).1 h
  have hg : Good [(n, n)] := ⟨by simp, fun r hr => by simp at hr; subst hr; exact hn, by simp [Norm]⟩
  have bel := (Below.refl w.heap.size w).alloc (Nat.le_refl _) (.cells #[.int .i64 n, .int .i64 n] 37)
  have HP := print_ok (.slice (some ⟨w.heap.size, 0, none⟩) 1 1) [(n, n)] _ (hF.below bel) (row_new w n n) (fun a l c e => by cases e; exact Nat.le_refl _) hg (by simp)
  have hpe := parse_enc hg (by simp)
  have hsz : (strOfNums (enc [(n, n)])).size ≤ maxLen := by have := enc_size hg (by simp); unfold maxLen; omega
  have hE := enc_one n
  have hm : V.mayB n = true := (mayB_iff n).2 (by omega)
  go_enter Tryd.func5, Tryd.ntmps5
  go_wp2_with fail
  refine HP.mono ?_
  rintro e w1 ⟨rfl, hb1⟩
  have hB := bel.trans (hb1.mono bel.size)
  have HPY := fun W hW => parse_yes (strOfNums (enc [(n, n)])) W hW hsz _ hpe
  have HE : Hid (strOfNums (V.nums n) ++ { data := #[0, 0] } = strOfNums (enc [(n, n)])) := hE
  have hF1 := hF.below hB
  clear hE hpe hg HP h
  generalize strOfNums (enc [(n, n)]) = se at *
  go_wp2_with fail
  refine (V.put_yes n _ hF1 hm).mono ?_
  rintro e w2 ⟨rfl, hb2⟩
  have hF2 := hF1.below hb2
  have hB2 := hB.trans (hb2.mono hB.size)
  have hE' := HE.out
  clear HE
  have hs4 : (strOfNums (V.nums n)).size ≤ 4 := by rw [strOfNums_size]; exact V.nums_length_le n
  generalize strOfNums (V.nums n) = sx at *
  have hs5 : sx.size + 2 ≤ 9223372036854775807 := by omega
  subst hE'
  go_wp2_with fail
  refine (HPY _ hF2).mono ?_
  rintro e w3 ⟨v, rfl, hR, _, hb3⟩
  have hB3 := hB2.trans (hb3.mono hB2.size)
  obtain ⟨b, off, c, rfl, hbl, c0, c1⟩ := row1 hR
  clear HPY hR
  go_wp2_with fail
  go_ret
  exact ⟨by simp, hB3⟩
theorem one_law (n : Int) {w : World} (hF : V.Forms w) : Calls Tryd.prog 5 #[.int .i64 n] w fun e w' => e = .returned (.bool true) ∧ Below w.heap.size w w' := by
  cases h : isN n with
  | true => exact one_yes n w hF h
  | false => exact one_no n w hF h
end Go.Proofs.YtdemmpakiopgjaaDoor
