/- Pieces of one text: what came is of it, and what was taken is its beginning. -/
import Derived.Test.YtipmaphgkfegmaaDoorE
namespace Go.Proofs.YtipmaphgkfegmaaDoor
open Go.RowKit Go.Lib Go.Sort
set_option linter.unusedVariables false
set_option linter.unusedSimpArgs false

/-- What came is of the text t, and what was taken came. -/
structure Good (t : ByteArray) (s : St) : Prop where
  c : ∀ j, s.cm j = true → j < t.size ∧ s.byt j = bat t j
  k : ∀ j, j < s.tk → s.cm j = true
theorem Good.tk {t : ByteArray} {s : St} (g : Good t s) : s.tk ≤ t.size := by
  by_cases h : s.tk = 0
  · omega
  · have := (g.c _ (g.k (s.tk - 1) (by omega))).1
    omega
theorem Good.new (t : ByteArray) : Good t newS := ⟨fun j h => by simp [newS] at h, fun j h => by simp [newS] at h⟩
theorem bat_extract (t : ByteArray) (f u i : Nat) (h : u ≤ t.size) (hi : i < u - f) : bat (t.extract f u) i = bat t (f + i) := by
  have h' : u ≤ t.data.size := h
  have e : (t.extract f u).data[i]? = t.data[f + i]? := by
    rw [ByteArray.data_extract, Array.getElem?_extract]
    simp
    omega
  rw [bat, bat, e]
theorem size_extract' (t : ByteArray) (f u : Nat) (h : u ≤ t.size) : (t.extract f u).size = u - f := by
  rw [ByteArray.size_extract]; omega
theorem Good.clash {t : ByteArray} {s : St} (g : Good t s) {f u : Nat} (h : u ≤ t.size) : clB s f (t.extract f u) = false := by
  refine clB_no fun i hi => ?_
  rw [size_extract' _ _ _ h] at hi
  unfold cl
  cases hc : s.cm (f + i) with
  | false => rfl
  | true => rw [(g.c _ hc).2, bat_extract _ _ _ _ h hi]; simp
theorem Good.put {t : ByteArray} {s : St} (g : Good t s) {f u : Nat} (h0 : f ≤ u) (h : u ≤ t.size) : Good t (upS s f (t.extract f u) (t.extract f u).size) := by
  refine ⟨fun j hj => ?_, fun j hj => ?_⟩
  · simp only [upS, size_extract' _ _ _ h] at hj ⊢
    by_cases c : f ≤ j ∧ j < f + (u - f)
    · rw [if_pos c]
      refine ⟨by omega, ?_⟩
      rw [bat_extract _ _ _ _ h (by omega)]
      congr 1; omega
    · rw [if_neg c]
      refine g.c j ?_
      simpa [c] using hj
  · have := g.k j hj
    simp [upS, this]
theorem putF_good {t : ByteArray} {s : St} (g : Good t s) {f u : Nat} (h0 : f ≤ u) (h : u ≤ t.size) (ht : t.size ≤ 60) : putF s (f : Int) (t.extract f u) = 0 :=
  putF_yes (decide_eq_true ⟨by omega, by omega⟩) (by rw [size_extract' _ _ _ h]; omega) (g.clash h)
theorem takeL_good {t : ByteArray} {s : St} (g : Good t s) (n : Int) : strOfNums (takeL s n) = t.extract s.tk (s.tk + takeN s n) ∧ s.tk + takeN s n ≤ t.size := by
  have came : ∀ i, i < takeN s n → s.cm (s.tk + i) = true := fun i hi => run_came _ _ _ _ (Nat.lt_of_lt_of_le hi (Nat.min_le_right _ _))
  have hle : s.tk + takeN s n ≤ t.size := by
    by_cases e : takeN s n = 0
    · have := g.tk; omega
    · have := (g.c _ (came (takeN s n - 1) (by omega))).1
      omega
  refine ⟨?_, hle⟩
  have hle' : s.tk + takeN s n ≤ t.data.size := hle
  apply ByteArray.ext
  rw [ByteArray.data_extract]
  apply Array.ext
  · simp [strOfNums, takeL]; omega
  · intro i h1 h2
    have hi : i < takeN s n := by simpa [strOfNums, takeL] using h1
    have hb := (g.c _ (came i hi)).2
    simp only [strOfNums, takeL, List.getElem_toArray, List.getElem_map, List.getElem_range, Array.getElem_extract]
    rw [hb, bat, Array.getElem?_eq_getElem (show s.tk + i < t.data.size by omega)]
    simp
theorem Good.take {t : ByteArray} {s : St} (g : Good t s) (n : Int) : Good t (takeS s n) := by
  refine ⟨g.c, fun j hj => ?_⟩
  have hj : j < s.tk + takeN s n := hj
  by_cases c : j < s.tk
  · exact g.k j c
  · have := run_came s.cm (60 - s.tk) s.tk (j - s.tk) (Nat.lt_of_lt_of_le (show j - s.tk < takeN s n by omega) (Nat.min_le_right _ _))
    rwa [show s.tk + (j - s.tk) = j by omega] at this
theorem extract_join (t : ByteArray) {a b : Nat} (h : a ≤ b) (hb : b ≤ t.size) : t.extract 0 a ++ t.extract a b = t.extract 0 b := by
  have hb' : b ≤ t.data.size := hb
  apply ByteArray.ext
  rw [ByteArray.data_append, ByteArray.data_extract, ByteArray.data_extract, ByteArray.data_extract, Array.extract_append_extract, Nat.max_eq_right h]
  simp
section
variable {w wr wx : World} {sb : Nat} {s : St} {t : ByteArray}
/-- A piece of the text: it is put, and what came ahead is there as it was. -/
theorem put_good (h : One w wr sb s) (g : Good t s) (ht : t.size ≤ 60) (f u : Nat) (h0 : f ≤ u) (h1 : u ≤ t.size) : Calls Tryd.prog 6 #[.pointer (some ⟨sb, 0, none⟩), .agg #[.int .i64 (f : Int), .string (t.extract f u)]] wr fun e w' => e = .returned .nilIface ∧ ∃ s', One w w' sb s' ∧ Good t s' ∧ s'.tk = s.tk ∧ Hid (∀ j, s.cm j = true ∨ (f ≤ j ∧ j < u) → s'.cm j = true) := by
  refine (put_one h f (t.extract f u) (by rw [size_extract' _ _ _ h1]; omega)).mono fun e w' ⟨h2, h3⟩ => ?_
  have e0 := putF_good g h0 h1 ht
  rw [e0, errV_0] at h2
  rw [putS_yes e0] at h3
  simp only [Int.toNat_natCast] at h3
  refine ⟨h2, _, h3, g.put h0 h1, rfl, (show ∀ j, _ from fun j hj => ?_)⟩
  simp only [upS, size_extract' _ _ _ h1, Bool.or_eq_true, decide_eq_true_eq]
  rcases hj with hj | hj
  · exact .inr hj
  · exact .inl (by omega)
/-- What is taken goes on where the last was. -/
theorem take_good (h : One w wr sb s) (g : Good t s) (n : Int) (hn : 0 ≤ n) : Calls Tryd.prog 7 #[.pointer (some ⟨sb, 0, none⟩), .int .i64 n] wr fun e w' => ∃ k, e = .returned (.tuple #[.string (t.extract s.tk (s.tk + k)), .nilIface]) ∧ Hid (k = takeN s n ∧ s.tk + k ≤ t.size) ∧ ∃ s', One w w' sb s' ∧ Good t s' ∧ s'.tk = s.tk + k ∧ Hid (s'.cm = s.cm) := by
  refine (take_one h n hn).mono fun e w' ⟨h2, h3⟩ => ?_
  obtain ⟨e0, e1⟩ := takeL_good g n
  rw [e0] at h2
  exact ⟨takeN s n, h2, ⟨rfl, e1⟩, _, h3, g.take n, rfl, rfl⟩
end
theorem rdy_end {t : ByteArray} {s : St} (g : Good t s) (ht : t.size ≤ 60) (hc : ∀ j, j < t.size → s.cm j = true) : rdy s = t.size - s.tk := by
  have h1 := g.tk
  unfold rdy
  by_cases e : t.size = 60
  · rw [run_all _ _ _ fun i hi => hc _ (by omega)]; omega
  · refine run_stop _ _ _ _ (fun i hi => hc _ (by omega)) (by omega) ?_
    cases c : s.cm (s.tk + (t.size - s.tk)) with
    | false => rfl
    | true => have := (g.c _ c).1; omega
theorem gaps_end {t : ByteArray} {s : St} (g : Good t s) (hc : ∀ j, j < t.size → s.cm j = true) : gaps s = [] := by
  have h : ∀ j, j < 60 → s.cm j = decide (0 ≤ j ∧ j < 0 + t.size) := fun j _ => by
    cases c : s.cm j with
    | true => have := (g.c _ c).1; simp; omega
    | false =>
      refine (decide_eq_false fun h => ?_).symm
      rw [hc j (by omega)] at c
      cases c
  rw [gaps, gp_one h 60 (by omega)]
  simp
/-- All came, and is taken. -/
theorem take_end {t : ByteArray} {s : St} (g : Good t s) (ht : t.size ≤ 60) (hc : ∀ j, j < t.size → s.cm j = true) : s.tk + takeN s 60 = t.size := by
  have := rdy_end g ht hc
  have := g.tk
  unfold takeN
  rw [rdy_end g ht hc]
  omega
end Go.Proofs.YtipmaphgkfegmaaDoor
