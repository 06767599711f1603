/- What the document's Ack answers. -/
import Derived.Test.YtoabfilliiopmaaDoorX
import Derived.Test.YtoabfilliiopmaaDoorGV
namespace Go.Proofs.YtoabfilliiopmaaDoor
open Go.RowKit Go.Lib Go.Sort
set_option linter.unusedVariables false
set_option linter.unusedSimpArgs false

theorem str_app (a b : List Int) : strOfNums (a ++ b) = strOfNums a ++ strOfNums b := by
  apply ByteArray.ext
  simp [strOfNums]
def parS (r : R) (rs : List R) (k : Nat) : ByteArray := strOfNums ((part r rs k).flatMap V.nums)
theorem parS_zero (r : R) (rs : List R) : strOfNums (V.nums r.2) ++ strOfNums (V.nums (rs.length : Int)) ++ strOfNums (V.nums (r.2 - r.1)) = parS r rs 0 := by
  simp [parS, part_zero, str_app, ByteArray.append_assoc]
theorem lst_at (r : R) (rs : List R) (k : Nat) (h : k ≤ rs.length) : lst r.1 (rs.take k) = (at' (r :: rs) k).1 := by
  cases k with
  | zero => simp [lst, at']
  | succ k =>
    rw [take_at (by omega), lst_snoc]
    simp [at']
theorem parS_succ (r : R) (rs : List R) (k : Nat) (h : k < rs.length) : parS r rs k ++ strOfNums (V.nums ((at' (r :: rs) k).1 - (at' (r :: rs) (k + 1)).2 - 2)) ++ strOfNums (V.nums ((at' (r :: rs) (k + 1)).2 - (at' (r :: rs) (k + 1)).1)) = parS r rs (k + 1) := by
  have e : at' (r :: rs) (k + 1) = at' rs k := by simp [at']
  unfold parS
  rw [part_succ r rs k h, lst_at r rs k (by omega), e, List.flatMap_append, str_app]
  simp only [List.flatMap_cons, List.flatMap_nil, List.append_nil, str_app, ByteArray.append_assoc]
theorem norm_take : ∀ (zs : List R) (k : Nat), Norm zs → Norm (zs.take k)
  | [], k, h => by simp [Norm]
  | r :: rs, 0, h => trivial
  | r :: rs, k + 1, h => ⟨h.1, fun s hs => h.2.1 s (List.mem_of_mem_take hs), norm_take rs k h.2.2⟩
theorem mays_part {r : R} {rs : List R} (h : Good (r :: rs)) (k : Nat) : Mays (part r rs k) := by
  obtain ⟨h1, h2, h3⟩ := h
  have b := h2 r (by simp)
  have d := h3.1
  simp only [List.length_cons] at h1
  intro z hz
  simp only [part, List.mem_cons] at hz
  rcases hz with rfl | rfl | rfl | hz
  · omega
  · omega
  · omega
  · exact mays_tail (rs.take k) r.1 (by omega) (fun s hs => h2 s (by simp [List.mem_of_mem_take hs])) (fun s hs => h3.2.1 s (List.mem_of_mem_take hs)) (norm_take rs k h3.2.2) z hz
theorem parS_size {r : R} {rs : List R} (h : Good (r :: rs)) (k : Nat) (hk : k ≤ rs.length) : (parS r rs k).size ≤ 100 := by
  unfold parS
  rw [strOfNums_size]
  have := flat_le (part r rs k)
  rw [part_length r rs k hk] at this
  have := h.1
  simp only [List.length_cons] at this
  omega
theorem nums4 (n : Int) : (strOfNums (V.nums n)).size ≤ 4 := by rw [strOfNums_size]; exact V.nums_length_le n

end Go.Proofs.YtoabfilliiopmaaDoor
