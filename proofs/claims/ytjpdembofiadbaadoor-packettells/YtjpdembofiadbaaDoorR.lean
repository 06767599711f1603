/- What the document's Ack answers. -/
import Derived.Test.YtjpdembofiadbaaDoorX
import Derived.Test.YtjpdembofiadbaaDoorVM
namespace Go.Proofs.YtjpdembofiadbaaDoor
open Go.RowKit Go.Lib Go.Sort
set_option linter.unusedVariables false
set_option linter.unusedSimpArgs false

set_option maxHeartbeats 1000000 in
theorem bytes_grow (n : Int) (w : World) (h : V.mayB n = true) : Calls Tryd.prog 29 #[.int .i64 n] w fun e w' => e = .returned (.string (strOfNums (V.nums n))) ∧ ∃ q os', w' = grow (w.drewN q) os' := by
  obtain ⟨h0, h1⟩ := V.mayB_yes h
  by_cases a : n < 64
  · have e : V.nums n = [n] := by simp [V.nums, a]
    have e1 : V.lng n = 1 := by simp [V.lng, a]
    have hc := V.conv_new [n] w #[.int .u8 n] rfl
    rw [e]
    simp only [List.length_cons, List.length_nil, Nat.reduceAdd] at hc
    go_enter Tryd.func29, Tryd.ntmps29
    go_wp2_with fail
    refine (V.long_ref n _).mono ?_
    rintro e w1 ⟨rfl, rfl⟩
    rw [e1]
    clear e1
    go_wp2_with fail
    go_ret
    exact ⟨rfl, 0, _, by rw [alloc_eq_grow]; rfl⟩
  · by_cases b : n < 16384
    · have e : V.nums n = [64 + n / 256, n % 256] := by simp [V.nums, a, b]
      have e1 : V.lng n = 2 := by simp [V.lng, a, b]
      have hc := V.conv_new [64 + n / 256, n % 256] w #[.int .u8 (64 + n / 256), .int .u8 (n % 256)] rfl
      rw [e]
      simp only [List.length_cons, List.length_nil, Nat.reduceAdd] at hc
      go_enter Tryd.func29, Tryd.ntmps29
      go_wp2_with fail
      refine (V.long_ref n _).mono ?_
      rintro e w1 ⟨rfl, rfl⟩
      rw [e1]
      clear e1
      go_wp2_with fail
      go_ret
      exact ⟨rfl, 0, _, by rw [alloc_eq_grow]; rfl⟩
    · have e : V.nums n = [128 + n / 16777216, n / 65536 % 256, n / 256 % 256, n % 256] := by simp [V.nums, a, b]
      have e1 : V.lng n = 4 := by simp [V.lng, a, b]
      have hc := V.conv_new [128 + n / 16777216, n / 65536 % 256, n / 256 % 256, n % 256] w #[.int .u8 (128 + n / 16777216), .int .u8 (n / 65536 % 256), .int .u8 (n / 256 % 256), .int .u8 (n % 256)] rfl
      rw [e]
      simp only [List.length_cons, List.length_nil, Nat.reduceAdd] at hc
      go_enter Tryd.func29, Tryd.ntmps29
      go_wp2_with fail
      refine (V.long_ref n _).mono ?_
      rintro e w1 ⟨rfl, rfl⟩
      rw [e1]
      clear e1
      go_wp2_with fail
      go_ret
      exact ⟨rfl, 0, _, by rw [alloc_eq_grow]; rfl⟩


theorem str_app (a b : List Int) : strOfNums (a ++ b) = strOfNums a ++ strOfNums b := by
  apply ByteArray.ext
  simp [strOfNums]
def parS (r : R) (rs : List R) (k : Nat) : ByteArray := strOfNums ((part r rs k).flatMap V.nums)
theorem parS_zero (r : R) (rs : List R) : strOfNums (V.nums r.2) ++ strOfNums (V.nums (rs.length : Int)) ++ strOfNums (V.nums (r.2 - r.1)) = parS r rs 0 := by
  simp [parS, part_zero, str_app, ByteArray.append_assoc]
theorem lst_at (r : R) (rs : List R) (k : Nat) (h : k ≤ rs.length) : lst r.1 (rs.take k) = (at' (r :: rs) k).1 := by
  cases k with
  | zero => simp [lst, at']
  | succ k =>
    rw [take_at (by omega), lst_snoc]
    simp [at']
theorem parS_succ (r : R) (rs : List R) (k : Nat) (h : k < rs.length) : parS r rs k ++ strOfNums (V.nums ((at' (r :: rs) k).1 - (at' (r :: rs) (k + 1)).2 - 2)) ++ strOfNums (V.nums ((at' (r :: rs) (k + 1)).2 - (at' (r :: rs) (k + 1)).1)) = parS r rs (k + 1) := by
  have e : at' (r :: rs) (k + 1) = at' rs k := by simp [at']
  unfold parS
  rw [part_succ r rs k h, lst_at r rs k (by omega), e, List.flatMap_append, str_app]
  simp only [List.flatMap_cons, List.flatMap_nil, List.append_nil, str_app, ByteArray.append_assoc]
theorem norm_take : ∀ (zs : List R) (k : Nat), Norm zs → Norm (zs.take k)
  | [], k, h => by simp [Norm]
  | r :: rs, 0, h => trivial
  | r :: rs, k + 1, h => ⟨h.1, fun s hs => h.2.1 s (List.mem_of_mem_take hs), norm_take rs k h.2.2⟩
theorem mays_part {r : R} {rs : List R} (h : Good (r :: rs)) (k : Nat) : Mays (part r rs k) := by
  obtain ⟨h1, h2, h3⟩ := h
  have b := h2 r (by simp)
  have d := h3.1
  simp only [List.length_cons] at h1
  intro z hz
  simp only [part, List.mem_cons] at hz
  rcases hz with rfl | rfl | rfl | hz
  · omega
  · omega
  · omega
  · exact mays_tail (rs.take k) r.1 (by omega) (fun s hs => h2 s (by simp [List.mem_of_mem_take hs])) (fun s hs => h3.2.1 s (List.mem_of_mem_take hs)) (norm_take rs k h3.2.2) z hz
theorem parS_size {r : R} {rs : List R} (h : Good (r :: rs)) (k : Nat) (hk : k ≤ rs.length) : (parS r rs k).size ≤ 100 := by
  unfold parS
  rw [strOfNums_size]
  have := flat_le (part r rs k)
  rw [part_length r rs k hk] at this
  have := h.1
  simp only [List.length_cons] at this
  omega
theorem nums4 (n : Int) : (strOfNums (V.nums n)).size ≤ 4 := by rw [strOfNums_size]; exact V.nums_length_le n

set_option maxRecDepth 100000 in
set_option maxHeartbeats 4000000 in
theorem rack_some (b off len cap : Nat) (r : R) (rs : List R) (w : World) (hlen : rs.length + 1 = len) (hg : Good (r :: rs)) (hb : b < w.heap.size) (hc : Cells w b off (r :: rs)) :
    Calls Tryd.prog 28 #[.slice (some ⟨b, off, none⟩) len cap] w fun e w' => e = .returned (.string (strOfNums (enc (r :: rs)))) ∧ Below w.heap.size w w' := by
  have hl12 : rs.length + 1 ≤ 12 := by have := hg.1; simp at this; omega
  have HG : Hid (Good (r :: rs)) := hg
  have HS : Hid (Cells w b off (r :: rs)) := hc
  have HL : Hid (rs.length + 1 = len) := hlen
  have hl1 : (0 : Int) < (len : Int) := by omega
  have bd0 : 0 ≤ r.1 ∧ r.1 ≤ r.2 ∧ r.2 ≤ 1073741823 := by have := hg.2.1 r (by simp); exact ⟨this.1, hg.2.2.1, this.2⟩
  have hl0 : 0 < len := by omega
  have hl' : len ≤ 12 := by omega
  have c0 := (hc 0 (by simp)).1
  have c1 := (hc 0 (by simp)).2
  rw [show at' (r :: rs) 0 = r from rfl] at c0 c1
  simp only [Nat.zero_mul, Nat.add_zero] at c0 c1
  clear hg hc hlen hl12
  have mx := mixed
  go_enter Tryd.func28, Tryd.ntmps28
  go_wp2_with fail
  refine (V.bytes_ref r.2 _ ((mayB_iff _).2 (by omega))).mono ?_
  rintro e w1 ⟨rfl, hb1⟩
  have q0 := (hb1.cell (p := ⟨b, off, none⟩) hb).trans c0
  have q1 := (hb1.cell (p := ⟨b, off + 1, none⟩) hb).trans c1
  go_wp2_with fail
  refine (V.bytes_ref ((len : Int) - 1) _ ((mayB_iff _).2 (by omega))).mono ?_
  rintro e w2 ⟨rfl, hb2⟩
  have hB2 := hb1.trans (hb2.mono hb1.size)
  have p0 := (hB2.cell (p := ⟨b, off, none⟩) hb).trans c0
  have p1 := (hB2.cell (p := ⟨b, off + 1, none⟩) hb).trans c1
  have hb2s : b < w2.heap.size := Nat.lt_of_lt_of_le hb hB2.size
  have e0 : ∀ n os, (grow (w2.drewN n) os).cell? ⟨b, off, none⟩ = some (.int .i64 r.1) := cell_grown hb2s p0
  have e1 : ∀ n os, (grow (w2.drewN n) os).cell? ⟨b, off + 1, none⟩ = some (.int .i64 r.2) := cell_grown hb2s p1
  have wr2 : IntKind.i64.wrap (r.2 - r.1) = r.2 - r.1 := by simp [IntKind.wrap, IntKind.bits, IntKind.signed]; omega
  have md : V.mayB (r.2 - r.1) = true := (mayB_iff _).2 (by omega)
  clear c0 c1 q0 q1 p0 p1
  go_wp2_with fail
  go_quiet_grown (first | (go_at_call 29; refine Calls.grown_of (bytes_grow _ _ md)))
  have hB3 : Below w.heap.size w (grow (w2.drewN nq) osq) := below_grow (below_drewN hB2 _) hB2.size _
  generalize grow (w2.drewN nq) osq = w3 at *
  clear e0 e1
  have HZ : Hid (strOfNums (V.nums r.2) ++ strOfNums (V.nums ((len : Int) - 1)) ++ strOfNums (V.nums (r.2 - r.1)) = parS r rs 0) := by
    show _ = _
    rw [← parS_zero, show ((rs.length : Nat) : Int) = (len : Int) - 1 by have := HL.out; omega]
  have s1 := nums4 r.2
  have s2 := nums4 ((len : Int) - 1)
  have s3 := nums4 (r.2 - r.1)
  generalize strOfNums (V.nums r.2) = x1 at *
  generalize strOfNums (V.nums ((len : Int) - 1)) = x2 at *
  generalize strOfNums (V.nums (r.2 - r.1)) = x3 at *
  have t12 : (x1 ++ x2).size ≤ 8 := by rw [ByteArray.size_append]; omega
  have t1 : x1.size + x2.size ≤ 9223372036854775807 := by omega
  have t2 : (x1 ++ x2).size + x3.size ≤ 9223372036854775807 := by omega
  go_wp2_with fail
  go_loopw [6, 7] (fun sv i wr => ∃ k : Nat, k + 1 ≤ len ∧ i = .int .i64 ((k : Int) + 1) ∧ sv = .string (parS r rs k) ∧ Below w.heap.size w wr) (fun _ i _ => len - (intOf i).toNat)
  case atStart => exact ⟨0, by omega, by simp, by rw [HZ.out], hB3⟩
  case round =>
    obtain ⟨k, hk, rfl, rfl, hB⟩ := hrel
    by_cases hlt : k + 1 < len
    · have hkr : k < rs.length := by have := HL.out; omega
      have g1 : (k : Int) + 1 < (len : Int) := by omega
      have gk : (k : Int) < (len : Int) := by omega
      have cc := HS.out.below hb hB (k + 1) (by simp; omega)
      have cp := HS.out.below hb hB k (by simp; omega)
      have HP : Hid (parS r rs k ++ strOfNums (V.nums ((at' (r :: rs) k).1 - (at' (r :: rs) (k + 1)).2 - 2)) ++ strOfNums (V.nums ((at' (r :: rs) (k + 1)).2 - (at' (r :: rs) (k + 1)).1)) = parS r rs (k + 1)) := parS_succ r rs k hkr
      have hpm := mays_part HG.out (k + 1)
      rw [part_succ r rs k hkr, lst_at r rs k (by omega), show at' rs k = at' (r :: rs) (k + 1) by simp [at']] at hpm
      have m1 := hpm ((at' (r :: rs) k).1 - (at' (r :: rs) (k + 1)).2 - 2) (by simp)
      have m2 := hpm ((at' (r :: rs) (k + 1)).2 - (at' (r :: rs) (k + 1)).1) (by simp)
      have bx := HG.out.2.1 _ (at_mem (zs := r :: rs) (j := k + 1) (by simp; omega))
      have by' := HG.out.2.1 _ (at_mem (zs := r :: rs) (j := k) (by simp; omega))
      have lx := norm_le HG.out.2.2 _ (at_mem (zs := r :: rs) (j := k + 1) (by simp; omega))
      have ly := norm_le HG.out.2.2 _ (at_mem (zs := r :: rs) (j := k) (by simp; omega))
      have hsz := parS_size HG.out k (by omega)
      clear hpm hkr HZ
      generalize parS r rs k = sk at *
      generalize at' (r :: rs) (k + 1) = x at *
      generalize at' (r :: rs) k = p at *
      obtain ⟨lo, hi⟩ := x
      obtain ⟨pl, ph⟩ := p
      simp only at cc cp HP m1 m2 bx by' lx ly
      have hbr : b < wr.heap.size := Nat.lt_of_lt_of_le hb hB.size
      have e0 : ∀ n os, (grow (wr.drewN n) os).cell? ⟨b, off + k * 2, none⟩ = some (.int .i64 pl) := cell_grown hbr cp.1
      have e1 : ∀ n os, (grow (wr.drewN n) os).cell? ⟨b, off + (k + 1) * 2, none⟩ = some (.int .i64 lo) := cell_grown hbr cc.1
      have e2 : ∀ n os, (grow (wr.drewN n) os).cell? ⟨b, off + (k + 1) * 2 + 1, none⟩ = some (.int .i64 hi) := cell_grown hbr cc.2
      have w1' : IntKind.i64.wrap (k : Int) = (k : Int) := by simp [IntKind.wrap, IntKind.bits, IntKind.signed]; omega
      have w2' : IntKind.i64.wrap (pl - hi) = pl - hi := by simp [IntKind.wrap, IntKind.bits, IntKind.signed]; omega
      have w3' : IntKind.i64.wrap (pl - hi - 2) = pl - hi - 2 := by simp [IntKind.wrap, IntKind.bits, IntKind.signed]; omega
      have w4' : IntKind.i64.wrap (hi - lo) = hi - lo := by simp [IntKind.wrap, IntKind.bits, IntKind.signed]; omega
      have hm1 : V.mayB (pl - hi - 2) = true := (mayB_iff _).2 m1
      have hm2 : V.mayB (hi - lo) = true := (mayB_iff _).2 m2
      have gk0 : ¬ (k : Int) < 0 := by omega
      have gk1 : ¬ (k : Int) + 1 < 0 := by omega
      clear cc cp
      go_wp2_with fail
      go_quiet_grown (first | (go_at_call 29; refine Calls.grown_of (bytes_grow _ _ hm1)))
      have hBa : Below w.heap.size w (grow (wr.drewN nq) osq) := below_grow (below_drewN hB _) hB.size _
      have f1 := e1 nq osq
      have f2 := e2 nq osq
      generalize grow (wr.drewN nq) osq = Wa at *
      clear e0 e1 e2
      have hba : b < Wa.heap.size := Nat.lt_of_lt_of_le hb hBa.size
      have e1 : ∀ n os, (grow (Wa.drewN n) os).cell? ⟨b, off + (k + 1) * 2, none⟩ = some (.int .i64 lo) := cell_grown hba f1
      have e2 : ∀ n os, (grow (Wa.drewN n) os).cell? ⟨b, off + (k + 1) * 2 + 1, none⟩ = some (.int .i64 hi) := cell_grown hba f2
      clear f1 f2
      go_wp2_with fail
      go_quiet_grown (first | (go_at_call 29; refine Calls.grown_of (bytes_grow _ _ hm2)))
      have hBb : Below w.heap.size w (grow (Wa.drewN nq) osq) := below_grow (below_drewN hBa _) hBa.size _
      generalize grow (Wa.drewN nq) osq = Wb at *
      clear e1 e2
      have s4 := nums4 (pl - hi - 2)
      have s5 := nums4 (hi - lo)
      generalize strOfNums (V.nums (pl - hi - 2)) = y1 at *
      generalize strOfNums (V.nums (hi - lo)) = y2 at *
      have t3 : (sk ++ y1).size ≤ 104 := by rw [ByteArray.size_append]; omega
      have t4 : sk.size + y1.size ≤ 9223372036854775807 := by omega
      have t5 : (sk ++ y1).size + y2.size ≤ 9223372036854775807 := by omega
      go_wp2_with fail
      exact ⟨⟨k + 1, by omega, by go_num, by rw [HP.out], hBb⟩, by simp [intOf]; omega⟩
    · have hkr : k = rs.length := by have := HL.out; omega
      have hE : Hid (parS r rs k = strOfNums (enc (r :: rs))) := by
        show _ = _
        unfold parS enc
        rw [hkr, part_all]
      have g1 : ¬ (k : Int) + 1 < (len : Int) := by omega
      clear hkr HZ
      go_wp2_with fail
      go_ret
      exact ⟨by rw [hE.out]; rfl, hB⟩
theorem rack_calls (v : Value) (zs : List R) (w : World) (hR : Row w v zs) (hg : Good zs) (h0 : zs ≠ []) :
    Calls Tryd.prog 28 #[v] w fun e w' => e = .returned (.string (strOfNums (enc zs))) ∧ Below w.heap.size w w' := by
  obtain ⟨ao, c, rfl, hl, hn, h⟩ := hR
  rcases h with h | ⟨b, off, rfl, hb, hc⟩
  · exact absurd h h0
  · cases zs with
    | nil => exact absurd rfl h0
    | cons r rs => exact rack_some b off _ c r rs w rfl hg hb hc
end Go.Proofs.YtjpdembofiadbaaDoor
