/- Slices of integers; what checkBoth, Left and Lost answer. -/
import Derived.Test.YtingcgadolcanaaDoorF
namespace Go.Proofs.YtingcgadolcanaaDoor
open Go.RowKit Go.Lib Go.Sort
set_option linter.unusedVariables false
set_option linter.unusedSimpArgs false

def ints (xs : List Int) : List Value := xs.map fun n => .int .i64 n
def iat (xs : List Int) (j : Nat) : Int := xs[j]?.getD 0
theorem ints_length (xs : List Int) : (ints xs).length = xs.length := by simp [ints]
theorem ints_append (xs ys : List Int) : ints (xs ++ ys) = ints xs ++ ints ys := by simp [ints]
theorem ints_get (xs : List Int) (j : Nat) (h : j < xs.length) : (ints xs)[j]? = some (.int .i64 (iat xs j)) := by simp [ints, iat, h]
theorem iat_mem {xs : List Int} {j : Nat} (h : j < xs.length) : iat xs j ∈ xs := by simp [iat, h]
def ICells (w : World) (b off : Nat) (xs : List Int) : Prop := ∀ j, j < xs.length → w.cell? ⟨b, off + j, none⟩ = some (.int .i64 (iat xs j))
/-- The slice's value v holds the integers xs in the world w. -/
def IRow (w : World) (v : Value) (xs : List Int) : Prop := ∃ ao c, v = .slice ao xs.length c ∧ xs.length ≤ 9223372036854775807 ∧ (xs = [] ∨ ∃ b off, ao = some ⟨b, off, none⟩ ∧ b < w.heap.size ∧ ICells w b off xs)
theorem ICells.below {w w' : World} {b off : Nat} {xs : List Int} (h : ICells w b off xs) (hb : b < w.heap.size) (bel : Below w.heap.size w w') : ICells w' b off xs := fun j hj => (bel.cell (p := ⟨b, off + j, none⟩) hb).trans (h j hj)
theorem IRow.below {w w' : World} {v : Value} {xs : List Int} (h : IRow w v xs) (bel : Below w.heap.size w w') : IRow w' v xs := by
  obtain ⟨ao, c, rfl, hl, h⟩ := h
  refine ⟨ao, c, rfl, hl, ?_⟩
  rcases h with h | ⟨b, off, rfl, hb, hc⟩
  · exact .inl h
  · exact .inr ⟨b, off, rfl, Nat.lt_of_lt_of_le hb bel.size, hc.below hb bel⟩
theorem irow_of_own {w : World} {base n : Nat} {v : Value} {xs : List Int} (h : w.ownsRow base 3 1 v n (ints xs)) (hl : xs.length ≤ 1000000) : IRow w v xs := by
  have hn : xs.length = n := by have := h.1; rw [ints_length] at this; omega
  rcases h.2 with ⟨rfl, h0⟩ | ⟨g, cap, cur, rfl, hb, hg, hr⟩
  · exact ⟨none, 0, by rw [hn, h0], by omega, .inl (List.eq_nil_of_length_eq_zero (by omega))⟩
  · refine ⟨some ⟨g, 0, none⟩, cap, by rw [hn], by omega, .inr ⟨g, 0, rfl, (h.lt g rfl).2, fun j hj => ?_⟩⟩
    have := h.cells (g := g) rfl _ _ (ints_get xs j hj)
    rw [Addr.add_lit] at this
    exact this
theorem infoI : (Tryd.prog.info? 3).map (fun i => (i.zero, i.size, i.bytes)) = some (some (.int .i64 0), 1, 8) := by kernel_rfl
theorem cell_one_new (w : World) (u : Value) (t : TypeId) : ∀ (j : Nat) (u' : Value), [u][j]? = some u' → (w.alloc (.cells #[u] t)).cell? ((⟨w.heap.size, 0, none⟩ : Addr).add j) = some u' := by
  intro j u' h
  match j, h with
  | 0, h => simp at h; subst h; rw [Addr.add_lit]; simp
  | j + 1, h => simp at h
theorem own_below' {w w' : World} {B e size n : Nat} {v : Value} {xs : List Value} (h : w.ownsRow B e size v n xs) (hb : Below w.heap.size w w') : w'.ownsRow B e size v n xs := by
  refine ⟨h.1, ?_⟩
  rcases h.2 with hn | ⟨g, cap, cur, rfl, hB, hgg, hr⟩
  · exact .inl hn
  · exact .inr ⟨g, cap, cur, rfl, hB, (hb.block g (Array.getElem?_eq_some_iff.1 hgg).1).trans hgg, hr⟩
theorem own_mono' {w : World} {B B' e size n : Nat} {v : Value} {xs : List Value} (h : w.ownsRow B e size v n xs) (hb : B' ≤ B) : w.ownsRow B' e size v n xs := by
  refine ⟨h.1, ?_⟩
  rcases h.2 with hn | ⟨g, cap, cur, rfl, hB, hr⟩
  · exact .inl hn
  · exact .inr ⟨g, cap, cur, rfl, Nat.le_trans hb hB, hr⟩
set_option maxRecDepth 100000 in
set_option maxHeartbeats 2000000 in
theorem both_calls (u v : Value) (zs : List S3) (acks : List R) (w : World) (hZ : Row3 w u zs) (hR : Row w v acks) :
    Calls Tryd.prog 20 #[u, v] w fun e w' => e = .returned (errV (both zs acks)) ∧ Below w.heap.size w w' := by
  have h1 := scheck_calls u zs w hZ
  by_cases h0 : sc zs = 0
  · have e : both zs acks = chk acks := by rw [both, if_pos h0]
    rw [e]
    rw [h0, errV0] at h1
    have HC : Hid (∀ w1, Below w.heap.size w w1 → Calls Tryd.prog 27 #[v] w1 fun e w' => e = .returned (errV (chk acks)) ∧ Below w1.heap.size w1 w') := fun w1 hb => check_calls v acks w1 (hR.below hb)
    clear hZ hR e
    generalize chk acks = f at HC ⊢
    go_enter Tryd.func20, Tryd.ntmps20
    go_wp2_with (first | (go_at_call 6; refine h1.mono ?_; rintro e w1 ⟨rfl, hb1⟩) | (go_at_call 27; refine (HC.out w1 hb1).mono ?_; rintro e w2 ⟨rfl, hb2⟩))
    go_ret
    exact ⟨rfl, hb1.trans (hb2.mono hb1.size)⟩
  · have e : both zs acks = sc zs := by rw [both, if_neg h0]
    rw [e, errV_f h0]
    rw [errV_f h0] at h1
    clear hZ hR e
    generalize sc zs = f at h1 ⊢
    go_enter Tryd.func20, Tryd.ntmps20
    go_wp2_with (go_at_call 6; refine h1.mono ?_; rintro e w1 ⟨rfl, hb1⟩)
    go_ret
    exact ⟨rfl, hb1⟩
theorem both_len {zs : List S3} {acks : List R} (h : both zs acks = 0) : zs.length ≤ 1000000 := by have := (sc_good (both_0 h).1).1; omega
set_option maxRecDepth 100000 in
set_option maxHeartbeats 2000000 in
theorem leftx_no (u v : Value) (zs : List S3) (acks : List R) (w : World) (hZ : Row3 w u zs) (hR : Row w v acks) (h : both zs acks ≠ 0) :
    Calls Tryd.prog 10 #[u, v] w fun e w' => e = .returned (.tuple #[.slice none 0 0, errV (both zs acks)]) ∧ Below w.heap.size w w' := by
  have h1 := both_calls u v zs acks w hZ hR
  rw [errV_f h] at h1 ⊢
  clear hZ hR h
  generalize both zs acks = f at h1 ⊢
  go_enter Tryd.func10, Tryd.ntmps10
  go_wp2_with (go_at_call 20; refine h1.mono ?_; rintro e w1 ⟨rfl, hb1⟩)
  go_ret2
  exact ⟨rfl, hb1⟩
set_option maxRecDepth 100000 in
set_option maxHeartbeats 2000000 in
theorem leftx_yes (u v : Value) (zs : List S3) (acks : List R) (w : World) (hZ : Row3 w u zs) (hR : Row w v acks) (h : both zs acks = 0) :
    Calls Tryd.prog 10 #[u, v] w fun e w' => ∃ u', e = .returned (.tuple #[u', .nilIface]) ∧ Row3 w' u' (leftL acks zs) ∧ Below w.heap.size w w' := by
  have h1 := both_calls u v zs acks w hZ hR
  rw [h, errV0] at h1
  have HL : Hid (∀ w1, Below w.heap.size w w1 → Calls Tryd.prog 21 #[u, v] w1 fun e w' => ∃ u', e = .returned u' ∧ Row3 w' u' (leftL acks zs) ∧ Below w1.heap.size w1 w') := fun w1 hb => left_calls u v zs acks w1 (both_len h) (hZ.below hb) (hR.below hb)
  clear hZ hR h
  go_enter Tryd.func10, Tryd.ntmps10
  go_wp2_with (first | (go_at_call 20; refine h1.mono ?_; rintro e w1 ⟨rfl, hb1⟩) | (go_at_call 21; refine (HL.out w1 hb1).mono ?_; rintro e w2 ⟨u2, rfl, ho2, hb2⟩))
  go_ret2
  exact ⟨u2, rfl, ho2, hb1.trans (hb2.mono hb1.size)⟩

theorem box_row (w : World) (v : Value) (t : TypeId) : (w.alloc (.cells #[v] t)).cell? ⟨w.heap.size, 0, none⟩ = some v := by simp
set_option maxRecDepth 100000 in
set_option maxHeartbeats 2000000 in
theorem lost_no (u v : Value) (zs : List S3) (acks : List R) (now wait : Int) (w : World) (hZ : Row3 w u zs) (hR : Row w v acks) (h : both zs acks ≠ 0) :
    Calls Tryd.prog 12 #[u, v, .int .i64 now, .int .i64 wait] w fun e w' => e = .returned (.tuple #[.slice none 0 0, errV (both zs acks)]) ∧ Below w.heap.size w w' := by
  have bel : Below w.heap.size w (w.alloc (.cells #[v] 23)) := (Below.refl _ _).alloc (Nat.le_refl _) _
  have h1 := both_calls u v zs acks _ (hZ.below bel) (hR.below bel)
  rw [errV_f h] at h1 ⊢
  obtain ⟨bo, d, rfl, _, _, _⟩ := hR
  clear hZ h
  generalize acks.length = m at *
  generalize both zs acks = f at h1 ⊢
  go_enter Tryd.func12, Tryd.ntmps12
  go_wp2_with (go_at_call 20; refine h1.mono ?_; rintro e w1 ⟨rfl, hb1⟩)
  go_ret2
  exact ⟨rfl, bel.trans (hb1.mono bel.size)⟩
set_option maxRecDepth 100000 in
set_option maxHeartbeats 2000000 in
theorem lost_range (u v : Value) (zs : List S3) (acks : List R) (now wait : Int) (w : World) (hZ : Row3 w u zs) (hR : Row w v acks) (h : both zs acks = 0) (ht : ¬ (isT now = true ∧ isW wait = true)) :
    Calls Tryd.prog 12 #[u, v, .int .i64 now, .int .i64 wait] w fun e w' => e = .returned (.tuple #[.slice none 0 0, .iface 46 (.int .i64 1)]) ∧ Below w.heap.size w w' := by
  have bel : Below w.heap.size w (w.alloc (.cells #[v] 23)) := (Below.refl _ _).alloc (Nat.le_refl _) _
  have h1 := both_calls u v zs acks _ (hZ.below bel) (hR.below bel)
  rw [h, errV0] at h1
  obtain ⟨bo, d, rfl, _, _, _⟩ := hR
  clear hZ h
  generalize acks.length = m at *
  have hT := st_calls now
  have hW := sw_calls wait
  cases h2 : isT now with
  | false =>
    rw [h2] at hT
    clear ht hW
    go_enter Tryd.func12, Tryd.ntmps12
    go_wp2_with (first | (go_at_call 20; refine h1.mono ?_; rintro e w1 ⟨rfl, hb1⟩) | (go_at_call 17; refine (hT _).mono ?_; rintro e w2 ⟨rfl, rfl⟩))
    go_ret2
    exact ⟨rfl, bel.trans (hb1.mono bel.size)⟩
  | true =>
    have h3 : isW wait = false := by
      cases e : isW wait with
      | false => rfl
      | true => exact absurd ⟨h2, e⟩ ht
    rw [h2] at hT
    rw [h3] at hW
    clear ht
    go_enter Tryd.func12, Tryd.ntmps12
    go_wp2_with (first | (go_at_call 20; refine h1.mono ?_; rintro e w1 ⟨rfl, hb1⟩) | (go_at_call 17; refine (hT _).mono ?_; rintro e w2 ⟨rfl, rfl⟩) | (go_at_call 22; refine (hW _).mono ?_; rintro e w2 ⟨rfl, rfl⟩))
    go_ret2
    exact ⟨rfl, bel.trans (hb1.mono bel.size)⟩

/-- Which of the first k are lost. -/
def lostT (acks : List R) (now wait : Int) (ls : List S3) (k : Nat) : List Int := ((ls.take k).filter (lostB acks now wait)).map fun s => s.1
theorem lostT_next (acks : List R) (now wait : Int) {ls : List S3} {k : Nat} (hk : k < ls.length) : lostT acks now wait ls (k + 1) = lostT acks now wait ls k ++ (if lostB acks now wait (at3 ls k) = true then [(at3 ls k).1] else []) := by
  have e : at3 ls k = ls[k] := by simp [at3, hk]
  unfold lostT
  rw [e, List.take_succ_eq_append_getElem hk, List.filter_append, List.map_append]
  congr 1
  cases h : lostB acks now wait ls[k] <;> simp [h]
theorem lostT_yes {acks : List R} {now wait : Int} {ls : List S3} {k : Nat} (hk : k < ls.length) (h : lostB acks now wait (at3 ls k) = true) : lostT acks now wait ls (k + 1) = lostT acks now wait ls k ++ [(at3 ls k).1] := by rw [lostT_next acks now wait hk, if_pos h]
theorem lostT_not {acks : List R} {now wait : Int} {ls : List S3} {k : Nat} (hk : k < ls.length) (h : lostB acks now wait (at3 ls k) = false) : lostT acks now wait ls (k + 1) = lostT acks now wait ls k := by rw [lostT_next acks now wait hk, if_neg (by simp [h]), List.append_nil]
theorem lostT_le (acks : List R) (now wait : Int) (ls : List S3) (k : Nat) : (lostT acks now wait ls k).length ≤ k := by
  unfold lostT
  rw [List.length_map]
  exact Nat.le_trans (List.length_filter_le _ _) (by rw [List.length_take]; omega)
end Go.Proofs.YtingcgadolcanaaDoor
