/- The walk of the law PacketPing. -/
import Derived.Test.YtjpdembofiadbaaDoorQD
import Derived.Test.YtjpdembofiadbaaDoorQG
import Derived.Test.YtjpdembofiadbaaDoorK
namespace Go.Proofs.YtjpdembofiadbaaDoor
open Go.RowKit Go.Lib Go.Sort
set_option linter.unusedVariables false
set_option linter.unusedSimpArgs false
set_option linter.unusedSimpArgs false


def pingF : List F := [(1, [], { data := #[] })]
theorem ping_one : frF 1 [] { data := #[] } = 0 := by
  exact frF_zero (by decide) (by decide) (fun _ => rfl) (fun z hz => by simp at hz) (by decide) (fun e => by cases e)
theorem ping_bytes : frS 1 [] { data := #[] } = { data := #[1] } := by
  simp [frS, mid, strOfNums]; rfl
theorem ping_fsS : fsS pingF = { data := #[1] } := by
  show frS 1 [] { data := #[] } ++ ({ data := #[] } : ByteArray) = _
  rw [ba_nil, ping_bytes]
theorem ping_fsF : fsF pingF = 0 := by
  have : fF (1, [], { data := #[] }) = 0 := ping_one
  simp [pingF, fsF, this]
theorem ping_need (n : Int) : U.need n (n - 1) = 1 := by
  unfold U.need
  rw [if_pos (by omega)]
theorem ping_size (n : Int) : (pkS n (n - 1) pingF).size = 3 := by
  unfold pkS pkN
  rw [ping_fsS, ping_need, ByteArray.size_append, ByteArray.size_append, strOfNums_size, strOfNums_size]
  rfl
theorem ping_pair {n : Int} (h : U.mayB n = true) : U.pairB n (n - 1) = true := by
  have := U.mayB_yes h
  exact decide_eq_true (by omega)
theorem ping_pk {n : Int} (h : U.mayB n = true) : pkF n (n - 1) pingF = 0 := by
  rw [pkF_eq n (n - 1) pingF (ping_pair h)]
  have e : pfF pingF = 0 := ping_fsF
  rw [if_neg (by simp [e]), if_neg (by rw [ping_size]; omega)]
theorem none_pk {n : Int} (h : U.mayB n = true) : pkF n (n - 1) [] = 5 := by
  rw [pkF_eq n (n - 1) [] (ping_pair h)]
  rfl
theorem bad_pk {n k : Int} (l : List F) (h : U.mayB n = false) : pkF n k l = 1 := by
  have : U.pairB n k = false := by
    cases e : U.pairB n k with
    | false => rfl
    | true =>
      have := U.pairB_yes e
      rw [(U.mayB_iff n).2 ⟨this.1, this.2.1⟩] at h
      cases h
  unfold pkF
  rw [if_pos this]
theorem lit_row (W : World) : FRow (W.alloc (.cells #[.int .i64 1, .slice none 0 0, .string { data := #[] }] 38)) (.slice (some ⟨W.heap.size, 0, none⟩) 1 1) pingF := by
  refine ⟨_, 1, rfl, by simp [pingF], by simp [pingF], .inr ⟨_, 0, rfl, by simp, fun j hj => ?_⟩⟩
  have : j = 0 := by simp [pingF] at hj; exact hj
  subst this
  exact ⟨.slice none 0 0, by simp [pingF, fat], by simp, by simp [pingF, fat], IRow.nil _, by simp [pingF, fat]; unfold maxLen; decide⟩

set_option maxRecDepth 100000 in
set_option maxHeartbeats 4000000 in
theorem ping_yes (n : Int) (w : World) (hH : (V.Forms w ∧ Cnts w) ∧ Handle w) (h : U.mayB n = true) : Calls Tryd.prog 5 #[.int .i64 n] w fun e w' => e = .returned (.bool true) ∧ Below w.heap.size w w' := by
  have bel : Below w.heap.size w (w.alloc (.cells #[.int .i64 1, .slice none 0 0, .string { data := #[] }] 38)) := (Below.refl _ w).alloc (Nat.le_refl _) _
  have HP := pkt_print_ok n (n - 1) _ pingF _ (hH.1.1.below bel) (hH.1.2.below bel) (lit_row w) (ping_pk h)
  have HQ := fun W (hb : Below w.heap.size w W) => pkt_print_no n (n - 1) (.slice none 0 0) [] W (hH.1.1.below hb) (hH.1.2.below hb) (FRow.nil W) (by rw [none_pk h]; decide)
  rw [none_pk h, show errV 5 = .iface 48 (.int .i64 5) from rfl] at HQ
  have hrd : rdP (pkS n (n - 1) pingF) n = some (n, pingF) := by
    have := rdP_back (more := n - 1) (ping_pk h) (by omega) (by omega)
    rwa [show n - 1 + 1 = n by omega] at this
  have hsz := ping_size n
  have HX := fun W (hb : Below w.heap.size w W) => pkt_parse_yes (pkS n (n - 1) pingF) n W (hH.1.1.below hb) (hH.1.2.below hb) h (by omega) n pingF hrd
  have HE := fun W (hb : Below w.heap.size w W) => same_err 5 5 W (hH.2.below hb)
  obtain ⟨n0, n1⟩ := U.mayB_yes h
  clear hH hrd h
  generalize pkS n (n - 1) pingF = sp at *
  have hsi : (sp.size : Int) = 3 := by omega
  clear hsz
  go_enter Tryd.func5, Tryd.ntmps5
  go_wp2_with fail
  refine HP.mono ?_
  rintro e w1 ⟨rfl, hb1⟩
  have hB1 := bel.trans (hb1.mono bel.size)
  clear HP bel hb1
  go_wp2_with fail
  refine (HQ _ hB1).mono ?_
  rintro e w2 ⟨rfl, hb2⟩
  have hB2 := hB1.trans (hb2.mono hB1.size)
  clear HQ hb2 hB1
  go_wp2_with fail
  refine (HX _ hB2).mono ?_
  rintro e w3 ⟨v, us, rfl, ho, hb3⟩
  have hB3 := hB2.trans (hb3.mono hB2.size)
  obtain ⟨ao, c, rfl, _, _, hz⟩ := ho.row (by simp [pingF])
  obtain ⟨b, off, rfl, hbl, hc⟩ : ∃ b off, ao = some ⟨b, off, none⟩ ∧ b < w3.heap.size ∧ FCells w3 b off pingF := by
    rcases hz with e | e
    · cases e
    · exact e
  obtain ⟨u0, c0, _⟩ := hc 0 (by simp [pingF])
  have c0' : w3.cell? ⟨b, off, none⟩ = some (.int .i64 1) := by simpa [pingF, fat] using c0
  have hlp : pingF.length = 1 := rfl
  clear HX hb3 hB2 ho hz hc c0
  rw [hlp] at *
  go_wp2_with (first | (go_at_call 8; refine (HE _ hB3).mono ?_; rintro e w4 ⟨rfl, hb4⟩; have hB4 := hB3.trans (hb4.mono hB3.size); have d0 := (hb4.cell (p := ⟨b, off, none⟩) hbl).trans c0'))
  go_ret
  exact ⟨by simp, hB4⟩

set_option maxRecDepth 100000 in
set_option maxHeartbeats 4000000 in
theorem ping_no (n m : Int) (w : World) (hw : IntKind.i64.wrap (n - 1) = m) (hH : (V.Forms w ∧ Cnts w) ∧ Handle w) (h : U.mayB n = false) (hor : (decide (n < 0) || decide (1073741823 < n)) = true) : Calls Tryd.prog 5 #[.int .i64 n] w fun e w' => e = .returned (.bool true) ∧ Below w.heap.size w w' := by
  have bel : Below w.heap.size w (w.alloc (.cells #[.int .i64 1, .slice none 0 0, .string { data := #[] }] 38)) := (Below.refl _ w).alloc (Nat.le_refl _) _
  have HP := pkt_print_no n m _ pingF _ (hH.1.1.below bel) (hH.1.2.below bel) (lit_row w) (by rw [bad_pk _ h]; decide)
  have HQ := fun W (hb : Below w.heap.size w W) => pkt_print_no n m (.slice none 0 0) [] W (hH.1.1.below hb) (hH.1.2.below hb) (FRow.nil W) (by rw [bad_pk _ h]; decide)
  rw [bad_pk _ h, errV1] at HQ HP
  have HE := fun W (hb : Below w.heap.size w W) => same_err 1 1 W (hH.2.below hb)
  clear hH h
  go_enter Tryd.func5, Tryd.ntmps5
  go_wp2_with fail
  refine HP.mono ?_
  rintro e w1 ⟨rfl, hb1⟩
  have hB1 := bel.trans (hb1.mono bel.size)
  clear HP bel hb1
  go_wp2_with fail
  refine (HQ _ hB1).mono ?_
  rintro e w2 ⟨rfl, hb2⟩
  have hB2 := hB1.trans (hb2.mono hB1.size)
  clear HQ hb2 hB1
  by_cases hlo : n < 0
  · go_wp2_with (first | (go_at_call 8; refine (HE _ hB2).mono ?_; rintro e w4 ⟨rfl, hb4⟩; have hB4 := hB2.trans (hb4.mono hB2.size)))
    go_ret
    exact ⟨by simp, hB4⟩
  · have hhi : 1073741823 < n := by simp at hor; omega
    go_wp2_with (first | (go_at_call 8; refine (HE _ hB2).mono ?_; rintro e w4 ⟨rfl, hb4⟩; have hB4 := hB2.trans (hb4.mono hB2.size)))
    go_ret
    exact ⟨by simp, hB4⟩
theorem ping_walk (n : Int) (w : World) (hH : (V.Forms w ∧ Cnts w) ∧ Handle w) : Calls Tryd.prog 5 #[.int .i64 n] w fun e w' => e = .returned (.bool true) ∧ Below w.heap.size w w' := by
  cases h : U.mayB n with
  | true => exact ping_yes n w hH h
  | false => exact ping_no n _ w rfl hH h (by rcases U.mayB_no h with h | h <;> simp [h])
end Go.Proofs.YtjpdembofiadbaaDoor
