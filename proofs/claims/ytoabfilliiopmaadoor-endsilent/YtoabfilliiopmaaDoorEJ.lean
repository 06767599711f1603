/- The walk of the law EndSilent. -/
import Derived.Test.YtoabfilliiopmaaDoorEH
import Derived.Test.YtoabfilliiopmaaDoorEI
import Derived.Test.YtoabfilliiopmaaDoorQG
namespace Go.Proofs.YtoabfilliiopmaaDoor
open Go.RowKit Go.Lib Go.Sort
set_option linter.unusedVariables false
set_option linter.unusedSimpArgs false


theorem Turn.bel {w w' : World} {B eb : Nat} {vl vc : Value} {e e' : En} (h : EO w B eb vl vc e) (ht : Turn w w' B eb vl vc e') : Below B w w' := by
  obtain ⟨_, _, _, ho, _⟩ := ht
  exact ho.below (fun k hk => (h.own_lt hk).1) h.le
theorem pkN_size (n k : Int) : (pkN n k).size ≤ 5 := by
  have h := ints_pkN n k
  have h2 := congrArg List.length h
  rw [ints_length, List.length_cons] at h2
  have h3 := numB_length (n := n) (U.need_len n k)
  have h4 := U.lenB_yes (U.need_len n k)
  omega
theorem pkF_few {n k : Int} {l : List F} (hp : U.pairB n k = true) (h1 : 1 ≤ l.length) (h2 : l.length ≤ 12) (hf : fsF l = 0) (hs : (fsS l).size ≤ 195) : pkF n k l = 0 := by
  have := pkN_size n k
  have e : (pkS n k l).size = (pkN n k).size + (fsS l).size := by unfold pkS; rw [ByteArray.size_append]
  unfold pkF
  rw [if_neg (by rw [hp]; decide), if_neg (by omega), if_neg (by omega), if_neg (by rw [hf]; simp), if_neg (by omega)]
theorem silent_frs (n : Int) : frs (newE n) = [(4, [n], nilB)] := rfl
theorem silent_ok {n : Int} (h : Cx.winB n = true) : makeF (newE n) = 0 := by
  have h' : 1 ≤ n ∧ n ≤ 1000 := of_decide_eq_true h
  have hg : fF (4, [n], nilB) = 0 := good_credit (by omega) (by omega)
  unfold makeF
  rw [silent_frs]
  refine pkF_few (show U.pairB 0 (-1) = true by decide) (by simp) (by simp) ?_ ?_
  · simp only [fsF, hg, ne_eq, not_true, if_false]
  · rw [fsS_one]
    have : (frS 4 [n] nilB).size ≤ 121 := frS_size hg
    exact Nat.le_trans this (by omega)
theorem silent_back {n : Int} (h : Cx.winB n = true) : rdP (makeB (newE n)) 0 = some (0, [(4, [n], nilB)]) := by
  have h0 := silent_ok h
  have e : makeB (newE n) = pkS 0 (-1) [(4, [n], nilB)] := by unfold makeB; rw [if_pos h0]; rfl
  rw [e]
  have h1 : pkF 0 (-1) [(4, [n], nilB)] = 0 := h0
  have h2 := rdP_back (more := -1) h1 (by omega) (by omega)
  rw [show (-1 : Int) + 1 = 0 from rfl] at h2
  exact h2
theorem silent_size {n : Int} (h : Cx.winB n = true) : (makeB (newE n)).size ≤ 200 := by
  have h0 := silent_ok h
  have e : makeB (newE n) = pkS 0 (-1) [(4, [n], nilB)] := by unfold makeB; rw [if_pos h0]; rfl
  rw [e]
  exact (pkF_ok (show pkF 0 (-1) [(4, [n], nilB)] = 0 from h0)).2.2.2.2
set_option maxRecDepth 100000 in
set_option maxHeartbeats 4000000 in
theorem silent_no (n : Int) (w : World) (h : Cx.winB n = false) (ho : n < 1 ∨ 1000 < n) : Calls Tryd.prog 3 #[.int .i64 n] w fun e w' => e = .returned (.bool true) ∧ Below w.heap.size w w' := by
  have HN := new_no n w h
  clear h
  by_cases h1 : n < 1
  · go_enter Tryd.func3, Tryd.ntmps3
    go_wp2_with (go_at_call 4; refine HN.mono ?_; rintro e w1 ⟨rfl, hw1⟩; obtain rfl := hw1.symm)
    go_ret
    exact ⟨by simp, Below.refl _ _⟩
  · have h2 : 1000 < n := by omega
    go_enter Tryd.func3, Tryd.ntmps3
    go_wp2_with (go_at_call 4; refine HN.mono ?_; rintro e w1 ⟨rfl, hw1⟩; obtain rfl := hw1.symm)
    go_ret
    exact ⟨by simp, Below.refl _ _⟩
set_option maxRecDepth 100000 in
set_option maxHeartbeats 4000000 in
theorem silent_yes (n : Int) (w : World) (hF : V.Forms w) (hC : Cnts w) (h : Cx.winB n = true) : Calls Tryd.prog 3 #[.int .i64 n] w fun e w' => e = .returned (.bool true) ∧ Below w.heap.size w w' := by
  have HN := new_yes n w h
  have HV : Hid (V.Forms w ∧ Cnts w) := ⟨hF, hC⟩
  have HB : Hid (rdP (makeB (newE n)) 0 = some (0, [(4, [n], nilB)]) ∧ (makeB (newE n)).size ≤ 200) := ⟨silent_back h, silent_size h⟩
  clear h hF hC
  go_enter Tryd.func3, Tryd.ntmps3
  go_wp2_with fail
  refine HN.mono ?_
  rintro e w1 ⟨eb, rfl, hO1, hb1⟩
  clear HN
  have HM := make_calls hO1 (keepOK_nil rfl) (HV.out.1.below hb1) (HV.out.2.below hb1)
  obtain ⟨bb, hbb⟩ : ∃ bb, makeB (newE n) = bb := ⟨_, rfl⟩
  rw [hbb] at HM HB
  clear hbb
  go_wp2_with fail
  refine HM.mono ?_
  rintro e w2 ⟨rfl, ht2⟩
  have hB2 : Below w.heap.size w w2 := hb1.trans (ht2.bel hO1)
  obtain ⟨vl2, vc2, hO2, _, _⟩ := ht2
  have HP := pkt_parse_yes bb 0 w2 (HV.out.1.below hB2) (HV.out.2.below hB2) (by decide) HB.out.2 _ _ HB.out.1
  clear HM hO1 hb1 HB
  go_wp2_with fail
  refine HP.mono ?_
  rintro e w3 ⟨v3, us, rfl, ho3, hb3⟩
  have hB3 := hB2.trans (hb3.mono hB2.size)
  have hO3 := hO2.below hb3
  obtain ⟨ao, c, rfl, _, _, hz⟩ := ho3.row (by simp)
  obtain ⟨b, off, rfl, hbl, hc⟩ : ∃ b off, ao = some ⟨b, off, none⟩ ∧ b < w3.heap.size ∧ FCells w3 b off [(4, [n], nilB)] := by
    rcases hz with e | e
    · cases e
    · exact e
  obtain ⟨u0, c0, c1, _, hi, _⟩ := hc 0 (by simp)
  have c0' : w3.cell? ⟨b, off, none⟩ = some (.int .i64 4) := by simpa [fat] using c0
  have c1' : w3.cell? ⟨b, off + 1, none⟩ = some u0 := by simpa [fat] using c1
  have hi' : IRow w3 u0 [n] := by simpa [fat] using hi
  obtain ⟨ai, ci, rfl, _, _, hzi⟩ := hi'
  obtain ⟨bi, oi, rfl, hbi, hci⟩ : ∃ bi oi, ai = some ⟨bi, oi, none⟩ ∧ bi < w3.heap.size ∧ ICells w3 bi oi [n] := by
    rcases hzi with e | e
    · cases e
    · exact e
  have ci0 : w3.cell? ⟨bi, oi, none⟩ = some (.int .i64 n) := by simpa using hci 0 (by simp)
  have HR := ready_calls hO3
  have hr0 : (Sx.rdy (makeS (newE n)).s : Int) = 0 := by
    have : (makeS (newE n)).s = Sx.newS := by unfold makeS; split <;> rfl
    rw [this]
    rfl
  rw [hr0] at HR
  have hcm : (makeS (newE n)).cm = [] := by unfold makeS; split <;> rfl
  have HA := fun X (hX : Below w3.heap.size w3 X) => acked_calls (hO3.below hX)
  simp only [hcm, List.length_nil] at HA
  clear HP hO2 hb3 hB2 ho3 hz hc c0 c1 hi hzi hci hr0 hcm hO3
  simp only [List.length_cons, List.length_nil] at *
  go_wp2_with (first | (go_at_call 7; refine HR.mono ?_; rintro e w4 ⟨rfl, hb4⟩; have hB4 := hB3.trans (hb4.mono hB3.size)) | (go_at_call 8; refine (HA _ hb4).mono ?_; rintro e w5 ⟨v5, rfl, ho5, hb5⟩; obtain ⟨a5, c5, hv5⟩ := own_sh ho5; subst hv5; have hB5 := hB4.trans (hb5.mono hB4.size)))
  go_ret
  exact ⟨by simp, hB5⟩
theorem silent_walk (n : Int) (w : World) (hH : V.Forms w ∧ Cnts w) : Calls Tryd.prog 3 #[.int .i64 n] w fun e w' => e = .returned (.bool true) ∧ Below w.heap.size w w' := by
  cases h : Cx.winB n with
  | true => exact silent_yes n w hH.1 hH.2 h
  | false => exact silent_no n w h (by have : ¬ (1 ≤ n ∧ n ≤ 1000) := of_decide_eq_false h; omega)
end Go.Proofs.YtoabfilliiopmaaDoor
