/- The walk of the law PacketBack. -/
import Derived.Test.YtjpdembofiadbaaDoorQP
namespace Go.Proofs.YtjpdembofiadbaaDoor
open Go.RowKit Go.Lib Go.Sort
set_option linter.unusedVariables false
set_option linter.unusedSimpArgs false
set_option linter.unusedSimpArgs false


theorem fact_bytes : pkS 5 4 pingF = { data := #[1, 5, 1] } := by
  unfold pkS pkN
  rw [ping_fsS, show U.need 5 4 = 1 from ping_need 5]
  rfl
theorem fact_print (w : World) (hH : V.Forms w ∧ Cnts w) : Calls Tryd.prog 7 #[.int .i64 5, .int .i64 4, .slice (some ⟨w.heap.size, 0, none⟩) 1 1] (w.alloc (.cells #[.int .i64 1, .slice none 0 0, .string { data := #[] }] 38)) fun e w' => e = .returned (.tuple #[.string { data := #[1, 5, 1] }, .nilIface]) ∧ Below (w.alloc (.cells #[.int .i64 1, .slice none 0 0, .string { data := #[] }] 38)).heap.size (w.alloc (.cells #[.int .i64 1, .slice none 0 0, .string { data := #[] }] 38)) w' := by
  have bel : Below w.heap.size w (w.alloc (.cells #[.int .i64 1, .slice none 0 0, .string { data := #[] }] 38)) := (Below.refl _ w).alloc (Nat.le_refl _) _
  have HP := pkt_print_ok 5 4 _ pingF _ (hH.1.below bel) (hH.2.below bel) (lit_row w) (ping_pk (n := 5) (by decide))
  rw [fact_bytes] at HP
  exact HP
set_option maxRecDepth 100000 in
set_option maxHeartbeats 4000000 in
theorem back_no (n k more : Int) (v : Value) (l : List F) (w : World) (hH : V.Forms w ∧ Cnts w) (hR : FRow w v l) (h : pkF n k l ≠ 0) : Calls Tryd.prog 4 #[.int .i64 n, .int .i64 k, v, .int .i64 more] w fun e w' => e = .returned (.bool true) ∧ Below w.heap.size w w' := by
  have bel : Below w.heap.size w (w.alloc (.cells #[.int .i64 1, .slice none 0 0, .string { data := #[] }] 38)) := (Below.refl _ w).alloc (Nat.le_refl _) _
  have HF := fact_print w hH
  have HP := fun W (hb : Below w.heap.size w W) => pkt_print_no n k v l W (hH.1.below hb) (hH.2.below hb) (hR.below hb) h
  rw [show errV (pkF n k l) = .iface 48 (.int .i64 (pkF n k l)) by simp [errV, h]] at HP
  obtain ⟨ao, c, rfl⟩ := hR.shape
  clear hH hR h
  generalize pkF n k l = f at *
  generalize l.length = m at *
  go_enter Tryd.func4, Tryd.ntmps4
  go_wp2_with fail
  refine HF.mono ?_
  rintro e w1 ⟨rfl, hb1⟩
  have hB1 := bel.trans (hb1.mono bel.size)
  clear HF bel hb1
  go_wp2_with fail
  refine (HP _ hB1).mono ?_
  rintro e w2 ⟨rfl, hb2⟩
  have hB2 := hB1.trans (hb2.mono hB1.size)
  clear HP hb2 hB1
  go_wp2_with fail
  go_ret
  exact ⟨rfl, hB2⟩

set_option maxRecDepth 100000 in
set_option maxHeartbeats 4000000 in
theorem back_lo (n k more : Int) (v : Value) (l : List F) (w : World) (hH : V.Forms w ∧ Cnts w) (hR : FRow w v l) (h : pkF n k l = 0) (h1 : more < k) : Calls Tryd.prog 4 #[.int .i64 n, .int .i64 k, v, .int .i64 more] w fun e w' => e = .returned (.bool true) ∧ Below w.heap.size w w' := by
  have bel : Below w.heap.size w (w.alloc (.cells #[.int .i64 1, .slice none 0 0, .string { data := #[] }] 38)) := (Below.refl _ w).alloc (Nat.le_refl _) _
  have HF := fact_print w hH
  have HP := fun W (hb : Below w.heap.size w W) => pkt_print_ok n k v l W (hH.1.below hb) (hH.2.below hb) (hR.below hb) h
  obtain ⟨ao, c, rfl⟩ := hR.shape
  clear hH hR h
  generalize pkS n k l = sp at *
  generalize l.length = m at *
  go_enter Tryd.func4, Tryd.ntmps4
  go_wp2_with fail
  refine HF.mono ?_
  rintro e w1 ⟨rfl, hb1⟩
  have hB1 := bel.trans (hb1.mono bel.size)
  clear HF bel hb1
  go_wp2_with fail
  refine (HP _ hB1).mono ?_
  rintro e w2 ⟨rfl, hb2⟩
  have hB2 := hB1.trans (hb2.mono hB1.size)
  clear HP hb2 hB1
  go_wp2_with fail
  go_ret
  exact ⟨rfl, hB2⟩

set_option maxRecDepth 100000 in
set_option maxHeartbeats 4000000 in
theorem back_hi (n k more : Int) (v : Value) (l : List F) (w : World) (hH : V.Forms w ∧ Cnts w) (hR : FRow w v l) (h : pkF n k l = 0) (h1 : k ≤ more) (h2 : n ≤ more) : Calls Tryd.prog 4 #[.int .i64 n, .int .i64 k, v, .int .i64 more] w fun e w' => e = .returned (.bool true) ∧ Below w.heap.size w w' := by
  have bel : Below w.heap.size w (w.alloc (.cells #[.int .i64 1, .slice none 0 0, .string { data := #[] }] 38)) := (Below.refl _ w).alloc (Nat.le_refl _) _
  have HF := fact_print w hH
  have HP := fun W (hb : Below w.heap.size w W) => pkt_print_ok n k v l W (hH.1.below hb) (hH.2.below hb) (hR.below hb) h
  obtain ⟨ao, c, rfl⟩ := hR.shape
  clear hH hR h
  generalize pkS n k l = sp at *
  generalize l.length = m at *
  have g1 : ¬ more < k := by omega
  go_enter Tryd.func4, Tryd.ntmps4
  go_wp2_with fail
  refine HF.mono ?_
  rintro e w1 ⟨rfl, hb1⟩
  have hB1 := bel.trans (hb1.mono bel.size)
  clear HF bel hb1
  go_wp2_with fail
  refine (HP _ hB1).mono ?_
  rintro e w2 ⟨rfl, hb2⟩
  have hB2 := hB1.trans (hb2.mono hB1.size)
  clear HP hb2 hB1
  go_wp2_with fail
  go_ret
  exact ⟨rfl, hB2⟩

set_option maxRecDepth 100000 in
set_option maxHeartbeats 4000000 in
theorem back_yes (n k more : Int) (v : Value) (l : List F) (w : World) (hH : V.Forms w ∧ Cnts w) (hR : FRow w v l) (h : pkF n k l = 0) (h1 : k ≤ more) (h2 : more < n) : Calls Tryd.prog 4 #[.int .i64 n, .int .i64 k, v, .int .i64 more] w fun e w' => e = .returned (.bool true) ∧ Below w.heap.size w w' := by
  have bel : Below w.heap.size w (w.alloc (.cells #[.int .i64 1, .slice none 0 0, .string { data := #[] }] 38)) := (Below.refl _ w).alloc (Nat.le_refl _) _
  have HF := fact_print w hH
  have HP := fun W (hb : Below w.heap.size w W) => pkt_print_ok n k v l W (hH.1.below hb) (hH.2.below hb) (hR.below hb) h
  have hpk := pkF_ok h
  have hsz := hpk.2.2.2.2
  have hpr := U.pairB_yes hpk.1
  have hrd := rdP_back h h1 h2
  have hmm : U.mayB (more + 1) = true := (U.mayB_iff _).2 (by omega)
  have HX := fun W (hb : Below w.heap.size w W) => pkt_parse_yes (pkS n k l) (more + 1) W (hH.1.below hb) (hH.2.below hb) hmm hsz n l hrd
  have hl12 : l.length ≤ 12 := hpk.2.2.1
  have HS := fun W v' (hb : Below w.heap.size w W) (h' : FRow W v' l) => sameFs_calls v' v l W h' (hR.below hb)
  obtain ⟨ao, c, rfl⟩ := hR.shape
  clear hH hR h hpk hrd hmm
  generalize pkS n k l = sp at *
  have g1 : ¬ more < k := by omega
  have g2 : ¬ n ≤ more := by omega
  have g3 : (sp.size : Int) ≤ 200 := by omega
  have b0 : -1 ≤ more := by omega
  have b1 : more ≤ 1073741823 := by omega
  clear hpr hsz
  go_enter Tryd.func4, Tryd.ntmps4
  go_wp2_with fail
  refine HF.mono ?_
  rintro e w1 ⟨rfl, hb1⟩
  have hB1 := bel.trans (hb1.mono bel.size)
  clear HF bel hb1
  go_wp2_with fail
  refine (HP _ hB1).mono ?_
  rintro e w2 ⟨rfl, hb2⟩
  have hB2 := hB1.trans (hb2.mono hB1.size)
  clear HP hb2 hB1
  go_wp2_with fail
  refine (HX _ hB2).mono ?_
  rintro e w3 ⟨v3, us, rfl, ho, hb3⟩
  have hB3 := hB2.trans (hb3.mono hB2.size)
  have HS3 := HS w3 v3 hB3 (ho.row (by omega))
  obtain ⟨a3, c3, hv3⟩ := own_shape ho.own
  subst hv3
  clear HX hb3 hB2 ho HS hl12
  generalize l.length = m at *
  go_wp2_with (first | (go_at_call 11; refine HS3.mono ?_; rintro e w4 ⟨rfl, hb4⟩; have hB4 := hB3.trans (hb4.mono hB3.size)))
  go_ret
  exact ⟨by simp [g3], hB4⟩

theorem back_walk (n k more : Int) {v : Value} {l : List F} {w : World} (hR : FRow w v l) (hH : V.Forms w ∧ Cnts w) : Calls Tryd.prog 4 #[.int .i64 n, .int .i64 k, v, .int .i64 more] w fun e w' => e = .returned (.bool true) ∧ Below w.heap.size w w' := by
  by_cases h : pkF n k l = 0
  · by_cases h1 : more < k
    · exact back_lo n k more v l w hH hR h h1
    · by_cases h2 : n ≤ more
      · exact back_hi n k more v l w hH hR h (by omega) h2
      · exact back_yes n k more v l w hH hR h (by omega) (by omega)
  · exact back_no n k more v l w hH hR h
end Go.Proofs.YtjpdembofiadbaaDoor
