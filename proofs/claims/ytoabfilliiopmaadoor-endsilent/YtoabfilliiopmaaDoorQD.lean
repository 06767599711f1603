/- What printFrames and Print answer. -/
import Derived.Test.YtoabfilliiopmaaDoorQC
import Derived.Lib.AppendStr
namespace Go.Proofs.YtoabfilliiopmaaDoor
open Go.RowKit Go.Lib Go.Sort
set_option linter.unusedVariables false
set_option linter.unusedSimpArgs false


theorem strCells_ba (a b : ByteArray) : strCells (a ++ b) = strCells a ++ strCells b := by
  have e : a ++ b = strOfNums (V.ints a ++ V.ints b) := by rw [← V.ints_app]; exact (V.str_ints (a ++ b)).symm
  have ea : strOfNums (V.ints a) = a := V.str_ints a
  have eb : strOfNums (V.ints b) = b := V.str_ints b
  rw [e, V.strCells_app, ea, eb]
/-- What is wrong with a packet's frames. -/
def pfF (l : List F) : Int := if l.length = 0 then 5 else if 12 < l.length then 4 else fsF l
set_option maxRecDepth 100000 in
set_option maxHeartbeats 4000000 in
theorem pfr_none (ao : Option Addr) (c : Nat) (w : World) : Calls Tryd.prog 25 #[.slice ao 0 c] w fun e w' => e = .returned (.tuple #[.string { data := #[] }, .iface 53 (.int .i64 5)]) ∧ Below w.heap.size w w' := by
  go_enter Tryd.func25, Tryd.ntmps25
  go_wp2_with fail
  go_ret2
  exact ⟨rfl, Below.refl _ _⟩
set_option maxRecDepth 100000 in
set_option maxHeartbeats 4000000 in
theorem pfr_many (ao : Option Addr) (m c : Nat) (w : World) (h : 12 < m) (hl : m ≤ 9223372036854775807) : Calls Tryd.prog 25 #[.slice ao m c] w fun e w' => e = .returned (.tuple #[.string { data := #[] }, .iface 53 (.int .i64 4)]) ∧ Below w.heap.size w w' := by
  have h0 : ¬ (m : Int) = 0 := by omega
  have h1 : (12 : Int) < (m : Int) := by omega
  go_enter Tryd.func25, Tryd.ntmps25
  go_wp2_with fail
  go_ret2
  exact ⟨rfl, Below.refl _ _⟩
set_option maxRecDepth 100000 in
set_option maxHeartbeats 4000000 in
theorem pfr_some (b off len c : Nat) (l : List F) (w : World) (hF : V.Forms w) (hC : Cnts w) (hlen : l.length = len) (h0 : 1 ≤ len) (h12 : len ≤ 12) (hb : b < w.heap.size) (hc : FCells w b off l) :
    Calls Tryd.prog 25 #[.slice (some ⟨b, off, none⟩) len c] w fun e w' => ((fsF l = 0 ∧ e = .returned (.tuple #[.string (fsS l), .nilIface])) ∨ (fsF l ≠ 0 ∧ e = .returned (.tuple #[.string { data := #[] }, errV (fsF l)]))) ∧ Below w.heap.size w w' := by
  obtain ⟨i0, hi, hz0, hz1, hz2⟩ := info_parts V.info5
  have g0 : ¬ (len : Int) = 0 := by omega
  have g12 : ¬ (12 : Int) < (len : Int) := by omega
  have HL : Hid (l.length = len) := hlen
  have HC : Hid (FCells w b off l) := hc
  have HV : Hid (V.Forms w ∧ Cnts w) := ⟨hF, hC⟩
  clear hlen hc hF hC
  go_enter Tryd.func25, Tryd.ntmps25
  go_wp2_with fail
  go_loopw [4, 21] (fun t i wr => ∃ k : Nat, k ≤ len ∧ i = .int .i64 k ∧ wr.ownsRow w.heap.size 5 1 t (fsS (l.take k)).size (strCells (fsS (l.take k))) ∧ Hid (∀ j, j < k → fF (fat l j) = 0) ∧ Below w.heap.size w wr) (fun _ i _ => len - (intOf i).toNat)
  case atStart => exact ⟨0, Nat.zero_le _, rfl, World.ownsRow_nil _ _ _ _, (fun j hj => absurd hj (Nat.not_lt_zero _)), Below.refl _ _⟩
  case round =>
    obtain ⟨k, hk, rfl, hown, hall, hB⟩ := hrel
    by_cases hlt : k < len
    · have hkl : k < l.length := by have := HL.out; omega
      obtain ⟨u, x0, x1, x2, r, hd⟩ := HC.out.below hb hB k hkl
      have g1 : (k : Int) < (len : Int) := by omega
      have hsz1 : (fsS (l.take k)).size ≤ 1452 := by
        have hh : ∀ j, j < (l.take k).length → fF (fat (l.take k) j) = 0 := fun j hj => by
          rw [List.length_take] at hj
          have := hall.out j (by omega)
          rwa [show fat (l.take k) j = fat l j by simp [fat, List.getElem?_take, show j < k by omega]]
        have := fsS_size hh (l.take k).length (Nat.le_refl _)
        rw [List.take_length, List.length_take] at this
        omega
      have HN : Hid (fsS (l.take (k + 1)) = fsS (l.take k) ++ fS (fat l k)) := fsS_next hkl
      have HAT : Hid (fF (fat l k) ≠ 0 → fsF l = fF (fat l k)) := fun hn => fsF_at l k hkl hall.out hn
      have HAL : Hid (fF (fat l k) = 0 → ∀ j, j < k + 1 → fF (fat l j) = 0) := fun he j hj => by
        by_cases e : j = k
        · rw [e]; exact he
        · exact hall.out j (by omega)
      have hV1 : V.Forms wr ∧ Cnts wr := ⟨HV.out.1.below hB, HV.out.2.below hB⟩
      clear hkl hall
      generalize fat l k = f at *
      obtain ⟨kk, ns, d⟩ := f
      simp only at x0 x1 x2 r hd
      have bel1 : Below wr.heap.size wr (wr.alloc (.cells #[.int .i64 kk, u, .string d] 33)) := (Below.refl _ wr).alloc (Nat.le_refl _) _
      have hlb : b < wr.heap.size := Nat.lt_of_lt_of_le hb hB.size
      by_cases hz : fF (kk, ns, d) = 0
      · have HP := frame_print_ok kk u d ns _ (hV1.2.below bel1) (hV1.1.below bel1) (r.below bel1) hz
        have hs2 : (frS kk ns d).size ≤ 121 := frS_size hz
        have HA1 : Hid (∀ j, j < k + 1 → fF (fat l j) = 0) := HAL.out hz
        obtain ⟨au, cu, hu, _⟩ := id r
        subst hu
        have hB1 : Below w.heap.size w (wr.alloc (.cells #[.int .i64 kk, .slice au ns.length cu, .string d] 33)) := hB.alloc hB.size _
        have hown1 := own_below hown bel1
        have HNs : Hid (fsS (l.take (k + 1)) = fsS (l.take k) ++ frS kk ns d) := HN.out
        clear hz HAL HAT HN r hV1 hown
        generalize frS kk ns d = sz at *
        generalize fsS (l.take k) = so at *
        generalize ns.length = nn at *
        go_wp2_with fail
        refine HP.mono ?_
        rintro e w1 ⟨rfl, hb1⟩
        have hB2 := hB1.trans (hb1.mono hB1.size)
        have hown2 := own_below hown1 hb1
        have hbs := hB2.size
        clear HP hown1 hB1
        go_wp2_with (at_builtin; refine wpList_append_own_string _ rfl _ _ 86 9 rfl w.heap.size 5 i0 Tryd.underlying86 Tryd.underlying9 hi hz0 hz1 hz2 _ _ _ rfl hown2 _ rfl (by unfold maxLen; omega) (by omega) hbs ?_; intro v' w2 hown3 hg2 _)
        have hg3 : w1.grownBy w2 u4.ownBlock := hg2
        have hB3 : Below w.heap.size w w2 := hB2.grown hg3 hbs (fun j e => (hown2.lt j e).1)
        exact ⟨⟨k + 1, by omega, by go_num, by rw [HNs.out, strCells_ba, ByteArray.size_append]; exact hown3, HA1, hB3⟩, by simp [intOf]; omega⟩
      · have HP := frame_print_no kk u d ns _ (hV1.2.below bel1) (r.below bel1) hd hz
        have HE : Hid (fsF l = fF (kk, ns, d)) := HAT.out hz
        have HZ : Hid (fF (kk, ns, d) ≠ 0) := hz
        have hE : errV (frF kk ns d) = .iface 53 (.int .i64 (frF kk ns d)) := by
          have : frF kk ns d ≠ 0 := hz
          simp [errV, this]
        rw [hE] at HP
        have HEV : Hid (errV (fsF l) = .iface 53 (.int .i64 (frF kk ns d))) := by
          show _ = _
          rw [HE.out]; exact hE
        obtain ⟨au, cu, hu, _⟩ := id r
        subst hu
        have hB1 : Below w.heap.size w (wr.alloc (.cells #[.int .i64 kk, .slice au ns.length cu, .string d] 33)) := hB.alloc hB.size _
        clear hz HAL HAT HN r hV1 hown hE
        generalize frF kk ns d = ff at HP HEV
        generalize ns.length = nn at *
        go_wp2_with fail
        refine HP.mono ?_
        rintro e w1 ⟨rfl, hb1⟩
        have hB2 := hB1.trans (hb1.mono hB1.size)
        go_wp2_with fail
        go_ret2
        exact ⟨.inr ⟨by rw [HE.out]; exact HZ.out, by rw [HEV.out]; rfl⟩, hB2⟩
    · obtain rfl : k = len := by omega
      have hcv := V.own_string hown
      have e1 : l.take k = l := List.take_of_length_le (by have := HL.out; omega)
      rw [e1] at hcv
      have HZ : Hid (fsF l = 0) := fsF_ok l (fun j hj => hall.out j (by have := HL.out; omega))
      clear hown e1
      go_wp2_with fail
      go_ret2
      exact ⟨.inl ⟨HZ.out, rfl⟩, hB⟩
theorem pfr_yes (v : Value) (l : List F) (w : World) (hF : V.Forms w) (hC : Cnts w) (hR : FRow w v l) (h : pfF l = 0) : Calls Tryd.prog 25 #[v] w fun e w' => e = .returned (.tuple #[.string (fsS l), .nilIface]) ∧ Below w.heap.size w w' := by
  unfold pfF at h
  obtain ⟨ao, c, rfl, hl, hn, hz⟩ := hR
  split at h
  · cases h
  · rename_i h0
    split at h
    · cases h
    · rename_i h1
      rcases hz with e | ⟨b, off, rfl, hb, hc⟩
      · rw [e] at h0; exact absurd rfl h0
      · refine (pfr_some b off _ c l w hF hC rfl (by omega) (by omega) hb hc).mono ?_
        rintro e w' ⟨⟨_, rfl⟩ | ⟨hh, _⟩, hb⟩
        · exact ⟨rfl, hb⟩
        · exact absurd h hh
theorem pfr_no (v : Value) (l : List F) (w : World) (hF : V.Forms w) (hC : Cnts w) (hR : FRow w v l) (h : pfF l ≠ 0) : Calls Tryd.prog 25 #[v] w fun e w' => e = .returned (.tuple #[.string { data := #[] }, errV (pfF l)]) ∧ Below w.heap.size w w' := by
  obtain ⟨ao, c, rfl, hl, hn, hz⟩ := hR
  by_cases h0 : l.length = 0
  · rw [show pfF l = 5 by simp only [pfF, if_pos h0], h0]
    exact pfr_none ao c w
  · by_cases h1 : 12 < l.length
    · rw [show pfF l = 4 by simp only [pfF, if_neg h0, if_pos h1]]
      exact pfr_many ao _ c w h1 hl
    · rw [show pfF l = fsF l by simp only [pfF, if_neg h0, if_neg h1]] at h ⊢
      rcases hz with e | ⟨b, off, rfl, hb, hc⟩
      · rw [e] at h0; exact absurd rfl h0
      · refine (pfr_some b off _ c l w hF hC rfl (by omega) (by omega) hb hc).mono ?_
        rintro e w' ⟨⟨hh, _⟩ | ⟨_, rfl⟩, hb⟩
        · exact absurd hh h
        · exact ⟨rfl, hb⟩
theorem pkF_eq (n k : Int) (l : List F) (h : U.pairB n k = true) : pkF n k l = if pfF l ≠ 0 then pfF l else if 200 < (pkS n k l).size then 4 else 0 := by
  unfold pkF pfF
  rw [if_neg (by rw [h]; decide)]
  by_cases h0 : l.length = 0
  · simp [h0]
  · by_cases h1 : 12 < l.length
    · simp [h0, h1]
    · simp only [if_neg h0, if_neg h1]
theorem pfF_all {l : List F} (h : pfF l = 0) : fsF l = 0 ∧ 1 ≤ l.length ∧ l.length ≤ 12 := by
  unfold pfF at h
  split at h
  · cases h
  · split at h
    · cases h
    · exact ⟨h, by omega, by omega⟩
theorem pk_sizes {n k : Int} {l : List F} (h : pfF l = 0) : (pkN n k).size ≤ 5 ∧ (fsS l).size ≤ 1452 := by
  constructor
  · rw [← ints_length, ints_pkN, List.length_cons]
    have := numB_length (n := n) (U.need_len n k)
    have := U.lenB_yes (U.need_len n k)
    omega
  · obtain ⟨h1, h2, h3⟩ := pfF_all h
    have := fsS_size (fsF_all l h1) l.length (Nat.le_refl _)
    rw [List.take_length] at this
    omega
set_option maxRecDepth 100000 in
set_option maxHeartbeats 4000000 in
theorem pkt_print_a (n k : Int) (ao : Option Addr) (m c : Nat) (w : World) (h : U.pairB n k = false) :
    Calls Tryd.prog 14 #[.int .i64 n, .int .i64 k, .slice ao m c] w fun e w' => e = .returned (.tuple #[.string { data := #[] }, .iface 53 (.int .i64 1)]) ∧ Below w.heap.size w w' := by
  have HN := printNum_no n k w h
  rw [errV1] at HN
  clear h
  go_enter Tryd.func14, Tryd.ntmps14
  go_wp2_with (first | (go_at_call 24; refine HN.mono ?_; rintro e w1 ⟨rfl, hb1⟩))
  go_ret2
  exact ⟨rfl, hb1⟩
set_option maxRecDepth 100000 in
set_option maxHeartbeats 4000000 in
theorem pkt_print_b (n k : Int) (v : Value) (l : List F) (w : World) (hF : V.Forms w) (hC : Cnts w) (hR : FRow w v l) (h : U.pairB n k = true) (h1 : pfF l ≠ 0) :
    Calls Tryd.prog 14 #[.int .i64 n, .int .i64 k, v] w fun e w' => e = .returned (.tuple #[.string { data := #[] }, errV (pfF l)]) ∧ Below w.heap.size w w' := by
  have HN := printNum_yes n k w h
  have HP := fun W (hb : Below w.heap.size w W) => pfr_no v l W (hF.below hb) (hC.below hb) (hR.below hb) h1
  rw [show errV (pfF l) = .iface 53 (.int .i64 (pfF l)) by simp [errV, h1]] at HP ⊢
  obtain ⟨ao, c, rfl⟩ := hR.shape
  clear h h1 hR hF hC
  generalize pfF l = f at *
  generalize l.length = m at *
  generalize pkN n k = sn at *
  go_enter Tryd.func14, Tryd.ntmps14
  go_wp2_with (first | (go_at_call 24; refine HN.mono ?_; rintro e w1 ⟨rfl, hb1⟩) | (go_at_call 25; refine (HP _ hb1).mono ?_; rintro e w2 ⟨rfl, hb2⟩; have hB2 := hb1.trans (hb2.mono hb1.size)))
  go_ret2
  exact ⟨rfl, hB2⟩
set_option maxRecDepth 100000 in
set_option maxHeartbeats 4000000 in
theorem pkt_print_c (n k : Int) (v : Value) (l : List F) (w : World) (hF : V.Forms w) (hC : Cnts w) (hR : FRow w v l) (h : U.pairB n k = true) (h1 : pfF l = 0) (h2 : 200 < (pkS n k l).size) :
    Calls Tryd.prog 14 #[.int .i64 n, .int .i64 k, v] w fun e w' => e = .returned (.tuple #[.string { data := #[] }, .iface 53 (.int .i64 4)]) ∧ Below w.heap.size w w' := by
  have HN := printNum_yes n k w h
  have HP := fun W (hb : Below w.heap.size w W) => pfr_yes v l W (hF.below hb) (hC.below hb) (hR.below hb) h1
  obtain ⟨ao, c, rfl⟩ := hR.shape
  have hsz := pk_sizes (n := n) (k := k) h1
  unfold pkS at *
  rw [ByteArray.size_append] at h2
  clear h h1 hR hF hC
  generalize l.length = m at *
  generalize pkN n k = sn at *
  generalize fsS l = sf at *
  have ht : (200 : Int) < (sn.size : Int) + (sf.size : Int) := by omega
  have ha : sn.size + sf.size ≤ 9223372036854775807 := by omega
  have hs1 : (sn.size : Int) ≤ 5 := by omega
  have hs2 : (sf.size : Int) ≤ 1452 := by omega
  clear h2
  go_enter Tryd.func14, Tryd.ntmps14
  go_wp2_with (first | (go_at_call 24; refine HN.mono ?_; rintro e w1 ⟨rfl, hb1⟩) | (go_at_call 25; refine (HP _ hb1).mono ?_; rintro e w2 ⟨rfl, hb2⟩; have hB2 := hb1.trans (hb2.mono hb1.size)))
  go_ret2
  exact ⟨rfl, hB2⟩
set_option maxRecDepth 100000 in
set_option maxHeartbeats 4000000 in
theorem pkt_print_d (n k : Int) (v : Value) (l : List F) (w : World) (hF : V.Forms w) (hC : Cnts w) (hR : FRow w v l) (h : U.pairB n k = true) (h1 : pfF l = 0) (h2 : (pkS n k l).size ≤ 200) :
    Calls Tryd.prog 14 #[.int .i64 n, .int .i64 k, v] w fun e w' => e = .returned (.tuple #[.string (pkS n k l), .nilIface]) ∧ Below w.heap.size w w' := by
  have HN := printNum_yes n k w h
  have HP := fun W (hb : Below w.heap.size w W) => pfr_yes v l W (hF.below hb) (hC.below hb) (hR.below hb) h1
  obtain ⟨ao, c, rfl⟩ := hR.shape
  have hsz := pk_sizes (n := n) (k := k) h1
  unfold pkS at *
  rw [ByteArray.size_append] at h2
  clear h h1 hR hF hC
  generalize l.length = m at *
  generalize pkN n k = sn at *
  generalize fsS l = sf at *
  have ht : ¬ (200 : Int) < (sn.size : Int) + (sf.size : Int) := by omega
  have ha : sn.size + sf.size ≤ 9223372036854775807 := by omega
  have hs1 : (sn.size : Int) ≤ 5 := by omega
  have hs2 : (sf.size : Int) ≤ 1452 := by omega
  clear h2
  go_enter Tryd.func14, Tryd.ntmps14
  go_wp2_with (first | (go_at_call 24; refine HN.mono ?_; rintro e w1 ⟨rfl, hb1⟩) | (go_at_call 25; refine (HP _ hb1).mono ?_; rintro e w2 ⟨rfl, hb2⟩; have hB2 := hb1.trans (hb2.mono hb1.size)))
  go_ret2
  exact ⟨rfl, hB2⟩
theorem pkt_print_no (n k : Int) (v : Value) (l : List F) (w : World) (hF : V.Forms w) (hC : Cnts w) (hR : FRow w v l) (h : pkF n k l ≠ 0) :
    Calls Tryd.prog 14 #[.int .i64 n, .int .i64 k, v] w fun e w' => e = .returned (.tuple #[.string { data := #[] }, errV (pkF n k l)]) ∧ Below w.heap.size w w' := by
  cases h1 : U.pairB n k with
  | false =>
    rw [show pkF n k l = 1 by simp only [pkF, if_pos h1]]
    obtain ⟨ao, c, rfl⟩ := hR.shape
    exact pkt_print_a n k ao _ c w h1
  | true =>
    rw [pkF_eq n k l h1] at h ⊢
    by_cases h2 : pfF l = 0
    · rw [if_neg (by simp [h2])] at h ⊢
      by_cases h3 : 200 < (pkS n k l).size
      · rw [if_pos h3]
        exact pkt_print_c n k v l w hF hC hR h1 h2 h3
      · rw [if_neg h3] at h
        exact absurd rfl h
    · rw [if_pos h2]
      exact pkt_print_b n k v l w hF hC hR h1 h2
theorem pkt_print_ok (n k : Int) (v : Value) (l : List F) (w : World) (hF : V.Forms w) (hC : Cnts w) (hR : FRow w v l) (h : pkF n k l = 0) :
    Calls Tryd.prog 14 #[.int .i64 n, .int .i64 k, v] w fun e w' => e = .returned (.tuple #[.string (pkS n k l), .nilIface]) ∧ Below w.heap.size w w' := by
  obtain ⟨h1, h2, h3, h4, h5⟩ := pkF_ok h
  exact pkt_print_d n k v l w hF hC hR h1 (by unfold pfF; rw [if_neg (by omega), if_neg (by omega)]; exact h4) h5
end Go.Proofs.YtoabfilliiopmaaDoor
