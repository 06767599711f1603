/- What printNums and Print answer. -/
import Derived.Test.YtoabfilliiopmaaDoorFD
namespace Go.Proofs.YtoabfilliiopmaaDoor
open Go.RowKit Go.Lib Go.Sort
set_option linter.unusedVariables false
set_option linter.unusedSimpArgs false


theorem all_row (v : Value) (ns : List Int) (w : World) (hF : V.Forms w) (hR : IRow w v ns) (hl : ns.length ≤ 40) (hm : Mays ns) :
    Calls Tryd.prog 54 #[v] w fun e w' => e = .returned (.tuple #[.string (strOfNums (ns.flatMap V.nums)), .nilIface]) ∧ Below w.heap.size w w' := by
  obtain ⟨ao, c, rfl, _, _, hz⟩ := hR
  rcases hz with h | ⟨b, off, rfl, hb, hC⟩
  · subst h
    exact V.all_none ao c w
  · refine (V.all_some b off ns.length c ns w hF rfl hl hb hC).mono ?_
    rintro e w' ⟨⟨_, rfl⟩ | ⟨ha, _⟩, hb⟩
    · exact ⟨rfl, hb⟩
    · rw [mays_all hm] at ha; cases ha

set_option maxRecDepth 100000 in
set_option maxHeartbeats 4000000 in
theorem pn_2 (ao : Option Addr) (n c M : Nat) (d : ByteArray) (ns : List Int) (w : World) (hF : V.Forms w) (hR0 : IRow w (.slice ao n c) ns) (hn : ns.length = n) (hM : n = 2 * M) (hM1 : 1 ≤ M) (hM12 : M ≤ 12) (hg : Good (rgs ns)) (hne : rgs ns ≠ []) :
    Calls Tryd.prog 44 #[.agg #[.int .i64 2, .slice ao n c, .string d]] w fun e w' => e = .returned (.tuple #[.string (strOfNums (enc (rgs ns))), .nilIface]) ∧ Below w.heap.size w w' := by
  have bel : Below w.heap.size w (w.alloc (.cells #[.int .i64 2, .slice ao n c, .string d] 33)) := (Below.refl _ w).alloc (Nat.le_refl _) _
  have HR := rangesOf_calls (.slice ao n c) ns M (w.alloc (.cells #[.int .i64 2, .slice ao n c, .string d] 33)) (hR0.below bel) (by omega) hM1 hM12
  have HP := fun W v (h1 : V.Forms W) (h2 : Row W v (rgs ns)) (h3 : Fits v) => print_ok v (rgs ns) W h1 h2 h3 hg hne
  have hF1 := hF.below bel
  clear hM hn hR0 hg hne hF
  generalize strOfNums (enc (rgs ns)) = se at *
  go_enter Tryd.func44, Tryd.ntmps44
  go_wp2_with (first | (go_at_call 52; refine HR.mono ?_; rintro e w3 ⟨v3, rfl, hR3, hf3, hb3⟩; have hB3 := bel.trans (hb3.mono bel.size); have HX := HP _ _ (hF1.below hb3) hR3 hf3; obtain ⟨a3, c3, hv3, _⟩ := id hR3; subst hv3) | (go_at_call 53; refine HX.mono ?_; rintro e w4 ⟨rfl, hb4⟩; have hB4 := hB3.trans (hb4.mono hB3.size)))
  go_ret2
  exact ⟨rfl, hB4⟩

set_option maxRecDepth 100000 in
set_option maxHeartbeats 4000000 in
theorem pn_3 (b off c : Nat) (z : Int) (d : ByteArray) (w : World) (hF : V.Forms w) (hb : b < w.heap.size) (hc : w.cell? ⟨b, off, none⟩ = some (.int .i64 z)) (hz : 0 ≤ z ∧ z < 1073741824) (hd : d.size ≤ 20) :
    Calls Tryd.prog 44 #[.agg #[.int .i64 3, .slice (some ⟨b, off, none⟩) 1 c, .string d]] w fun e w' => e = .returned (.tuple #[.string (strOfNums (([z] ++ [(d.size : Int)]).flatMap V.nums)), .nilIface]) ∧ Below w.heap.size w w' := by
  have bel : Below w.heap.size w (w.alloc (.cells #[.int .i64 3, .slice (some ⟨b, off, none⟩) 1 c, .string d] 33)) := (Below.refl _ w).alloc (Nat.le_refl _) _
  have hlt : w.heap.size < (w.alloc (.cells #[.int .i64 3, .slice (some ⟨b, off, none⟩) 1 c, .string d] 33)).heap.size := by simp
  have p1 : (w.alloc (.cells #[.int .i64 3, .slice (some ⟨b, off, none⟩) 1 c, .string d] 33)).cell? ⟨w.heap.size, 1, none⟩ = some (.slice (some ⟨b, off, none⟩) 1 c) := by simp
  have p2 : (w.alloc (.cells #[.int .i64 3, .slice (some ⟨b, off, none⟩) 1 c, .string d] 33)).cell? ⟨w.heap.size, 2, none⟩ = some (.string d) := by simp
  have p0 : (w.alloc (.cells #[.int .i64 3, .slice (some ⟨b, off, none⟩) 1 c, .string d] 33)).cell? ⟨w.heap.size, 0, none⟩ = some (.int .i64 3) := by simp
  have pc := (bel.cell (p := ⟨b, off, none⟩) hb).trans hc
  have hF1 := hF.below bel
  have hb1 : b < (w.alloc (.cells #[.int .i64 3, .slice (some ⟨b, off, none⟩) 1 c, .string d] 33)).heap.size := by simp; omega
  have HA : ∀ W : World, V.Forms W → Calls Tryd.prog 54 #[.slice (some ⟨W.heap.size, 0, none⟩) 2 2] (W.alloc (.cells #[.int .i64 z, .int .i64 (d.size : Int)] 3)) fun e w' => e = .returned (.tuple #[.string (strOfNums (([z] ++ [(d.size : Int)]).flatMap V.nums)), .nilIface]) ∧ Below W.heap.size W w' := by
    intro W hW
    have bl : Below W.heap.size W (W.alloc (.cells #[.int .i64 z, .int .i64 (d.size : Int)] 3)) := (Below.refl _ W).alloc (Nat.le_refl _) _
    have ow : OwnI (W.alloc (.cells #[.int .i64 z, .int .i64 (d.size : Int)] 3)) W.heap.size (.slice (some ⟨W.heap.size, 0, none⟩) 2 2) [z, (d.size : Int)] := World.ownsRow_lit (base := W.heap.size) (e := 3) (size := 1) W #[.int .i64 z, .int .i64 (d.size : Int)] 2 (Nat.le_refl _) (by decide) rfl
    refine (all_own _ _ _ _ (hW.below bl) ow (by simp) (by simp) (fun y hy => by simp at hy; rcases hy with rfl | rfl <;> omega)).mono ?_
    rintro e w' ⟨rfl, hb⟩
    exact ⟨rfl, bl.trans (hb.mono bl.size)⟩
  have S0 : Hid (V.Forms (w.alloc (.cells #[.int .i64 3, .slice (some ⟨b, off, none⟩) 1 c, .string d] 33))) := hF1
  clear hF hc hF1
  generalize strOfNums (([z] ++ [(d.size : Int)]).flatMap V.nums) = se at *
  go_enter Tryd.func44, Tryd.ntmps44
  go_wp2_with fail
  generalize w.alloc (.cells #[.int .i64 3, .slice (some ⟨b, off, none⟩) 1 c, .string d] 33) = W1 at *
  have HFd : Hid (V.Forms W1.drew) := S0.out.below (Below.refl _ W1).drew
  have hbd : Below w.heap.size w W1.drew := bel.drew
  have hlt' : w.heap.size < W1.drew.heap.size := hlt
  have hb1' : b < W1.drew.heap.size := hb1
  have d1 : W1.drew.cell? ⟨w.heap.size, 1, none⟩ = some (.slice (some ⟨b, off, none⟩) 1 c) := p1
  have d2 : W1.drew.cell? ⟨w.heap.size, 2, none⟩ = some (.string d) := p2
  have dc : W1.drew.cell? ⟨b, off, none⟩ = some (.int .i64 z) := pc
  clear p0 S0
  go_region_held3 (fun X => X.cell? ⟨w.heap.size, 1, none⟩ = some (.slice (some ⟨b, off, none⟩) 1 c) ∧ X.cell? ⟨w.heap.size, 2, none⟩ = some (.string d) ∧ X.cell? ⟨b, off, none⟩ = some (.int .i64 z)) (go_keep) (first | (go_at_call 54; refine (HA _ HFd.out).mono ?_; rintro e w4 ⟨rfl, hb4⟩; have r1 := (hb4.cell (p := ⟨w.heap.size, 1, none⟩) hlt').trans d1; have r2 := (hb4.cell (p := ⟨w.heap.size, 2, none⟩) hlt').trans d2; have r3 := (hb4.cell (p := ⟨b, off, none⟩) hb1').trans dc; have hB4 := hbd.trans (hb4.mono hbd.size)))
  go_wp2_with fail
  go_ret2
  exact ⟨rfl, hB4⟩


theorem strNil : strOfNums [] = { data := #[] } := rfl
set_option maxRecDepth 100000 in
set_option maxHeartbeats 4000000 in
theorem pn_o (k : Int) (ao : Option Addr) (n c : Nat) (d : ByteArray) (ns : List Int) (w : World) (hF : V.Forms w) (hR0 : IRow w (.slice ao n c) ns) (hn : ns.length ≤ 40) (hm : Mays ns) (h2 : k ≠ 2) (h3 : k ≠ 3) :
    Calls Tryd.prog 44 #[.agg #[.int .i64 k, .slice ao n c, .string d]] w fun e w' => e = .returned (.tuple #[.string (strOfNums (ns.flatMap V.nums)), .nilIface]) ∧ Below w.heap.size w w' := by
  have bel : Below w.heap.size w (w.alloc (.cells #[.int .i64 k, .slice ao n c, .string d] 33)) := (Below.refl _ w).alloc (Nat.le_refl _) _
  have HA := all_row (.slice ao n c) ns (w.alloc (.cells #[.int .i64 k, .slice ao n c, .string d] 33)) (hF.below bel) (hR0.below bel) hn hm
  have hk2 : ¬ k = 2 := h2
  have hk3 : ¬ k = 3 := h3
  clear hF hR0 hn hm
  generalize strOfNums (ns.flatMap V.nums) = se at *
  go_enter Tryd.func44, Tryd.ntmps44
  go_wp2_with (first | (go_at_call 54; refine HA.mono ?_; rintro e w4 ⟨rfl, hb4⟩; have hB4 := bel.trans (hb4.mono bel.size)))
  go_ret2
  exact ⟨rfl, hB4⟩
theorem printNums_calls (k : Int) (v : Value) (d : ByteArray) (ns : List Int) (w : World) (hF : V.Forms w) (hR : IRow w v ns) (h : frF k ns d = 0) :
    Calls Tryd.prog 44 #[.agg #[.int .i64 k, v, .string d]] w fun e w' => e = .returned (.tuple #[.string (strOfNums (mid k ns d)), .nilIface]) ∧ Below w.heap.size w w' := by
  obtain ⟨h1, h2, h3, h4, h5, h6⟩ := frF_ok h
  have hR' := hR
  obtain ⟨ao, c, rfl, hl, hc, hz⟩ := hR
  by_cases e2 : k = 2
  · subst e2
    obtain ⟨M, hM, hM1, hM12⟩ := cntB_ack h2
    rw [show mid 2 ns d = enc (rgs ns) by simp [mid]]
    exact pn_2 ao _ c M d ns w hF hR' rfl hM hM1 hM12 (h6 rfl) (fun e => by have := rgs_length M ns hM; rw [e] at this; simp at this; omega)
  · by_cases e3 : k = 3
    · subst e3
      have hn : ns.length = 1 := by simpa [cntB, cntK] using h2
      match ns, hn, hz, h4, hc with
      | [z], _, hz, h4, hc =>
        rcases hz with e | ⟨b, off, rfl, hb, hC⟩
        · cases e
        · rw [show mid 3 [z] d = ([z] ++ [(d.size : Int)]).flatMap V.nums by simp [mid]]
          have := hC 0 (by simp)
          exact pn_3 b off c z d w hF hb (by simpa using this) (h4 z (by simp)) h5
    · rw [show mid k ns d = ns.flatMap V.nums by simp [mid, e2, e3]]
      have hn : ns.length ≤ 2 := by
        have : ns.length = cntK k := by simpa [cntB, e2] using h2
        rw [this]; unfold cntK; split
        · omega
        · split <;> omega
      exact pn_o k ao _ c d ns w hF hR' (by omega) h4 e2 e3
theorem mid_size {k : Int} {ns : List Int} {d : ByteArray} (h : frF k ns d = 0) : (strOfNums (mid k ns d)).size ≤ 100 := by
  obtain ⟨h1, h2, h3, h4, h5, h6⟩ := frF_ok h
  rw [strOfNums_size]
  unfold mid
  split
  · rename_i e2
    subst e2
    obtain ⟨M, hM, hM1, hM12⟩ := cntB_ack h2
    have hne : rgs ns ≠ [] := fun e => by have := rgs_length M ns hM; rw [e] at this; simp at this; omega
    have := enc_length (h6 rfl) hne
    have := rgs_length M ns hM
    omega
  · rename_i e2
    have hn : ns.length ≤ 2 := by
      have : ns.length = cntK k := by simpa [cntB, e2] using h2
      rw [this]; unfold cntK; split
      · omega
      · split <;> omega
    split
    · have := flat_le (ns ++ [(d.size : Int)])
      rw [List.length_append] at this
      simp at this ⊢
      omega
    · have := flat_le ns
      omega

set_option maxRecDepth 100000 in
set_option maxHeartbeats 4000000 in
theorem frame_print_no (k : Int) (v : Value) (d : ByteArray) (ns : List Int) (w : World) (hC : Cnts w) (hR : IRow w v ns) (hd : d.size ≤ maxLen) (h : frF k ns d ≠ 0) :
    Calls Tryd.prog 37 #[.agg #[.int .i64 k, v, .string d]] w fun e w' => e = .returned (.tuple #[.string { data := #[] }, errV (frF k ns d)]) ∧ Below w.heap.size w w' := by
  have bel : Below w.heap.size w (w.alloc (.cells #[.int .i64 k, v, .string d] 33)) := (Below.refl _ w).alloc (Nat.le_refl _) _
  have HC := frame_check k v d ns _ (hC.below bel) (hR.below bel) hd
  have hE : errV (frF k ns d) = .iface 53 (.int .i64 (frF k ns d)) := by simp [errV, h]
  rw [hE] at HC ⊢
  obtain ⟨ao, c, rfl, _⟩ := hR
  clear hC hd h hE
  generalize frF k ns d = f at *
  generalize ns.length = n at *
  go_enter Tryd.func37, Tryd.ntmps37
  go_wp2_with (first | (go_at_call 43; refine HC.mono ?_; rintro e w1 ⟨rfl, hb1⟩; have hB1 := bel.trans (hb1.mono bel.size)))
  go_ret2
  exact ⟨rfl, hB1⟩

set_option maxRecDepth 100000 in
set_option maxHeartbeats 4000000 in
theorem frame_print_ok (k : Int) (v : Value) (d : ByteArray) (ns : List Int) (w : World) (hC : Cnts w) (hF : V.Forms w) (hR : IRow w v ns) (h : frF k ns d = 0) :
    Calls Tryd.prog 37 #[.agg #[.int .i64 k, v, .string d]] w fun e w' => e = .returned (.tuple #[.string (frS k ns d), .nilIface]) ∧ Below w.heap.size w w' := by
  have hk := (kindB_iff k).1 (frF_ok h).1
  have hd := (frF_ok h).2.2.2.2.1
  have bel : Below w.heap.size w (w.alloc (.cells #[.int .i64 k, v, .string d] 33)) := (Below.refl _ w).alloc (Nat.le_refl _) _
  have hlt : w.heap.size < (w.alloc (.cells #[.int .i64 k, v, .string d] 33)).heap.size := by simp
  have p0 : (w.alloc (.cells #[.int .i64 k, v, .string d] 33)).cell? ⟨w.heap.size, 0, none⟩ = some (.int .i64 k) := by simp
  have p1 : (w.alloc (.cells #[.int .i64 k, v, .string d] 33)).cell? ⟨w.heap.size, 1, none⟩ = some v := by simp
  have p2 : (w.alloc (.cells #[.int .i64 k, v, .string d] 33)).cell? ⟨w.heap.size, 2, none⟩ = some (.string d) := by simp
  have HC := frame_check k v d ns _ (hC.below bel) (hR.below bel) (by unfold maxLen; omega)
  rw [h, show errV 0 = .nilIface from rfl] at HC
  have HP := fun W (hb : Below w.heap.size w W) => printNums_calls k v d ns W (hF.below hb) (hR.below hb) h
  have ms := mid_size h
  have hcv := fun W => V.conv_new [k] W #[.int .u8 k] rfl
  simp only [List.length_cons, List.length_nil, Nat.reduceAdd] at hcv
  have HS : Hid (strOfNums [k] ++ strOfNums (mid k ns d) ++ d = frS k ns d) := rfl
  have s1 : (strOfNums [k]).size = 1 := by rw [strOfNums_size]; rfl
  obtain ⟨ao, c, rfl, _⟩ := hR
  clear hC h hF
  generalize strOfNums (mid k ns d) = sm at *
  generalize hs1 : strOfNums [k] = sk at *
  generalize frS k ns d = so at *
  generalize ns.length = n at *
  clear hs1
  have t1 : sk.size + sm.size ≤ 9223372036854775807 := by omega
  have t12 : (sk ++ sm).size ≤ 101 := by rw [ByteArray.size_append]; omega
  have t2 : (sk ++ sm).size + d.size ≤ 9223372036854775807 := by omega
  go_enter Tryd.func37, Tryd.ntmps37
  go_wp2_with (first | (go_at_call 43; refine HC.mono ?_; rintro e w1 ⟨rfl, hb1⟩; have hB1 := bel.trans (hb1.mono bel.size); have q0 := (hb1.cell (p := ⟨w.heap.size, 0, none⟩) hlt).trans p0; have q1 := (hb1.cell (p := ⟨w.heap.size, 1, none⟩) hlt).trans p1; have q2 := (hb1.cell (p := ⟨w.heap.size, 2, none⟩) hlt).trans p2; have hlt1 := Nat.lt_of_lt_of_le hlt hb1.size) | (go_at_call 44; refine (HP _ hB1).mono ?_; rintro e w2 ⟨rfl, hb2⟩; have hB2 := hB1.trans (hb2.mono hB1.size); have r0 := (hb2.cell (p := ⟨w.heap.size, 0, none⟩) hlt1).trans q0; have r2 := (hb2.cell (p := ⟨w.heap.size, 2, none⟩) hlt1).trans q2; have hlt2 := Nat.lt_of_lt_of_le hlt1 hb2.size; have y2 := fun o => (World.cell?_alloc_lt w2 o ⟨w.heap.size, 2, none⟩ hlt2).trans r2))
  go_ret2
  exact ⟨by rw [HS.out]; rfl, hB2.alloc hB2.size _⟩
end Go.Proofs.YtoabfilliiopmaaDoor
