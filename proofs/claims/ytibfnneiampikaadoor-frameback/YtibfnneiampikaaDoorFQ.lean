/- The walk of the law FrameBack. -/
import Derived.Test.YtibfnneiampikaaDoorFE
import Derived.Test.YtibfnneiampikaaDoorFK
import Derived.Test.YtibfnneiampikaaDoorFS
namespace Go.Proofs.YtibfnneiampikaaDoor
open Go.RowKit Go.Lib Go.Sort
set_option linter.unusedVariables false
set_option linter.unusedSimpArgs false
set_option linter.unusedSimpArgs false


theorem fact_ok : frF 3 [5] { data := #[97, 98] } = 0 :=
  frF_zero (by decide) (by decide) (fun e => absurd rfl e) (fun z hz => by simp at hz; omega) (by decide) (fun e => by cases e)
theorem fact_bytes : frS 3 [5] { data := #[97, 98] } = { data := #[3, 5, 2, 97, 98] } := by
  simp [frS, mid, strOfNums]; rfl
theorem fact_print (W : World) (hH : V.Forms W ∧ Cnts W) : Calls Tryd.prog 10 #[.agg #[.int .i64 3, .slice (some ⟨W.heap.size, 0, none⟩) 1 1, .string { data := #[97, 98] }]] (W.alloc (.cells #[.int .i64 5] 3)) fun e w' => e = .returned (.tuple #[.string { data := #[3, 5, 2, 97, 98] }, .nilIface]) ∧ Below W.heap.size W w' := by
  have bl : Below W.heap.size W (W.alloc (.cells #[.int .i64 5] 3)) := (Below.refl _ W).alloc (Nat.le_refl _) _
  have ow : OwnI (W.alloc (.cells #[.int .i64 5] 3)) W.heap.size (.slice (some ⟨W.heap.size, 0, none⟩) 1 1) [5] := World.ownsRow_lit (base := W.heap.size) (e := 3) (size := 1) W #[.int .i64 5] 1 (Nat.le_refl _) (by decide) rfl
  have h := frame_print_ok 3 _ { data := #[97, 98] } [5] _ (hH.2.below bl) (hH.1.below bl) (irow_of_own ow (by simp)) fact_ok
  rw [fact_bytes] at h
  refine h.mono ?_
  rintro e w' ⟨rfl, hb⟩
  exact ⟨rfl, bl.trans (hb.mono bl.size)⟩
theorem frS_size {k : Int} {ns : List Int} {d : ByteArray} (h : frF k ns d = 0) : (frS k ns d).size ≤ 121 := by
  have h1 := mid_size h
  have h2 := (frF_ok h).2.2.2.2.1
  unfold frS
  rw [ByteArray.size_append, ByteArray.size_append, strOfNums_size [k]]
  simp only [List.length_cons, List.length_nil]
  omega

set_option maxRecDepth 100000 in
set_option maxHeartbeats 4000000 in
theorem back_aa (k : Int) (v : Value) (d : ByteArray) (ns : List Int) (rest b : ByteArray) (w : World) (hH : V.Forms w ∧ Cnts w) (hR : IRow w v ns) (hd : d.size ≤ maxLen) (hr : rest.size ≤ 2 ^ 47) (hb : b.size ≤ maxLen) (h1 : rdF b = none) (h2 : frF k ns d ≠ 0) : Calls Tryd.prog 4 #[.agg #[.int .i64 k, v, .string d], .string rest, .string b] w fun e w' => e = .returned (.bool true) ∧ Below w.heap.size w w' := by
  have HPf := fact_print
  have bel : Below w.heap.size w (w.alloc (.cells #[.int .i64 k, v, .string d] 24)) := (Below.refl _ w).alloc (Nat.le_refl _) _
  have bx : FBox (w.alloc (.cells #[.int .i64 k, v, .string d] 24)) w.heap.size k v d := FBox.new w k v d
  have H1 : Hid (V.Forms (w.alloc (.cells #[.int .i64 k, v, .string d] 24)) ∧ Cnts (w.alloc (.cells #[.int .i64 k, v, .string d] 24))) := ⟨hH.1.below bel, hH.2.below bel⟩
  have HR : Hid (IRow w v ns) := hR
  have HH : Hid (V.Forms w ∧ Cnts w) := hH
  have HX := fun W (hb' : Below w.heap.size w W) => frame_parse_no b W (hH.2.below hb') (hH.1.below hb') hb h1
  simp only [noFrame, errS] at HX
  have HPr := fun W (hb' : Below w.heap.size w W) => frame_print_no k v d ns W (hH.2.below hb') (hR.below hb') hd h2
  rw [show errV (frF k ns d) = .iface 45 (.int .i64 (frF k ns d)) by simp [errV, h2]] at HPr
  generalize frF k ns d = fv at HPr
  obtain ⟨ao, c, rfl, _⟩ := hR
  clear hH hd hb
  generalize hnl : ns.length = n at *
  clear hnl
  go_enter Tryd.func4, Tryd.ntmps4
  go_wp2_with fail
  have hs1 : (w.alloc (.cells #[.int .i64 k, .slice ao n c, .string d] 24)).heap.size = w.heap.size + 1 := by simp
  generalize w.alloc (.cells #[.int .i64 k, .slice ao n c, .string d] 24) = W1 at *
  have HP1 := HPf W1 H1.out
  rw [hs1] at HP1
  refine HP1.mono ?_
  rintro e w3 ⟨rfl, hb3⟩
  have bx3 := bx.below hb3 (by omega)
  have hB3 := bel.trans (hb3.mono (by omega))
  clear HP1 hs1
  clear HPf bx bel hb3 H1
  go_wp2_with fail
  have HY := HX w3 hB3
  refine HY.mono ?_
  rintro e w4 ⟨rfl, hb4⟩
  have bx4 := bx3.below hb4 bx3.lt
  have hB4 := hB3.trans (hb4.mono hB3.size)
  have y0 := fun o => (bx4.alloc o).c0
  have y1 := fun o => (bx4.alloc o).c1
  have y2 := fun o => (bx4.alloc o).c2
  clear HX HY hb4 bx3 hB3
  go_wp2_with fail
  have hB5 : Below w.heap.size w (w4.alloc (.cells #[.int .i64 0, .slice none 0 0, .string { data := #[] }] 24)) := hB4.alloc hB4.size _
  have bx5 : FBox (w4.alloc (.cells #[.int .i64 0, .slice none 0 0, .string { data := #[] }] 24)) w.heap.size k (.slice ao n c) d := bx4.alloc _
  generalize w4.alloc (.cells #[.int .i64 0, .slice none 0 0, .string { data := #[] }] 24) = W5 at *
  clear bx4 hB4 y0 y1 y2
  refine (HPr W5 hB5).mono ?_
  rintro e w6 ⟨rfl, hb6⟩
  have hB6 := hB5.trans (hb6.mono hB5.size)
  clear HPr
  go_wp2_with fail
  go_ret
  exact ⟨rfl, hB6⟩

set_option maxRecDepth 100000 in
set_option maxHeartbeats 4000000 in
theorem back_ab (k : Int) (v : Value) (d : ByteArray) (ns : List Int) (rest b : ByteArray) (w : World) (hH : V.Forms w ∧ Cnts w) (hR : IRow w v ns) (hd : d.size ≤ maxLen) (hr : rest.size ≤ 2 ^ 47) (hb : b.size ≤ maxLen) (h1 : rdF b = none) (h2 : frF k ns d = 0) : Calls Tryd.prog 4 #[.agg #[.int .i64 k, v, .string d], .string rest, .string b] w fun e w' => e = .returned (.bool true) ∧ Below w.heap.size w w' := by
  have HPf := fact_print
  have bel : Below w.heap.size w (w.alloc (.cells #[.int .i64 k, v, .string d] 24)) := (Below.refl _ w).alloc (Nat.le_refl _) _
  have bx : FBox (w.alloc (.cells #[.int .i64 k, v, .string d] 24)) w.heap.size k v d := FBox.new w k v d
  have H1 : Hid (V.Forms (w.alloc (.cells #[.int .i64 k, v, .string d] 24)) ∧ Cnts (w.alloc (.cells #[.int .i64 k, v, .string d] 24))) := ⟨hH.1.below bel, hH.2.below bel⟩
  have HR : Hid (IRow w v ns) := hR
  have HH : Hid (V.Forms w ∧ Cnts w) := hH
  have HX := fun W (hb' : Below w.heap.size w W) => frame_parse_no b W (hH.2.below hb') (hH.1.below hb') hb h1
  simp only [noFrame, errS] at HX
  have HPr := fun W (hb' : Below w.heap.size w W) => frame_print_ok k v d ns W (hH.2.below hb') (hH.1.below hb') (hR.below hb') h2
  have hbk := rdF_back h2 rest
  have hfs := frS_size h2
  generalize frS k ns d = sf at *
  have hss : (sf ++ rest).size ≤ maxLen := by rw [ByteArray.size_append]; unfold maxLen; omega
  have hadd : sf.size + rest.size ≤ 9223372036854775807 := by omega
  have HXr := fun W (hb' : Below w.heap.size w W) => frame_parse_yes (sf ++ rest) W (hH.2.below hb') (hH.1.below hb') hss k ns d sf.size hbk
  have hsl2 : sf.size ≤ 9223372036854775807 := by omega
  clear hbk hss hfs
  obtain ⟨ao, c, rfl, _⟩ := hR
  clear hH hd hb
  generalize hnl : ns.length = n at *
  clear hnl
  go_enter Tryd.func4, Tryd.ntmps4
  go_wp2_with fail
  have hs1 : (w.alloc (.cells #[.int .i64 k, .slice ao n c, .string d] 24)).heap.size = w.heap.size + 1 := by simp
  generalize w.alloc (.cells #[.int .i64 k, .slice ao n c, .string d] 24) = W1 at *
  have HP1 := HPf W1 H1.out
  rw [hs1] at HP1
  refine HP1.mono ?_
  rintro e w3 ⟨rfl, hb3⟩
  have bx3 := bx.below hb3 (by omega)
  have hB3 := bel.trans (hb3.mono (by omega))
  clear HP1 hs1
  clear HPf bx bel hb3 H1
  go_wp2_with fail
  have HY := HX w3 hB3
  refine HY.mono ?_
  rintro e w4 ⟨rfl, hb4⟩
  have bx4 := bx3.below hb4 bx3.lt
  have hB4 := hB3.trans (hb4.mono hB3.size)
  have y0 := fun o => (bx4.alloc o).c0
  have y1 := fun o => (bx4.alloc o).c1
  have y2 := fun o => (bx4.alloc o).c2
  clear HX HY hb4 bx3 hB3
  go_wp2_with fail
  have hB5 : Below w.heap.size w (w4.alloc (.cells #[.int .i64 0, .slice none 0 0, .string { data := #[] }] 24)) := hB4.alloc hB4.size _
  have bx5 : FBox (w4.alloc (.cells #[.int .i64 0, .slice none 0 0, .string { data := #[] }] 24)) w.heap.size k (.slice ao n c) d := bx4.alloc _
  generalize w4.alloc (.cells #[.int .i64 0, .slice none 0 0, .string { data := #[] }] 24) = W5 at *
  clear bx4 hB4 y0 y1 y2
  refine (HPr W5 hB5).mono ?_
  rintro e w6 ⟨rfl, hb6⟩
  have hB6 := hB5.trans (hb6.mono hB5.size)
  have bx6 := bx5.below hb6 bx5.lt
  clear HPr hb6 bx5 hB5
  go_wp2_with fail
  refine (HXr w6 hB6).mono ?_
  rintro e w7 ⟨vr, rfl, hRr, hb7⟩
  have hB7 := hB6.trans (hb7.mono hB6.size)
  have bx7 := bx6.below hb7 bx6.lt
  clear HXr hb7 bx6 hB6
  have hRf : IRow w7 (.slice ao n c) ns := HR.out.below hB7
  obtain ⟨ar, cr, hvr, _⟩ := id hRr
  subst hvr
  have bel8 : Below w7.heap.size w7 (w7.alloc (.cells #[.int .i64 k, .slice ar ns.length cr, .string d] 24)) := (Below.refl _ w7).alloc (Nat.le_refl _) _
  have hB8 := hB7.trans (bel8.mono hB7.size)
  have HC := sameF_calls k (.slice ar ns.length cr) (.slice ao n c) d ns _ (hRr.below bel8) (hRf.below bel8)
  have y0 := fun o => (bx7.alloc o).c0
  have y1 := fun o => (bx7.alloc o).c1
  have y2 := fun o => (bx7.alloc o).c2
  clear hRr hRf bx7
  go_wp2_with (first | (go_at_call 13; refine HC.mono ?_; rintro e w9 ⟨rfl, hb9⟩; have hB9 := hB8.trans (hb9.mono hB8.size)))
  go_ret
  exact ⟨by simp, hB9⟩

set_option maxRecDepth 100000 in
set_option maxHeartbeats 4000000 in
theorem back_ba (k : Int) (v : Value) (d : ByteArray) (ns : List Int) (rest b : ByteArray) (w : World) (hH : V.Forms w ∧ Cnts w) (hR : IRow w v ns) (hd : d.size ≤ maxLen) (hr : rest.size ≤ 2 ^ 47) (hb : b.size ≤ maxLen) (kx : Int) (nx : List Int) (dx : ByteArray) (m : Nat) (h1 : rdF b = some ((kx, nx, dx), m)) (h2 : frF k ns d ≠ 0) : Calls Tryd.prog 4 #[.agg #[.int .i64 k, v, .string d], .string rest, .string b] w fun e w' => e = .returned (.bool true) ∧ Below w.heap.size w w' := by
  have HPf := fact_print
  have bel : Below w.heap.size w (w.alloc (.cells #[.int .i64 k, v, .string d] 24)) := (Below.refl _ w).alloc (Nat.le_refl _) _
  have bx : FBox (w.alloc (.cells #[.int .i64 k, v, .string d] 24)) w.heap.size k v d := FBox.new w k v d
  have H1 : Hid (V.Forms (w.alloc (.cells #[.int .i64 k, v, .string d] 24)) ∧ Cnts (w.alloc (.cells #[.int .i64 k, v, .string d] 24))) := ⟨hH.1.below bel, hH.2.below bel⟩
  have HR : Hid (IRow w v ns) := hR
  have HH : Hid (V.Forms w ∧ Cnts w) := hH
  obtain ⟨hf0, hn1, hn2, hex⟩ := rdF_inv h1
  have HX := fun W (hb' : Below w.heap.size w W) => frame_parse_yes b W (hH.2.below hb') (hH.1.below hb') hb kx nx dx m h1
  have HPx := fun W (hb' : Below w.heap.size w W) vx (hR' : IRow W vx nx) => frame_print_ok kx vx dx nx W (hH.2.below hb') (hH.1.below hb') hR' hf0
  have hlb : b.size ≤ 9223372036854775807 := by unfold maxLen at hb; omega
  have hsl := run_upto b m hn2 hlb
  rw [hex] at hsl
  generalize frS kx nx dx = sx at *
  have hsx : (sx.toList == sx.toList) = true := by simp
  have g1 : ¬ (m : Int) < 1 := by omega
  have g2 : ¬ (b.size : Int) < (m : Int) := by omega
  clear hex hf0 hn1 hn2
  have HPr := fun W (hb' : Below w.heap.size w W) => frame_print_no k v d ns W (hH.2.below hb') (hR.below hb') hd h2
  rw [show errV (frF k ns d) = .iface 45 (.int .i64 (frF k ns d)) by simp [errV, h2]] at HPr
  generalize frF k ns d = fv at HPr
  obtain ⟨ao, c, rfl, _⟩ := hR
  clear hH hd hb
  generalize hnl : ns.length = n at *
  clear hnl
  go_enter Tryd.func4, Tryd.ntmps4
  go_wp2_with fail
  have hs1 : (w.alloc (.cells #[.int .i64 k, .slice ao n c, .string d] 24)).heap.size = w.heap.size + 1 := by simp
  generalize w.alloc (.cells #[.int .i64 k, .slice ao n c, .string d] 24) = W1 at *
  have HP1 := HPf W1 H1.out
  rw [hs1] at HP1
  refine HP1.mono ?_
  rintro e w3 ⟨rfl, hb3⟩
  have bx3 := bx.below hb3 (by omega)
  have hB3 := bel.trans (hb3.mono (by omega))
  clear HP1 hs1
  clear HPf bx bel hb3 H1
  go_wp2_with fail
  have HY := HX w3 hB3
  refine HY.mono ?_
  rintro e w4 ⟨vx, rfl, hRx, hb4⟩
  have bx4 := bx3.below hb4 bx3.lt
  have hB4 := hB3.trans (hb4.mono hB3.size)
  clear HX HY hb4 bx3 hB3
  obtain ⟨ax, cx, hvx, _⟩ := id hRx
  subst hvx
  go_wp2_with fail
  have bel5 : Below w4.heap.size w4 (w4.alloc (.cells #[.int .i64 kx, .slice ax nx.length cx, .string dx] 24)) := (Below.refl _ w4).alloc (Nat.le_refl _) _
  have hB5 : Below w.heap.size w (w4.alloc (.cells #[.int .i64 kx, .slice ax nx.length cx, .string dx] 24)) := hB4.alloc hB4.size _
  have bx5 : FBox (w4.alloc (.cells #[.int .i64 kx, .slice ax nx.length cx, .string dx] 24)) w.heap.size k (.slice ao n c) d := bx4.alloc _
  have HZ := HPx _ hB5 _ (hRx.below bel5)
  clear HPx hRx
  generalize w4.alloc (.cells #[.int .i64 kx, .slice ax nx.length cx, .string dx] 24) = W5' at *
  refine HZ.mono ?_
  rintro e W5 ⟨rfl, hb5⟩
  replace bx5 := bx5.below hb5 bx5.lt
  replace hB5 := hB5.trans (hb5.mono hB5.size)
  clear HZ hb5 bx4 hB4 bel5
  have t0 := bx5.c0
  have t1 := bx5.c1
  have t2 := bx5.c2
  go_wp2_with fail
  clear t0 t1 t2
  refine (HPr W5 hB5).mono ?_
  rintro e w6 ⟨rfl, hb6⟩
  have hB6 := hB5.trans (hb6.mono hB5.size)
  clear HPr
  go_wp2_with fail
  go_ret
  exact ⟨rfl, hB6⟩

set_option maxRecDepth 100000 in
set_option maxHeartbeats 4000000 in
theorem back_bb (k : Int) (v : Value) (d : ByteArray) (ns : List Int) (rest b : ByteArray) (w : World) (hH : V.Forms w ∧ Cnts w) (hR : IRow w v ns) (hd : d.size ≤ maxLen) (hr : rest.size ≤ 2 ^ 47) (hb : b.size ≤ maxLen) (kx : Int) (nx : List Int) (dx : ByteArray) (m : Nat) (h1 : rdF b = some ((kx, nx, dx), m)) (h2 : frF k ns d = 0) : Calls Tryd.prog 4 #[.agg #[.int .i64 k, v, .string d], .string rest, .string b] w fun e w' => e = .returned (.bool true) ∧ Below w.heap.size w w' := by
  have HPf := fact_print
  have bel : Below w.heap.size w (w.alloc (.cells #[.int .i64 k, v, .string d] 24)) := (Below.refl _ w).alloc (Nat.le_refl _) _
  have bx : FBox (w.alloc (.cells #[.int .i64 k, v, .string d] 24)) w.heap.size k v d := FBox.new w k v d
  have H1 : Hid (V.Forms (w.alloc (.cells #[.int .i64 k, v, .string d] 24)) ∧ Cnts (w.alloc (.cells #[.int .i64 k, v, .string d] 24))) := ⟨hH.1.below bel, hH.2.below bel⟩
  have HR : Hid (IRow w v ns) := hR
  have HH : Hid (V.Forms w ∧ Cnts w) := hH
  obtain ⟨hf0, hn1, hn2, hex⟩ := rdF_inv h1
  have HX := fun W (hb' : Below w.heap.size w W) => frame_parse_yes b W (hH.2.below hb') (hH.1.below hb') hb kx nx dx m h1
  have HPx := fun W (hb' : Below w.heap.size w W) vx (hR' : IRow W vx nx) => frame_print_ok kx vx dx nx W (hH.2.below hb') (hH.1.below hb') hR' hf0
  have hlb : b.size ≤ 9223372036854775807 := by unfold maxLen at hb; omega
  have hsl := run_upto b m hn2 hlb
  rw [hex] at hsl
  generalize frS kx nx dx = sx at *
  have hsx : (sx.toList == sx.toList) = true := by simp
  have g1 : ¬ (m : Int) < 1 := by omega
  have g2 : ¬ (b.size : Int) < (m : Int) := by omega
  clear hex hf0 hn1 hn2
  have HPr := fun W (hb' : Below w.heap.size w W) => frame_print_ok k v d ns W (hH.2.below hb') (hH.1.below hb') (hR.below hb') h2
  have hbk := rdF_back h2 rest
  have hfs := frS_size h2
  generalize frS k ns d = sf at *
  have hss : (sf ++ rest).size ≤ maxLen := by rw [ByteArray.size_append]; unfold maxLen; omega
  have hadd : sf.size + rest.size ≤ 9223372036854775807 := by omega
  have HXr := fun W (hb' : Below w.heap.size w W) => frame_parse_yes (sf ++ rest) W (hH.2.below hb') (hH.1.below hb') hss k ns d sf.size hbk
  have hsl2 : sf.size ≤ 9223372036854775807 := by omega
  clear hbk hss hfs
  obtain ⟨ao, c, rfl, _⟩ := hR
  clear hH hd hb
  generalize hnl : ns.length = n at *
  clear hnl
  go_enter Tryd.func4, Tryd.ntmps4
  go_wp2_with fail
  have hs1 : (w.alloc (.cells #[.int .i64 k, .slice ao n c, .string d] 24)).heap.size = w.heap.size + 1 := by simp
  generalize w.alloc (.cells #[.int .i64 k, .slice ao n c, .string d] 24) = W1 at *
  have HP1 := HPf W1 H1.out
  rw [hs1] at HP1
  refine HP1.mono ?_
  rintro e w3 ⟨rfl, hb3⟩
  have bx3 := bx.below hb3 (by omega)
  have hB3 := bel.trans (hb3.mono (by omega))
  clear HP1 hs1
  clear HPf bx bel hb3 H1
  go_wp2_with fail
  have HY := HX w3 hB3
  refine HY.mono ?_
  rintro e w4 ⟨vx, rfl, hRx, hb4⟩
  have bx4 := bx3.below hb4 bx3.lt
  have hB4 := hB3.trans (hb4.mono hB3.size)
  clear HX HY hb4 bx3 hB3
  obtain ⟨ax, cx, hvx, _⟩ := id hRx
  subst hvx
  go_wp2_with fail
  have bel5 : Below w4.heap.size w4 (w4.alloc (.cells #[.int .i64 kx, .slice ax nx.length cx, .string dx] 24)) := (Below.refl _ w4).alloc (Nat.le_refl _) _
  have hB5 : Below w.heap.size w (w4.alloc (.cells #[.int .i64 kx, .slice ax nx.length cx, .string dx] 24)) := hB4.alloc hB4.size _
  have bx5 : FBox (w4.alloc (.cells #[.int .i64 kx, .slice ax nx.length cx, .string dx] 24)) w.heap.size k (.slice ao n c) d := bx4.alloc _
  have HZ := HPx _ hB5 _ (hRx.below bel5)
  clear HPx hRx
  generalize w4.alloc (.cells #[.int .i64 kx, .slice ax nx.length cx, .string dx] 24) = W5' at *
  refine HZ.mono ?_
  rintro e W5 ⟨rfl, hb5⟩
  replace bx5 := bx5.below hb5 bx5.lt
  replace hB5 := hB5.trans (hb5.mono hB5.size)
  clear HZ hb5 bx4 hB4 bel5
  have t0 := bx5.c0
  have t1 := bx5.c1
  have t2 := bx5.c2
  go_wp2_with fail
  clear t0 t1 t2
  refine (HPr W5 hB5).mono ?_
  rintro e w6 ⟨rfl, hb6⟩
  have hB6 := hB5.trans (hb6.mono hB5.size)
  have bx6 := bx5.below hb6 bx5.lt
  clear HPr hb6 bx5 hB5
  go_wp2_with fail
  refine (HXr w6 hB6).mono ?_
  rintro e w7 ⟨vr, rfl, hRr, hb7⟩
  have hB7 := hB6.trans (hb7.mono hB6.size)
  have bx7 := bx6.below hb7 bx6.lt
  clear HXr hb7 bx6 hB6
  have hRf : IRow w7 (.slice ao n c) ns := HR.out.below hB7
  obtain ⟨ar, cr, hvr, _⟩ := id hRr
  subst hvr
  have bel8 : Below w7.heap.size w7 (w7.alloc (.cells #[.int .i64 k, .slice ar ns.length cr, .string d] 24)) := (Below.refl _ w7).alloc (Nat.le_refl _) _
  have hB8 := hB7.trans (bel8.mono hB7.size)
  have HC := sameF_calls k (.slice ar ns.length cr) (.slice ao n c) d ns _ (hRr.below bel8) (hRf.below bel8)
  have y0 := fun o => (bx7.alloc o).c0
  have y1 := fun o => (bx7.alloc o).c1
  have y2 := fun o => (bx7.alloc o).c2
  clear hRr hRf bx7
  go_wp2_with (first | (go_at_call 13; refine HC.mono ?_; rintro e w9 ⟨rfl, hb9⟩; have hB9 := hB8.trans (hb9.mono hB8.size)))
  go_ret
  exact ⟨by simp, hB9⟩

theorem back_walk (k : Int) (v : Value) (d : ByteArray) (ns : List Int) (rest b : ByteArray) (w : World) (hH : V.Forms w ∧ Cnts w) (hR : IRow w v ns) (hd : d.size ≤ maxLen) (hr : rest.size ≤ 2 ^ 47) (hb : b.size ≤ maxLen) : Calls Tryd.prog 4 #[.agg #[.int .i64 k, v, .string d], .string rest, .string b] w fun e w' => e = .returned (.bool true) ∧ Below w.heap.size w w' := by
  by_cases h2 : frF k ns d = 0
  · cases h1 : rdF b with
    | none => exact back_ab k v d ns rest b w hH hR hd hr hb h1 h2
    | some x =>
      obtain ⟨⟨kx, nx, dx⟩, m⟩ := x
      exact back_bb k v d ns rest b w hH hR hd hr hb kx nx dx m h1 h2
  · cases h1 : rdF b with
    | none => exact back_aa k v d ns rest b w hH hR hd hr hb h1 h2
    | some x =>
      obtain ⟨⟨kx, nx, dx⟩, m⟩ := x
      exact back_ba k v d ns rest b w hH hR hd hr hb kx nx dx m h1 h2
end Go.Proofs.YtibfnneiampikaaDoor
