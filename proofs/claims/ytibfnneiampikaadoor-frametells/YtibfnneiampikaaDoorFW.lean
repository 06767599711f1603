/- The walk of the law FrameTells. -/
import Derived.Test.YtibfnneiampikaaDoorFM
import Derived.Test.YtibfnneiampikaaDoorFU
import Derived.Test.YtibfnneiampikaaDoorFS
import Derived.Test.YtibfnneiampikaaDoorK
namespace Go.Proofs.YtibfnneiampikaaDoor
open Go.RowKit Go.Lib Go.Sort
set_option linter.unusedVariables false
set_option linter.unusedSimpArgs false
set_option linter.unusedSimpArgs false

set_option maxRecDepth 100000 in
set_option maxHeartbeats 4000000 in
theorem tells_ys (k : Int) (v : Value) (d : ByteArray) (ns : List Int) (b : ByteArray) (w : World) (hH : (V.Forms w ∧ Cnts w) ∧ Handle w) (hR : IRow w v ns) (hd : d.size ≤ maxLen) (hb : b.size ≤ maxLen) (hb47 : b.size ≤ 140737488355328) (h1 : frF k ns d = 0) (kx : Int) (nx : List Int) (dx : ByteArray) (m : Nat) (h2 : rdF b = some ((kx, nx, dx), m)) : Calls Tryd.prog 3 #[.agg #[.int .i64 k, v, .string d], .string b] w fun e w' => e = .returned (.bool true) ∧ Below w.heap.size w w' := by
  have CF := fun W (hb' : Below w.heap.size w W) => dframe_calls k v d ns W (hR.below hb') hd
  have CC := fun W (hb' : Below w.heap.size w W) => frame_check k v d ns W (hH.1.2.below hb') (hR.below hb') hd
  rw [h1] at CF CC
  rw [show errV 0 = .nilIface from rfl] at CC
  have CE := fun W => same_nil 0 W
  simp only [BEq.rfl] at CE
  have CB := fun W (hb' : Below w.heap.size w W) => dbytes_calls k v d ns W (hR.below hb') h1
  have CP := fun W (hb' : Below w.heap.size w W) => frame_print_ok k v d ns W (hH.1.2.below hb') (hH.1.1.below hb') (hR.below hb') h1
  generalize frS k ns d = sf at *
  have hsf : (sf.toList == sf.toList) = true := by simp
  have CR := fun W => dread_yes b W hb47 kx nx dx m h2
  have CX := fun W (hb' : Below w.heap.size w W) => frame_parse_yes b W (hH.1.2.below hb') (hH.1.1.below hb') hb kx nx dx m h2
  have CE2 := fun W => same_nil 0 W
  simp only [BEq.rfl] at CE2
  have hB1 : Below w.heap.size w (w.alloc (.cells #[.int .i64 k, v, .string d] 24)) := (Below.refl _ w).alloc (Nat.le_refl _) _
  have bx1 : FBox (w.alloc (.cells #[.int .i64 k, v, .string d] 24)) w.heap.size k v d := FBox.new w k v d
  obtain ⟨ao, c, rfl, _⟩ := hR
  clear hH hd hb hb47 h1 h2
  generalize ns.length = n at *
  have f10 := bx1.c0
  have f11 := bx1.c1
  have f12 := bx1.c2
  go_enter Tryd.func3, Tryd.ntmps3
  go_wp2_with fail
  generalize w.alloc (.cells #[.int .i64 k, .slice ao n c, .string d] 24) = W1 at *
  refine (CF W1 hB1).mono ?_
  rintro e w2 ⟨rfl, hb2⟩
  have bx2 := bx1.below hb2 bx1.lt
  have hB2 := hB1.trans (hb2.mono hB1.size)
  have f20 := bx2.c0
  have f21 := bx2.c1
  have f22 := bx2.c2
  clear hb2 bx1 hB1 f10 f11 f12
  go_wp2_with fail
  refine (CC w2 hB2).mono ?_
  rintro e w3 ⟨rfl, hb3⟩
  have bx3 := bx2.below hb3 bx2.lt
  have hB3 := hB2.trans (hb3.mono hB2.size)
  have f30 := bx3.c0
  have f31 := bx3.c1
  have f32 := bx3.c2
  clear hb3 bx2 hB2 f20 f21 f22
  go_wp2_with fail
  refine (CE w3).mono ?_
  rintro e w4 ⟨rfl, hb4⟩
  have bx4 := bx3.below hb4 bx3.lt
  have hB4 := hB3.trans (hb4.mono hB3.size)
  have f40 := bx4.c0
  have f41 := bx4.c1
  have f42 := bx4.c2
  clear hb4 bx3 hB3 f30 f31 f32
  go_wp2_with fail
  refine (CB w4 hB4).mono ?_
  rintro e w5 ⟨rfl, hb5⟩
  have bx5 := bx4.below hb5 bx4.lt
  have hB5 := hB4.trans (hb5.mono hB4.size)
  have f50 := bx5.c0
  have f51 := bx5.c1
  have f52 := bx5.c2
  clear hb5 bx4 hB4 f40 f41 f42
  go_wp2_with fail
  refine (CP w5 hB5).mono ?_
  rintro e w6 ⟨rfl, hb6⟩
  have bx6 := bx5.below hb6 bx5.lt
  have hB6 := hB5.trans (hb6.mono hB5.size)
  have f60 := bx6.c0
  have f61 := bx6.c1
  have f62 := bx6.c2
  clear hb6 bx5 hB5 f50 f51 f52
  go_wp2_with fail
  refine (CE w6).mono ?_
  rintro e w7 ⟨rfl, hb7⟩
  have bx7 := bx6.below hb7 bx6.lt
  have hB7 := hB6.trans (hb7.mono hB6.size)
  have f70 := bx7.c0
  have f71 := bx7.c1
  have f72 := bx7.c2
  clear hb7 bx6 hB6 f60 f61 f62
  go_wp2_with fail
  refine (CR w7).mono ?_
  rintro e w8 ⟨vx, rfl, hRx, hb8⟩
  have hB8 := hB7.trans (hb8.mono hB7.size)
  obtain ⟨ax, cx, hvx, _⟩ := id hRx
  subst hvx
  clear hb8 hB7 bx7 f70 f71 f72 CR
  have bel9 : Below w8.heap.size w8 (w8.alloc (.cells #[.int .i64 kx, .slice ax nx.length cx, .string dx] 24)) := (Below.refl _ w8).alloc (Nat.le_refl _) _
  have hB9 := hB8.trans (bel9.mono hB8.size)
  have bx9 : FBox (w8.alloc (.cells #[.int .i64 kx, .slice ax nx.length cx, .string dx] 24)) w8.heap.size kx (.slice ax nx.length cx) dx := FBox.new w8 _ _ _
  have hRx9 := hRx.below bel9
  go_wp2_with fail
  generalize w8.alloc (.cells #[.int .i64 kx, .slice ax nx.length cx, .string dx] 24) = W9 at *
  refine (CX W9 hB9).mono ?_
  rintro e w10 ⟨vy, rfl, hRy, hb10⟩
  obtain ⟨ay, cy, hvy, _⟩ := id hRy
  subst hvy
  have hB10 := hB9.trans (hb10.mono hB9.size)
  have bx10 := bx9.below hb10 bx9.lt
  have hRx10 := hRx9.below hb10
  have bel11 : Below w10.heap.size w10 (w10.alloc (.cells #[.int .i64 kx, .slice ay nx.length cy, .string dx] 24)) := (Below.refl _ w10).alloc (Nat.le_refl _) _
  have hB11 := hB10.trans (bel11.mono hB10.size)
  have bx11 := bx10.alloc (.cells #[.int .i64 kx, .slice ay nx.length cy, .string dx] 24)
  have by11 : FBox (w10.alloc (.cells #[.int .i64 kx, .slice ay nx.length cy, .string dx] 24)) w10.heap.size kx (.slice ay nx.length cy) dx := FBox.new w10 _ _ _
  have hRx11 := hRx10.below bel11
  have hRy11 := hRy.below bel11
  clear CX hRx hRx9 hRx10 hRy bx9 bx10 hB8 hB9 hB10 hb10 bel9 bel11
  go_wp2_with fail
  generalize w10.alloc (.cells #[.int .i64 kx, .slice ay nx.length cy, .string dx] 24) = W11 at *
  refine (CE2 W11).mono ?_
  rintro e w12 ⟨rfl, hb12⟩
  have hB12 := hB11.trans (hb12.mono hB11.size)
  have bx12 := bx11.below hb12 bx11.lt
  have by12 := by11.below hb12 by11.lt
  have HS := sameF_calls kx (.slice ay nx.length cy) (.slice ax nx.length cx) dx nx w12 (hRy11.below hb12) (hRx11.below hb12)
  have a0 := bx12.c0
  have a1 := bx12.c1
  have a2 := bx12.c2
  have b0 := by12.c0
  have b1 := by12.c1
  have b2 := by12.c2
  clear hb12 bx11 by11 hB11 CE2
  go_wp2_with (first | (go_at_call 13; refine HS.mono ?_; rintro e w13 ⟨rfl, hb13⟩; have hB13 := hB12.trans (hb13.mono hB12.size)))
  go_ret
  exact ⟨by simp, hB13⟩

set_option maxRecDepth 100000 in
set_option maxHeartbeats 4000000 in
theorem tells_yz (k : Int) (v : Value) (d : ByteArray) (ns : List Int) (b : ByteArray) (w : World) (hH : (V.Forms w ∧ Cnts w) ∧ Handle w) (hR : IRow w v ns) (hd : d.size ≤ maxLen) (hb : b.size ≤ maxLen) (hb47 : b.size ≤ 140737488355328) (h1 : frF k ns d = 0) (h2 : rdF b = none) : Calls Tryd.prog 3 #[.agg #[.int .i64 k, v, .string d], .string b] w fun e w' => e = .returned (.bool true) ∧ Below w.heap.size w w' := by
  have CF := fun W (hb' : Below w.heap.size w W) => dframe_calls k v d ns W (hR.below hb') hd
  have CC := fun W (hb' : Below w.heap.size w W) => frame_check k v d ns W (hH.1.2.below hb') (hR.below hb') hd
  rw [h1] at CF CC
  rw [show errV 0 = .nilIface from rfl] at CC
  have CE := fun W => same_nil 0 W
  simp only [BEq.rfl] at CE
  have CB := fun W (hb' : Below w.heap.size w W) => dbytes_calls k v d ns W (hR.below hb') h1
  have CP := fun W (hb' : Below w.heap.size w W) => frame_print_ok k v d ns W (hH.1.2.below hb') (hH.1.1.below hb') (hR.below hb') h1
  generalize frS k ns d = sf at *
  have hsf : (sf.toList == sf.toList) = true := by simp
  have CR := fun W => dread_no b W hb47 h2
  have CX := fun W (hb' : Below w.heap.size w W) => frame_parse_no b W (hH.1.2.below hb') (hH.1.1.below hb') hb h2
  simp only [noFrame, errS] at CX
  have CE2 := fun W (hb' : Below w.heap.size w W) => same_err 2 2 W (hH.2.below hb')
  simp only [BEq.rfl] at CE2
  have hB1 : Below w.heap.size w (w.alloc (.cells #[.int .i64 k, v, .string d] 24)) := (Below.refl _ w).alloc (Nat.le_refl _) _
  have bx1 : FBox (w.alloc (.cells #[.int .i64 k, v, .string d] 24)) w.heap.size k v d := FBox.new w k v d
  obtain ⟨ao, c, rfl, _⟩ := hR
  clear hH hd hb hb47 h1 h2
  generalize ns.length = n at *
  have f10 := bx1.c0
  have f11 := bx1.c1
  have f12 := bx1.c2
  go_enter Tryd.func3, Tryd.ntmps3
  go_wp2_with fail
  generalize w.alloc (.cells #[.int .i64 k, .slice ao n c, .string d] 24) = W1 at *
  refine (CF W1 hB1).mono ?_
  rintro e w2 ⟨rfl, hb2⟩
  have bx2 := bx1.below hb2 bx1.lt
  have hB2 := hB1.trans (hb2.mono hB1.size)
  have f20 := bx2.c0
  have f21 := bx2.c1
  have f22 := bx2.c2
  clear hb2 bx1 hB1 f10 f11 f12
  go_wp2_with fail
  refine (CC w2 hB2).mono ?_
  rintro e w3 ⟨rfl, hb3⟩
  have bx3 := bx2.below hb3 bx2.lt
  have hB3 := hB2.trans (hb3.mono hB2.size)
  have f30 := bx3.c0
  have f31 := bx3.c1
  have f32 := bx3.c2
  clear hb3 bx2 hB2 f20 f21 f22
  go_wp2_with fail
  refine (CE w3).mono ?_
  rintro e w4 ⟨rfl, hb4⟩
  have bx4 := bx3.below hb4 bx3.lt
  have hB4 := hB3.trans (hb4.mono hB3.size)
  have f40 := bx4.c0
  have f41 := bx4.c1
  have f42 := bx4.c2
  clear hb4 bx3 hB3 f30 f31 f32
  go_wp2_with fail
  refine (CB w4 hB4).mono ?_
  rintro e w5 ⟨rfl, hb5⟩
  have bx5 := bx4.below hb5 bx4.lt
  have hB5 := hB4.trans (hb5.mono hB4.size)
  have f50 := bx5.c0
  have f51 := bx5.c1
  have f52 := bx5.c2
  clear hb5 bx4 hB4 f40 f41 f42
  go_wp2_with fail
  refine (CP w5 hB5).mono ?_
  rintro e w6 ⟨rfl, hb6⟩
  have bx6 := bx5.below hb6 bx5.lt
  have hB6 := hB5.trans (hb6.mono hB5.size)
  have f60 := bx6.c0
  have f61 := bx6.c1
  have f62 := bx6.c2
  clear hb6 bx5 hB5 f50 f51 f52
  go_wp2_with fail
  refine (CE w6).mono ?_
  rintro e w7 ⟨rfl, hb7⟩
  have bx7 := bx6.below hb7 bx6.lt
  have hB7 := hB6.trans (hb7.mono hB6.size)
  have f70 := bx7.c0
  have f71 := bx7.c1
  have f72 := bx7.c2
  clear hb7 bx6 hB6 f60 f61 f62
  go_wp2_with fail
  refine (CR w7).mono ?_
  rintro e w8 ⟨rfl, hb8⟩
  have hB8 := hB7.trans (hb8.mono hB7.size)
  clear hb8 hB7 bx7 f70 f71 f72 CR
  have bel9 : Below w8.heap.size w8 (w8.alloc (.cells #[.int .i64 0, .slice none 0 0, .string { data := #[] }] 24)) := (Below.refl _ w8).alloc (Nat.le_refl _) _
  have hB9 := hB8.trans (bel9.mono hB8.size)
  have bx9 : FBox (w8.alloc (.cells #[.int .i64 0, .slice none 0 0, .string { data := #[] }] 24)) w8.heap.size 0 (.slice none 0 0) { data := #[] } := FBox.new w8 _ _ _
  go_upto_region 12 with fail
  generalize w8.alloc (.cells #[.int .i64 0, .slice none 0 0, .string { data := #[] }] 24) = V9 at *
  have y0 := bx9.c0
  have y1 := bx9.c1
  have y2 := bx9.c2
  have y3 := bx9.fz 0
  have y4 := bx9.fz 1
  have y5 := bx9.fz 2
  go_wp2_with fail
  have hB9' : Below w.heap.size w (((V9.setCell ⟨w8.heap.size, 0, none⟩ (.int .i64 0)).setCell ⟨w8.heap.size, 1, none⟩ (.slice none 0 0)).setCell ⟨w8.heap.size, 2, none⟩ (.string { data := #[] })) := ((hB9.setCell hB8.size _).setCell hB8.size _).setCell hB8.size _
  have bx9' := bx9.set 0 (.slice none 0 0) { data := #[] }
  generalize ((V9.setCell ⟨w8.heap.size, 0, none⟩ (.int .i64 0)).setCell ⟨w8.heap.size, 1, none⟩ (.slice none 0 0)).setCell ⟨w8.heap.size, 2, none⟩ (.string { data := #[] }) = W9 at *
  clear y0 y1 y2 y3 y4 y5 bx9 hB9 bel9
  refine (CX W9 hB9').mono ?_
  rintro e w10 ⟨rfl, hb10⟩
  have hB10 := hB9'.trans (hb10.mono hB9'.size)
  have bx10 := bx9'.below hb10 bx9'.lt
  have bel11 : Below w10.heap.size w10 (w10.alloc (.cells #[.int .i64 0, .slice none 0 0, .string { data := #[] }] 24)) := (Below.refl _ w10).alloc (Nat.le_refl _) _
  have hB11 := hB10.trans (bel11.mono hB10.size)
  have bx11 := bx10.alloc (.cells #[.int .i64 0, .slice none 0 0, .string { data := #[] }] 24)
  have by11 : FBox (w10.alloc (.cells #[.int .i64 0, .slice none 0 0, .string { data := #[] }] 24)) w10.heap.size 0 (.slice none 0 0) { data := #[] } := FBox.new w10 _ _ _
  clear CX bx9' bx10 hB8 hB9' hB10 hb10 bel11
  go_wp2_with fail
  generalize w10.alloc (.cells #[.int .i64 0, .slice none 0 0, .string { data := #[] }] 24) = W11 at *
  refine (CE2 W11 hB11).mono ?_
  rintro e w12 ⟨rfl, hb12⟩
  have hB12 := hB11.trans (hb12.mono hB11.size)
  have bx12 := bx11.below hb12 bx11.lt
  have by12 := by11.below hb12 by11.lt
  have HS := sameF_calls 0 (.slice none 0 0) (.slice none 0 0) { data := #[] } [] w12 (IRow.nil _) (IRow.nil _)
  have a0 := bx12.c0
  have a1 := bx12.c1
  have a2 := bx12.c2
  have b0 := by12.c0
  have b1 := by12.c1
  have b2 := by12.c2
  clear hb12 bx11 by11 hB11 CE2
  go_wp2_with (first | (go_at_call 13; refine HS.mono ?_; rintro e w13 ⟨rfl, hb13⟩; have hB13 := hB12.trans (hb13.mono hB12.size)))
  go_ret
  exact ⟨by simp, hB13⟩

set_option maxRecDepth 100000 in
set_option maxHeartbeats 4000000 in
theorem tells_ns (k : Int) (v : Value) (d : ByteArray) (ns : List Int) (b : ByteArray) (w : World) (hH : (V.Forms w ∧ Cnts w) ∧ Handle w) (hR : IRow w v ns) (hd : d.size ≤ maxLen) (hb : b.size ≤ maxLen) (hb47 : b.size ≤ 140737488355328) (h1 : frF k ns d ≠ 0) (kx : Int) (nx : List Int) (dx : ByteArray) (m : Nat) (h2 : rdF b = some ((kx, nx, dx), m)) : Calls Tryd.prog 3 #[.agg #[.int .i64 k, v, .string d], .string b] w fun e w' => e = .returned (.bool true) ∧ Below w.heap.size w w' := by
  have CF := fun W (hb' : Below w.heap.size w W) => dframe_calls k v d ns W (hR.below hb') hd
  have CC := fun W (hb' : Below w.heap.size w W) => frame_check k v d ns W (hH.1.2.below hb') (hR.below hb') hd
  have CP := fun W (hb' : Below w.heap.size w W) => frame_print_no k v d ns W (hH.1.2.below hb') (hR.below hb') hd h1
  rw [show errV (frF k ns d) = .iface 45 (.int .i64 (frF k ns d)) by simp [errV, h1]] at CC CP
  have CE := fun W (hb' : Below w.heap.size w W) => same_err (frF k ns d) (frF k ns d) W (hH.2.below hb')
  simp only [BEq.rfl] at CE
  have hf0 : ¬ frF k ns d = 0 := h1
  generalize frF k ns d = f at *
  have hfb : (f == 0) = false := by simp [hf0]
  have CR := fun W => dread_yes b W hb47 kx nx dx m h2
  have CX := fun W (hb' : Below w.heap.size w W) => frame_parse_yes b W (hH.1.2.below hb') (hH.1.1.below hb') hb kx nx dx m h2
  have CE2 := fun W => same_nil 0 W
  simp only [BEq.rfl] at CE2
  have hB1 : Below w.heap.size w (w.alloc (.cells #[.int .i64 k, v, .string d] 24)) := (Below.refl _ w).alloc (Nat.le_refl _) _
  have bx1 : FBox (w.alloc (.cells #[.int .i64 k, v, .string d] 24)) w.heap.size k v d := FBox.new w k v d
  obtain ⟨ao, c, rfl, _⟩ := hR
  clear hH hd hb hb47 h1 h2
  generalize ns.length = n at *
  have f10 := bx1.c0
  have f11 := bx1.c1
  have f12 := bx1.c2
  go_enter Tryd.func3, Tryd.ntmps3
  go_wp2_with fail
  generalize w.alloc (.cells #[.int .i64 k, .slice ao n c, .string d] 24) = W1 at *
  refine (CF W1 hB1).mono ?_
  rintro e w2 ⟨rfl, hb2⟩
  have bx2 := bx1.below hb2 bx1.lt
  have hB2 := hB1.trans (hb2.mono hB1.size)
  have f20 := bx2.c0
  have f21 := bx2.c1
  have f22 := bx2.c2
  clear hb2 bx1 hB1 f10 f11 f12
  go_wp2_with fail
  refine (CC w2 hB2).mono ?_
  rintro e w3 ⟨rfl, hb3⟩
  have bx3 := bx2.below hb3 bx2.lt
  have hB3 := hB2.trans (hb3.mono hB2.size)
  have f30 := bx3.c0
  have f31 := bx3.c1
  have f32 := bx3.c2
  clear hb3 bx2 hB2 f20 f21 f22
  go_wp2_with fail
  refine (CE w3 hB3).mono ?_
  rintro e w4 ⟨rfl, hb4⟩
  have bx4 := bx3.below hb4 bx3.lt
  have hB4 := hB3.trans (hb4.mono hB3.size)
  have f40 := bx4.c0
  have f41 := bx4.c1
  have f42 := bx4.c2
  clear hb4 bx3 hB3 f30 f31 f32
  have bx5 := bx4
  have hB5 := hB4
  have f50 := bx5.c0
  have f51 := bx5.c1
  have f52 := bx5.c2
  have hw5 : w4 = w4 := rfl
  go_wp2_with fail
  refine (CP w4 hB5).mono ?_
  rintro e w6 ⟨rfl, hb6⟩
  have bx6 := bx5.below hb6 bx5.lt
  have hB6 := hB5.trans (hb6.mono hB5.size)
  have f60 := bx6.c0
  have f61 := bx6.c1
  have f62 := bx6.c2
  clear hb6 bx5 hB5 f50 f51 f52
  go_wp2_with fail
  refine (CE w6 hB6).mono ?_
  rintro e w7 ⟨rfl, hb7⟩
  have bx7 := bx6.below hb7 bx6.lt
  have hB7 := hB6.trans (hb7.mono hB6.size)
  have f70 := bx7.c0
  have f71 := bx7.c1
  have f72 := bx7.c2
  clear hb7 bx6 hB6 f60 f61 f62
  go_wp2_with fail
  refine (CR w7).mono ?_
  rintro e w8 ⟨vx, rfl, hRx, hb8⟩
  have hB8 := hB7.trans (hb8.mono hB7.size)
  obtain ⟨ax, cx, hvx, _⟩ := id hRx
  subst hvx
  clear hb8 hB7 bx7 f70 f71 f72 CR
  have bel9 : Below w8.heap.size w8 (w8.alloc (.cells #[.int .i64 kx, .slice ax nx.length cx, .string dx] 24)) := (Below.refl _ w8).alloc (Nat.le_refl _) _
  have hB9 := hB8.trans (bel9.mono hB8.size)
  have bx9 : FBox (w8.alloc (.cells #[.int .i64 kx, .slice ax nx.length cx, .string dx] 24)) w8.heap.size kx (.slice ax nx.length cx) dx := FBox.new w8 _ _ _
  have hRx9 := hRx.below bel9
  go_wp2_with fail
  generalize w8.alloc (.cells #[.int .i64 kx, .slice ax nx.length cx, .string dx] 24) = W9 at *
  refine (CX W9 hB9).mono ?_
  rintro e w10 ⟨vy, rfl, hRy, hb10⟩
  obtain ⟨ay, cy, hvy, _⟩ := id hRy
  subst hvy
  have hB10 := hB9.trans (hb10.mono hB9.size)
  have bx10 := bx9.below hb10 bx9.lt
  have hRx10 := hRx9.below hb10
  have bel11 : Below w10.heap.size w10 (w10.alloc (.cells #[.int .i64 kx, .slice ay nx.length cy, .string dx] 24)) := (Below.refl _ w10).alloc (Nat.le_refl _) _
  have hB11 := hB10.trans (bel11.mono hB10.size)
  have bx11 := bx10.alloc (.cells #[.int .i64 kx, .slice ay nx.length cy, .string dx] 24)
  have by11 : FBox (w10.alloc (.cells #[.int .i64 kx, .slice ay nx.length cy, .string dx] 24)) w10.heap.size kx (.slice ay nx.length cy) dx := FBox.new w10 _ _ _
  have hRx11 := hRx10.below bel11
  have hRy11 := hRy.below bel11
  clear CX hRx hRx9 hRx10 hRy bx9 bx10 hB8 hB9 hB10 hb10 bel9 bel11
  go_wp2_with fail
  generalize w10.alloc (.cells #[.int .i64 kx, .slice ay nx.length cy, .string dx] 24) = W11 at *
  refine (CE2 W11).mono ?_
  rintro e w12 ⟨rfl, hb12⟩
  have hB12 := hB11.trans (hb12.mono hB11.size)
  have bx12 := bx11.below hb12 bx11.lt
  have by12 := by11.below hb12 by11.lt
  have HS := sameF_calls kx (.slice ay nx.length cy) (.slice ax nx.length cx) dx nx w12 (hRy11.below hb12) (hRx11.below hb12)
  have a0 := bx12.c0
  have a1 := bx12.c1
  have a2 := bx12.c2
  have b0 := by12.c0
  have b1 := by12.c1
  have b2 := by12.c2
  clear hb12 bx11 by11 hB11 CE2
  go_wp2_with (first | (go_at_call 13; refine HS.mono ?_; rintro e w13 ⟨rfl, hb13⟩; have hB13 := hB12.trans (hb13.mono hB12.size)))
  go_ret
  exact ⟨by simp, hB13⟩

set_option maxRecDepth 100000 in
set_option maxHeartbeats 4000000 in
theorem tells_nz (k : Int) (v : Value) (d : ByteArray) (ns : List Int) (b : ByteArray) (w : World) (hH : (V.Forms w ∧ Cnts w) ∧ Handle w) (hR : IRow w v ns) (hd : d.size ≤ maxLen) (hb : b.size ≤ maxLen) (hb47 : b.size ≤ 140737488355328) (h1 : frF k ns d ≠ 0) (h2 : rdF b = none) : Calls Tryd.prog 3 #[.agg #[.int .i64 k, v, .string d], .string b] w fun e w' => e = .returned (.bool true) ∧ Below w.heap.size w w' := by
  have CF := fun W (hb' : Below w.heap.size w W) => dframe_calls k v d ns W (hR.below hb') hd
  have CC := fun W (hb' : Below w.heap.size w W) => frame_check k v d ns W (hH.1.2.below hb') (hR.below hb') hd
  have CP := fun W (hb' : Below w.heap.size w W) => frame_print_no k v d ns W (hH.1.2.below hb') (hR.below hb') hd h1
  rw [show errV (frF k ns d) = .iface 45 (.int .i64 (frF k ns d)) by simp [errV, h1]] at CC CP
  have CE := fun W (hb' : Below w.heap.size w W) => same_err (frF k ns d) (frF k ns d) W (hH.2.below hb')
  simp only [BEq.rfl] at CE
  have hf0 : ¬ frF k ns d = 0 := h1
  generalize frF k ns d = f at *
  have hfb : (f == 0) = false := by simp [hf0]
  have CR := fun W => dread_no b W hb47 h2
  have CX := fun W (hb' : Below w.heap.size w W) => frame_parse_no b W (hH.1.2.below hb') (hH.1.1.below hb') hb h2
  simp only [noFrame, errS] at CX
  have CE2 := fun W (hb' : Below w.heap.size w W) => same_err 2 2 W (hH.2.below hb')
  simp only [BEq.rfl] at CE2
  have hB1 : Below w.heap.size w (w.alloc (.cells #[.int .i64 k, v, .string d] 24)) := (Below.refl _ w).alloc (Nat.le_refl _) _
  have bx1 : FBox (w.alloc (.cells #[.int .i64 k, v, .string d] 24)) w.heap.size k v d := FBox.new w k v d
  obtain ⟨ao, c, rfl, _⟩ := hR
  clear hH hd hb hb47 h1 h2
  generalize ns.length = n at *
  have f10 := bx1.c0
  have f11 := bx1.c1
  have f12 := bx1.c2
  go_enter Tryd.func3, Tryd.ntmps3
  go_wp2_with fail
  generalize w.alloc (.cells #[.int .i64 k, .slice ao n c, .string d] 24) = W1 at *
  refine (CF W1 hB1).mono ?_
  rintro e w2 ⟨rfl, hb2⟩
  have bx2 := bx1.below hb2 bx1.lt
  have hB2 := hB1.trans (hb2.mono hB1.size)
  have f20 := bx2.c0
  have f21 := bx2.c1
  have f22 := bx2.c2
  clear hb2 bx1 hB1 f10 f11 f12
  go_wp2_with fail
  refine (CC w2 hB2).mono ?_
  rintro e w3 ⟨rfl, hb3⟩
  have bx3 := bx2.below hb3 bx2.lt
  have hB3 := hB2.trans (hb3.mono hB2.size)
  have f30 := bx3.c0
  have f31 := bx3.c1
  have f32 := bx3.c2
  clear hb3 bx2 hB2 f20 f21 f22
  go_wp2_with fail
  refine (CE w3 hB3).mono ?_
  rintro e w4 ⟨rfl, hb4⟩
  have bx4 := bx3.below hb4 bx3.lt
  have hB4 := hB3.trans (hb4.mono hB3.size)
  have f40 := bx4.c0
  have f41 := bx4.c1
  have f42 := bx4.c2
  clear hb4 bx3 hB3 f30 f31 f32
  have bx5 := bx4
  have hB5 := hB4
  have f50 := bx5.c0
  have f51 := bx5.c1
  have f52 := bx5.c2
  have hw5 : w4 = w4 := rfl
  go_wp2_with fail
  refine (CP w4 hB5).mono ?_
  rintro e w6 ⟨rfl, hb6⟩
  have bx6 := bx5.below hb6 bx5.lt
  have hB6 := hB5.trans (hb6.mono hB5.size)
  have f60 := bx6.c0
  have f61 := bx6.c1
  have f62 := bx6.c2
  clear hb6 bx5 hB5 f50 f51 f52
  go_wp2_with fail
  refine (CE w6 hB6).mono ?_
  rintro e w7 ⟨rfl, hb7⟩
  have bx7 := bx6.below hb7 bx6.lt
  have hB7 := hB6.trans (hb7.mono hB6.size)
  have f70 := bx7.c0
  have f71 := bx7.c1
  have f72 := bx7.c2
  clear hb7 bx6 hB6 f60 f61 f62
  go_wp2_with fail
  refine (CR w7).mono ?_
  rintro e w8 ⟨rfl, hb8⟩
  have hB8 := hB7.trans (hb8.mono hB7.size)
  clear hb8 hB7 bx7 f70 f71 f72 CR
  have bel9 : Below w8.heap.size w8 (w8.alloc (.cells #[.int .i64 0, .slice none 0 0, .string { data := #[] }] 24)) := (Below.refl _ w8).alloc (Nat.le_refl _) _
  have hB9 := hB8.trans (bel9.mono hB8.size)
  have bx9 : FBox (w8.alloc (.cells #[.int .i64 0, .slice none 0 0, .string { data := #[] }] 24)) w8.heap.size 0 (.slice none 0 0) { data := #[] } := FBox.new w8 _ _ _
  go_upto_region 12 with fail
  generalize w8.alloc (.cells #[.int .i64 0, .slice none 0 0, .string { data := #[] }] 24) = V9 at *
  have y0 := bx9.c0
  have y1 := bx9.c1
  have y2 := bx9.c2
  have y3 := bx9.fz 0
  have y4 := bx9.fz 1
  have y5 := bx9.fz 2
  go_wp2_with fail
  have hB9' : Below w.heap.size w (((V9.setCell ⟨w8.heap.size, 0, none⟩ (.int .i64 0)).setCell ⟨w8.heap.size, 1, none⟩ (.slice none 0 0)).setCell ⟨w8.heap.size, 2, none⟩ (.string { data := #[] })) := ((hB9.setCell hB8.size _).setCell hB8.size _).setCell hB8.size _
  have bx9' := bx9.set 0 (.slice none 0 0) { data := #[] }
  generalize ((V9.setCell ⟨w8.heap.size, 0, none⟩ (.int .i64 0)).setCell ⟨w8.heap.size, 1, none⟩ (.slice none 0 0)).setCell ⟨w8.heap.size, 2, none⟩ (.string { data := #[] }) = W9 at *
  clear y0 y1 y2 y3 y4 y5 bx9 hB9 bel9
  refine (CX W9 hB9').mono ?_
  rintro e w10 ⟨rfl, hb10⟩
  have hB10 := hB9'.trans (hb10.mono hB9'.size)
  have bx10 := bx9'.below hb10 bx9'.lt
  have bel11 : Below w10.heap.size w10 (w10.alloc (.cells #[.int .i64 0, .slice none 0 0, .string { data := #[] }] 24)) := (Below.refl _ w10).alloc (Nat.le_refl _) _
  have hB11 := hB10.trans (bel11.mono hB10.size)
  have bx11 := bx10.alloc (.cells #[.int .i64 0, .slice none 0 0, .string { data := #[] }] 24)
  have by11 : FBox (w10.alloc (.cells #[.int .i64 0, .slice none 0 0, .string { data := #[] }] 24)) w10.heap.size 0 (.slice none 0 0) { data := #[] } := FBox.new w10 _ _ _
  clear CX bx9' bx10 hB8 hB9' hB10 hb10 bel11
  go_wp2_with fail
  generalize w10.alloc (.cells #[.int .i64 0, .slice none 0 0, .string { data := #[] }] 24) = W11 at *
  refine (CE2 W11 hB11).mono ?_
  rintro e w12 ⟨rfl, hb12⟩
  have hB12 := hB11.trans (hb12.mono hB11.size)
  have bx12 := bx11.below hb12 bx11.lt
  have by12 := by11.below hb12 by11.lt
  have HS := sameF_calls 0 (.slice none 0 0) (.slice none 0 0) { data := #[] } [] w12 (IRow.nil _) (IRow.nil _)
  have a0 := bx12.c0
  have a1 := bx12.c1
  have a2 := bx12.c2
  have b0 := by12.c0
  have b1 := by12.c1
  have b2 := by12.c2
  clear hb12 bx11 by11 hB11 CE2
  go_wp2_with (first | (go_at_call 13; refine HS.mono ?_; rintro e w13 ⟨rfl, hb13⟩; have hB13 := hB12.trans (hb13.mono hB12.size)))
  go_ret
  exact ⟨by simp, hB13⟩

theorem tells_walk (k : Int) (v : Value) (d : ByteArray) (ns : List Int) (b : ByteArray) (w : World) (hH : (V.Forms w ∧ Cnts w) ∧ Handle w) (hR : IRow w v ns) (hd : d.size ≤ maxLen) (hb : b.size ≤ maxLen) (hb47 : b.size ≤ 2 ^ 47) : Calls Tryd.prog 3 #[.agg #[.int .i64 k, v, .string d], .string b] w fun e w' => e = .returned (.bool true) ∧ Below w.heap.size w w' := by
  have hb48 : b.size ≤ 140737488355328 := hb47
  by_cases h1 : frF k ns d = 0
  · cases h2 : rdF b with
    | none => exact tells_yz k v d ns b w hH hR hd hb hb48 h1 h2
    | some x =>
      obtain ⟨⟨kx, nx, dx⟩, m⟩ := x
      exact tells_ys k v d ns b w hH hR hd hb hb48 h1 kx nx dx m h2
  · cases h2 : rdF b with
    | none => exact tells_nz k v d ns b w hH hR hd hb hb48 h1 h2
    | some x =>
      obtain ⟨⟨kx, nx, dx⟩, m⟩ := x
      exact tells_ns k v d ns b w hH hR hd hb hb48 h1 kx nx dx m h2
end Go.Proofs.YtibfnneiampikaaDoor
