/- What Parse answers. -/
import Derived.Test.YtoabfilliiopmaaDoorFJ
import Derived.Deep.Cut
namespace Go.Proofs.YtoabfilliiopmaaDoor
open Go.RowKit Go.Lib Go.Sort
set_option linter.unusedVariables false
set_option linter.unusedSimpArgs false


theorem index0 (s : ByteArray) (k : Int) (l : List Int) (h : V.ints s = k :: l) (w : World) : (Instr.index 9 (.string s) (.int .i64 0)).run Tryd.prog w = .ok (.int .u8 k) w := by
  have hp : 0 < s.size := by rw [← ints_length, h]; simp
  have e : (s[0].toNat : Int) = k := by
    obtain ⟨⟨r⟩⟩ := s
    cases r with
    | nil => exact absurd hp (by decide)
    | cons b r =>
      simp only [V.ints, List.map_cons, List.cons.injEq] at h
      exact h.1
  have eu := Tryd.underlying9
  have hp' : (0 : Int) < (s.size : Int) := by omega
  go_simp
  first | done | simp [e]

set_option maxRecDepth 100000 in
set_option maxHeartbeats 4000000 in
theorem parse_a (w : World) : Calls Tryd.prog 22 #[.string { data := #[] }] w fun e w' => e = noFrame ∧ Below w.heap.size w w' := by
  simp only [noFrame, errS]
  go_enter Tryd.func22, Tryd.ntmps22
  go_wp2_with fail
  refine bodyPost_ret (v := .tuple #[zeroF, .int .i64 0, .iface 53 (.int .i64 2)]) ?_ rfl ⟨rfl, ?_⟩
  · rw [results_cell3 rfl]; go_simp
  · exact (Below.refl _ w).alloc (Nat.le_refl _) _

set_option maxRecDepth 100000 in
set_option maxHeartbeats 4000000 in
theorem parse_b (s : ByteArray) (k : Int) (l : List Int) (w : World) (hs : V.ints s = k :: l) (h1 : kindB k = false) : Calls Tryd.prog 22 #[.string s] w fun e w' => e = noFrame ∧ Below w.heap.size w w' := by
  have hne : (s.toList == []) = false := str_ne (by rw [← ints_length, hs]; simp)
  have hix := index0 s k l hs
  have hk0 := bytes_ints s k (by rw [hs]; simp)
  have HK := isKind_calls k
  rw [h1] at HK
  simp only [noFrame, errS]
  clear hs
  go_enter Tryd.func22, Tryd.ntmps22
  go_wp2_with (first | (go_at_call 31; refine (HK _).mono ?_; rintro e w1 ⟨rfl, rfl⟩))
  refine bodyPost_ret (v := .tuple #[zeroF, .int .i64 0, .iface 53 (.int .i64 2)]) ?_ rfl ⟨rfl, ?_⟩
  · rw [results_cell3 rfl]; go_simp
  · exact (Below.refl _ w).alloc (Nat.le_refl _) _

set_option maxRecDepth 100000 in
set_option maxHeartbeats 4000000 in
theorem parse_c (s : ByteArray) (k : Int) (l : List Int) (w : World) (hC : Cnts w) (hF : V.Forms w) (hl : s.size ≤ maxLen) (hs : V.ints s = k :: l) (h1 : kindB k = true) (h2 : rdNums k l = none) : Calls Tryd.prog 22 #[.string s] w fun e w' => e = noFrame ∧ Below w.heap.size w w' := by
  have hne : (s.toList == []) = false := str_ne (by rw [← ints_length, hs]; simp)
  have hix := index0 s k l hs
  have hk0 := bytes_ints s k (by rw [hs]; simp)
  have HK := isKind_calls k
  rw [h1] at HK
  have hsz : s.size = l.length + 1 := by rw [← ints_length, hs]; rfl
  unfold maxLen at hl
  have hsl : ∀ W, (Instr.slice 9 (.string s) (some (.int .i64 1)) none none).run Tryd.prog W = .ok (.string (s.extract 1 s.size)) W := run_from s 1 (by omega) hl
  have hid := ints_drop s 1 (by omega)
  rw [hs] at hid
  simp only [List.drop_succ_cons, List.drop_zero] at hid
  have hr1 : (s.extract 1 s.size).size = s.size - 1 := by rw [ByteArray.size_extract]; omega
  have hB2 : Below w.heap.size w ((w.alloc (.cells #[.int .i64 0, .slice none 0 0, .string { data := #[] }] 33)).alloc (.cells #[.int .i64 k, .slice none 0 0, .string { data := #[] }] 33)) := ((Below.refl _ w).alloc (Nat.le_refl _) _).alloc (by simp) _
  have bR : FBox ((w.alloc (.cells #[.int .i64 0, .slice none 0 0, .string { data := #[] }] 33)).alloc (.cells #[.int .i64 k, .slice none 0 0, .string { data := #[] }] 33)) w.heap.size 0 (.slice none 0 0) { data := #[] } := (FBox.new w 0 _ _).alloc _
  have bF : FBox ((w.alloc (.cells #[.int .i64 0, .slice none 0 0, .string { data := #[] }] 33)).alloc (.cells #[.int .i64 k, .slice none 0 0, .string { data := #[] }] 33)) (w.heap.size + 1) k (.slice none 0 0) { data := #[] } := by
    have := FBox.new (w.alloc (.cells #[.int .i64 0, .slice none 0 0, .string { data := #[] }] 33)) k (.slice none 0 0) { data := #[] }
    rwa [World.size_alloc] at this
  have hs2 : ((w.alloc (.cells #[.int .i64 0, .slice none 0 0, .string { data := #[] }] 33)).alloc (.cells #[.int .i64 k, .slice none 0 0, .string { data := #[] }] 33)).heap.size = w.heap.size + 2 := by simp
  have hr1' : (s.extract 1 s.size).size ≤ maxLen := by unfold maxLen; omega
  generalize s.extract 1 s.size = r1 at *
  have HN := fun W (hb : Below w.heap.size w W) => nums_no k r1 W (hC.below hb) (hF.below hb) hr1' h1 (by rw [hid]; exact h2)
  simp only [noNums, noFrame, errS] at HN ⊢
  clear hr1' hid h2
  clear hC hF hs hl hsz
  go_enter Tryd.func22, Tryd.ntmps22
  go_wp2_with (first | (go_at_call 31; refine (HK _).mono ?_; rintro e w1 ⟨rfl, rfl⟩))
  generalize ((w.alloc (.cells #[.int .i64 0, .slice none 0 0, .string { data := #[] }] 33)).alloc (.cells #[.int .i64 k, .slice none 0 0, .string { data := #[] }] 33)) = W2 at *
  have d0 : W2.drew.cell? ⟨w.heap.size + 1, 0, none⟩ = some (.int .i64 k) := bF.c0
  have hBd : Below w.heap.size w W2.drew := hB2.drew
  have bRd : FBox W2.drew w.heap.size 0 (.slice none 0 0) { data := #[] } := bR
  have bFd : FBox W2.drew (w.heap.size + 1) k (.slice none 0 0) { data := #[] } := bF
  have hs2d : W2.drew.heap.size = w.heap.size + 2 := hs2
  clear bR bF hB2 hs2
  go_region_held3 (fun X => X.cell? ⟨w.heap.size + 1, 0, none⟩ = some (.int .i64 k)) (go_keep) (first | (go_at_call 32; refine (HN _ hBd).mono ?_; rintro e w3 ⟨rfl, hb3⟩; have b3 := bFd.below hb3 (by omega); have b4 := bRd.below hb3 (by omega); have f0 := b3.c0; have hB3 := hBd.trans (hb3.mono hBd.size)))
  have c40 := b4.c0
  have c41 := b4.c1
  have c42 := b4.c2
  have z0 := b4.fz 0
  have z1 := b4.fz 1
  have z2 := b4.fz 2
  go_wp2_with fail
  refine bodyPost_ret (v := .tuple #[zeroF, .int .i64 0, .iface 53 (.int .i64 2)]) ?_ rfl ⟨rfl, ?_⟩
  · rw [results_cell3 rfl]; go_simp
  · first | exact hB3 | exact ((hB3.setCell (Nat.le_refl _) _).setCell (Nat.le_refl _) _).setCell (Nat.le_refl _) _

theorem own_le {w : World} {base base' : Nat} {v : Value} {xs : List Int} (h : OwnI w base v xs) (hb : base' ≤ base) : OwnI w base' v xs :=
  ⟨h.1, h.2.imp id (fun ⟨g, cap, cur, a, b, c⟩ => ⟨g, cap, cur, a, Nat.le_trans hb b, c⟩)⟩
theorem own_set {w : World} {base B j : Nat} {v u : Value} {xs : List Int} (h : OwnI w base v xs) (hB : B < base) : OwnI (w.setCell ⟨B, j, none⟩ u) base v xs :=
  ownsRow_setCell_other (a := ⟨B, j, none⟩) h (fun e => by have := (h.lt B e).1; omega) u

set_option maxRecDepth 100000 in
set_option maxHeartbeats 4000000 in
theorem parse_e (s : ByteArray) (k : Int) (l : List Int) (w : World) (hC : Cnts w) (hF : V.Forms w) (hl : s.size ≤ maxLen) (hs : V.ints s = k :: l) (h1 : kindB k = true) (h3 : k ≠ 3) (ns : List Int) (c : Nat) (h2 : rdNums k l = some (ns, c)) (hc : c ≤ l.length) (N : Nat) (hN : N = 1 + c) (hn : ns.length ≤ 24) : Calls Tryd.prog 22 #[.string s] w fun e w' => ∃ v, e = .returned (.tuple #[.agg #[.int .i64 k, v, .string { data := #[] }], .int .i64 (N : Int), .nilIface]) ∧ OwnI w' w.heap.size v ns ∧ Below w.heap.size w w' := by
  have hne : (s.toList == []) = false := str_ne (by rw [← ints_length, hs]; simp)
  have hix := index0 s k l hs
  have hk0 := bytes_ints s k (by rw [hs]; simp)
  have HK := isKind_calls k
  rw [h1] at HK
  have hsz : s.size = l.length + 1 := by rw [← ints_length, hs]; rfl
  unfold maxLen at hl
  have hsl : ∀ W, (Instr.slice 9 (.string s) (some (.int .i64 1)) none none).run Tryd.prog W = .ok (.string (s.extract 1 s.size)) W := run_from s 1 (by omega) hl
  have hid := ints_drop s 1 (by omega)
  rw [hs] at hid
  simp only [List.drop_succ_cons, List.drop_zero] at hid
  have hr1 : (s.extract 1 s.size).size = s.size - 1 := by rw [ByteArray.size_extract]; omega
  have hB2 : Below w.heap.size w ((w.alloc (.cells #[.int .i64 0, .slice none 0 0, .string { data := #[] }] 33)).alloc (.cells #[.int .i64 k, .slice none 0 0, .string { data := #[] }] 33)) := ((Below.refl _ w).alloc (Nat.le_refl _) _).alloc (by simp) _
  have bR : FBox ((w.alloc (.cells #[.int .i64 0, .slice none 0 0, .string { data := #[] }] 33)).alloc (.cells #[.int .i64 k, .slice none 0 0, .string { data := #[] }] 33)) w.heap.size 0 (.slice none 0 0) { data := #[] } := (FBox.new w 0 _ _).alloc _
  have bF : FBox ((w.alloc (.cells #[.int .i64 0, .slice none 0 0, .string { data := #[] }] 33)).alloc (.cells #[.int .i64 k, .slice none 0 0, .string { data := #[] }] 33)) (w.heap.size + 1) k (.slice none 0 0) { data := #[] } := by
    have := FBox.new (w.alloc (.cells #[.int .i64 0, .slice none 0 0, .string { data := #[] }] 33)) k (.slice none 0 0) { data := #[] }
    rwa [World.size_alloc] at this
  have hs2 : ((w.alloc (.cells #[.int .i64 0, .slice none 0 0, .string { data := #[] }] 33)).alloc (.cells #[.int .i64 k, .slice none 0 0, .string { data := #[] }] 33)).heap.size = w.heap.size + 2 := by simp
  have hr1' : (s.extract 1 s.size).size ≤ maxLen := by unfold maxLen; omega
  generalize s.extract 1 s.size = r1 at *
  have HN := fun W (hb : Below w.heap.size w W) => nums_yes k r1 W (hC.below hb) (hF.below hb) hr1' h1 ns c (by rw [hid]; exact h2)
  have hr2 : (r1.extract c r1.size).size = s.size - 1 - c := by rw [ByteArray.size_extract]; omega
  generalize r1.extract c r1.size = r2 at *
  have hsub : (s.size : Int) - (r2.size : Int) = (N : Int) := by omega
  have gr : (r2.size : Int) ≤ (s.size : Int) := by omega
  have tl : s.size ≤ 9223372036854775807 := hl
  have hl24 : Hid (ns.length ≤ 24) := hn
  clear hn
  have hk3 : ¬ k = 3 := h3
  clear hr1' hid h2 hc hN hr2
  clear hC hF hs hl hsz
  go_enter Tryd.func22, Tryd.ntmps22
  go_wp2_with (first | (go_at_call 31; refine (HK _).mono ?_; rintro e w1 ⟨rfl, rfl⟩))
  generalize ((w.alloc (.cells #[.int .i64 0, .slice none 0 0, .string { data := #[] }] 33)).alloc (.cells #[.int .i64 k, .slice none 0 0, .string { data := #[] }] 33)) = W2 at *
  have d0 : W2.drew.cell? ⟨w.heap.size + 1, 0, none⟩ = some (.int .i64 k) := bF.c0
  have hBd : Below w.heap.size w W2.drew := hB2.drew
  have bRd : FBox W2.drew w.heap.size 0 (.slice none 0 0) { data := #[] } := bR
  have bFd : FBox W2.drew (w.heap.size + 1) k (.slice none 0 0) { data := #[] } := bF
  have hs2d : W2.drew.heap.size = w.heap.size + 2 := hs2
  clear bR bF hB2 hs2
  go_region_held3 (fun X => X.cell? ⟨w.heap.size + 1, 0, none⟩ = some (.int .i64 k)) (go_keep) (first | (go_at_call 32; refine (HN _ hBd).mono ?_; rintro e w3 ⟨v3, rfl, ho3, hb3⟩; obtain ⟨a3, c3, hv3⟩ := id ho3.shape; subst hv3; have bF3 := bFd.below hb3 (by omega); have bR3 := bRd.below hb3 (by omega); have f0 := bF3.c0; have hB3 := hBd.trans (hb3.mono hBd.size)))
  have f1 := bF3.c1
  have f1z := bF3.fz 1
  rw [hs2d] at ho3
  clear bRd bFd hBd d0 hb3 hs2d HN
  go_upto_region 8 with fail
  have bF4 := bF3.set1 (.slice a3 ns.length c3)
  have bR4 : FBox (w3.setCell ⟨w.heap.size + 1, 1, none⟩ (.slice a3 ns.length c3)) w.heap.size 0 (.slice none 0 0) { data := #[] } := bR3.other (by omega) _
  have hB4 : Below w.heap.size w (w3.setCell ⟨w.heap.size + 1, 1, none⟩ (.slice a3 ns.length c3)) := hB3.setCell (by simp) _
  have ho4 := own_set (B := w.heap.size + 1) (j := 1) (u := .slice a3 ns.length c3) ho3 (by omega)
  generalize w3.setCell ⟨w.heap.size + 1, 1, none⟩ (.slice a3 ns.length c3) = W4 at *
  clear bF3 bR3 hB3 ho3 f0 f1 f1z
  have q0 := bF4.c0
  have q1 := bF4.c1
  have q2 := bF4.c2
  have c40 := bR4.c0
  have c41 := bR4.c1
  have c42 := bR4.c2
  have z0 := bR4.fz 0
  have z1 := bR4.fz 1
  have z2 := bR4.fz 2
  go_wp2_with fail
  refine bodyPost_ret (v := .tuple #[.agg #[.int .i64 k, .slice a3 ns.length c3, .string { data := #[] }], .int .i64 (N : Int), .nilIface]) ?_ rfl ⟨_, rfl, ?_, ?_⟩
  · rw [results_cell3 rfl]; go_simp
  · exact own_le (own_set (own_set (own_set ho4 (by omega)) (by omega)) (by omega)) (by omega)
  · exact ((hB4.setCell (Nat.le_refl _) _).setCell (Nat.le_refl _) _).setCell (Nat.le_refl _) _

set_option maxRecDepth 100000 in
set_option maxHeartbeats 4000000 in
theorem parse_f (s : ByteArray) (l : List Int) (w : World) (hC : Cnts w) (hF : V.Forms w) (hl : s.size ≤ maxLen) (hs : V.ints s = 3 :: l) (h1 : kindB 3 = true) (ns : List Int) (c : Nat) (h2 : rdNums 3 l = some (ns, c)) (hc : c ≤ l.length) (q c2 : Nat) (h4 : rdPiece (l.drop c) = some (q, c2)) (hq : q ≤ 20) (hcq : c + c2 + q ≤ l.length) (N : Nat) (hN : N = 1 + c + c2 + q) (hn : ns.length ≤ 24) : Calls Tryd.prog 22 #[.string s] w fun e w' => ∃ v, e = .returned (.tuple #[.agg #[.int .i64 3, v, .string (s.extract (1 + c + c2) N)], .int .i64 (N : Int), .nilIface]) ∧ OwnI w' w.heap.size v ns ∧ Below w.heap.size w w' := by
  have hne : (s.toList == []) = false := str_ne (by rw [← ints_length, hs]; simp)
  have hix := index0 s 3 l hs
  have hk0 := bytes_ints s 3 (by rw [hs]; simp)
  have HK := isKind_calls 3
  rw [h1] at HK
  have hsz : s.size = l.length + 1 := by rw [← ints_length, hs]; rfl
  unfold maxLen at hl
  have hsl : ∀ W, (Instr.slice 9 (.string s) (some (.int .i64 1)) none none).run Tryd.prog W = .ok (.string (s.extract 1 s.size)) W := run_from s 1 (by omega) hl
  have hid := ints_drop s 1 (by omega)
  rw [hs] at hid
  simp only [List.drop_succ_cons, List.drop_zero] at hid
  have hr1 : (s.extract 1 s.size).size = s.size - 1 := by rw [ByteArray.size_extract]; omega
  have hB2 : Below w.heap.size w ((w.alloc (.cells #[.int .i64 0, .slice none 0 0, .string { data := #[] }] 33)).alloc (.cells #[.int .i64 3, .slice none 0 0, .string { data := #[] }] 33)) := ((Below.refl _ w).alloc (Nat.le_refl _) _).alloc (by simp) _
  have bR : FBox ((w.alloc (.cells #[.int .i64 0, .slice none 0 0, .string { data := #[] }] 33)).alloc (.cells #[.int .i64 3, .slice none 0 0, .string { data := #[] }] 33)) w.heap.size 0 (.slice none 0 0) { data := #[] } := (FBox.new w 0 _ _).alloc _
  have bF : FBox ((w.alloc (.cells #[.int .i64 0, .slice none 0 0, .string { data := #[] }] 33)).alloc (.cells #[.int .i64 3, .slice none 0 0, .string { data := #[] }] 33)) (w.heap.size + 1) 3 (.slice none 0 0) { data := #[] } := by
    have := FBox.new (w.alloc (.cells #[.int .i64 0, .slice none 0 0, .string { data := #[] }] 33)) 3 (.slice none 0 0) { data := #[] }
    rwa [World.size_alloc] at this
  have hs2 : ((w.alloc (.cells #[.int .i64 0, .slice none 0 0, .string { data := #[] }] 33)).alloc (.cells #[.int .i64 3, .slice none 0 0, .string { data := #[] }] 33)).heap.size = w.heap.size + 2 := by simp
  have hr1' : (s.extract 1 s.size).size ≤ maxLen := by unfold maxLen; omega
  have HXX : Hid (∀ a b, (s.extract 1 s.size).extract a b = s.extract (1 + a) (1 + b) ∨ s.size < 1 + b) := by
    show ∀ a b, _
    intro a b
    by_cases hb : s.size < 1 + b
    · exact .inr hb
    · left
      apply ints_inj
      rw [ints_extract (s.extract 1 s.size) a b, ints_extract s (1 + a) (1 + b), ints_drop s 1 (by omega), List.drop_drop, show 1 + b - (1 + a) = b - a by omega]
  generalize s.extract 1 s.size = r1 at *
  have HN := fun W (hb : Below w.heap.size w W) => nums_yes 3 r1 W (hC.below hb) (hF.below hb) hr1' h1 ns c (by rw [hid]; exact h2)
  have hr2 : (r1.extract c r1.size).size = s.size - 1 - c := by rw [ByteArray.size_extract]; omega
  have hid2 : V.ints (r1.extract c r1.size) = l.drop c := by rw [ints_drop r1 c (by omega), hid]
  have hr2' : (r1.extract c r1.size).size ≤ maxLen := by unfold maxLen; omega
  have HDD : Hid ((r1.extract c r1.size).extract c2 (c2 + q) = s.extract (1 + c + c2) N) := by
    show _ = _
    have e1 : (r1.extract c r1.size).extract c2 (c2 + q) = r1.extract (c + c2) (c + c2 + q) := by
      apply ints_inj
      rw [ints_extract (r1.extract c r1.size) c2 (c2 + q), ints_extract r1 (c + c2) (c + c2 + q), ints_drop r1 c (by omega), List.drop_drop]
      congr 1
      omega
    rw [e1]
    rcases HXX.out (c + c2) (c + c2 + q) with e | e
    · rw [e]; congr 1 <;> omega
    · omega
  have HP := fun W hW => piece_yes (r1.extract c r1.size) W hW hr2' q c2 (by rw [hid2]; exact h4)
  have hr3 : ((r1.extract c r1.size).extract (c2 + q) (r1.extract c r1.size).size).size = s.size - N := by rw [ByteArray.size_extract]; omega
  generalize r1.extract c r1.size = r2 at *
  generalize r2.extract c2 (c2 + q) = dd at *
  generalize r2.extract (c2 + q) r2.size = r3 at *
  have hsub : (s.size : Int) - (r3.size : Int) = (N : Int) := by omega
  have gr : (r3.size : Int) ≤ (s.size : Int) := by omega
  have tl : s.size ≤ 9223372036854775807 := hl
  rw [← HDD.out]
  have hl24 : Hid (ns.length ≤ 24) := hn
  have HF : Hid (V.Forms w) := hF
  clear hr1' hid h2 hc hN hr2 hid2 hr2' h4 hq hcq hr3 HDD HXX hn
  clear hC hF hs hl hsz
  go_enter Tryd.func22, Tryd.ntmps22
  go_wp2_with (first | (go_at_call 31; refine (HK _).mono ?_; rintro e w1 ⟨rfl, rfl⟩))
  generalize ((w.alloc (.cells #[.int .i64 0, .slice none 0 0, .string { data := #[] }] 33)).alloc (.cells #[.int .i64 3, .slice none 0 0, .string { data := #[] }] 33)) = W2 at *
  have d0 : W2.drew.cell? ⟨w.heap.size + 1, 0, none⟩ = some (.int .i64 3) := bF.c0
  have hBd : Below w.heap.size w W2.drew := hB2.drew
  have bRd : FBox W2.drew w.heap.size 0 (.slice none 0 0) { data := #[] } := bR
  have bFd : FBox W2.drew (w.heap.size + 1) 3 (.slice none 0 0) { data := #[] } := bF
  have hs2d : W2.drew.heap.size = w.heap.size + 2 := hs2
  clear bR bF hB2 hs2
  go_region_held3 (fun X => X.cell? ⟨w.heap.size + 1, 0, none⟩ = some (.int .i64 3)) (go_keep) (first | (go_at_call 32; refine (HN _ hBd).mono ?_; rintro e w3 ⟨v3, rfl, ho3, hb3⟩; obtain ⟨a3, c3, hv3⟩ := id ho3.shape; subst hv3; have bF3 := bFd.below hb3 (by omega); have bR3 := bRd.below hb3 (by omega); have f0 := bF3.c0; have hB3 := hBd.trans (hb3.mono hBd.size)))
  have f1 := bF3.c1
  have f1z := bF3.fz 1
  rw [hs2d] at ho3
  clear bRd bFd hBd d0 hb3 hs2d HN
  go_upto_region 8 with fail
  have bF4 := bF3.set1 (.slice a3 ns.length c3)
  have bR4 : FBox (w3.setCell ⟨w.heap.size + 1, 1, none⟩ (.slice a3 ns.length c3)) w.heap.size 0 (.slice none 0 0) { data := #[] } := bR3.other (by omega) _
  have hB4 : Below w.heap.size w (w3.setCell ⟨w.heap.size + 1, 1, none⟩ (.slice a3 ns.length c3)) := hB3.setCell (by simp) _
  have ho4 := own_set (B := w.heap.size + 1) (j := 1) (u := .slice a3 ns.length c3) ho3 (by omega)
  generalize w3.setCell ⟨w.heap.size + 1, 1, none⟩ (.slice a3 ns.length c3) = W4 at *
  clear bF3 bR3 hB3 ho3 f0 f1 f1z
  have q0 := bF4.c0
  have hb5 := HP W4 (HF.out.below hB4)
  go_wp2_with fail
  refine hb5.mono ?_
  rintro e w5 ⟨rfl, hb5'⟩
  have bF5 := bF4.below hb5' bF4.lt
  have bR5 := bR4.below hb5' bR4.lt
  have ho5 := ho4.below hb5'
  have hB5 := hB4.trans (hb5'.mono hB4.size)
  have y0 := bF5.c0
  have y1 := bF5.c1
  have y2 := bF5.c2
  have y3 := bF5.fz 2
  clear hb5 HP hb5' bR4 bF4 ho4 hB4 q0
  go_upto_region 10 with fail
  have bF6 := bF5.set2 dd
  have bR6 : FBox (w5.setCell ⟨w.heap.size + 1, 2, none⟩ (.string dd)) w.heap.size 0 (.slice none 0 0) { data := #[] } := bR5.other (by omega) _
  have hB6 : Below w.heap.size w (w5.setCell ⟨w.heap.size + 1, 2, none⟩ (.string dd)) := hB5.setCell (by simp) _
  have ho6 := own_set (B := w.heap.size + 1) (j := 2) (u := .string dd) ho5 (by omega)
  generalize w5.setCell ⟨w.heap.size + 1, 2, none⟩ (.string dd) = W6 at *
  clear bF5 bR5 hB5 ho5 y0 y1 y2 y3
  have q0 := bF6.c0
  have q1 := bF6.c1
  have q2 := bF6.c2
  have c40 := bR6.c0
  have c41 := bR6.c1
  have c42 := bR6.c2
  have z0 := bR6.fz 0
  have z1 := bR6.fz 1
  have z2 := bR6.fz 2
  go_wp2_with fail
  refine bodyPost_ret (v := .tuple #[.agg #[.int .i64 3, .slice a3 ns.length c3, .string dd], .int .i64 (N : Int), .nilIface]) ?_ rfl ⟨_, rfl, ?_, ?_⟩
  · rw [results_cell3 rfl]; go_simp
  · exact own_le (own_set (own_set (own_set ho6 (by omega)) (by omega)) (by omega)) (by omega)
  · exact ((hB6.setCell (Nat.le_refl _) _).setCell (Nat.le_refl _) _).setCell (Nat.le_refl _) _

set_option maxRecDepth 100000 in
set_option maxHeartbeats 4000000 in
theorem parse_d (s : ByteArray) (l : List Int) (w : World) (hC : Cnts w) (hF : V.Forms w) (hl : s.size ≤ maxLen) (hs : V.ints s = 3 :: l) (h1 : kindB 3 = true) (ns : List Int) (c : Nat) (h2 : rdNums 3 l = some (ns, c)) (hc : c ≤ l.length) (h4 : rdPiece (l.drop c) = none) : Calls Tryd.prog 22 #[.string s] w fun e w' => e = noFrame ∧ Below w.heap.size w w' := by
  have hne : (s.toList == []) = false := str_ne (by rw [← ints_length, hs]; simp)
  have hix := index0 s 3 l hs
  have hk0 := bytes_ints s 3 (by rw [hs]; simp)
  have HK := isKind_calls 3
  rw [h1] at HK
  have hsz : s.size = l.length + 1 := by rw [← ints_length, hs]; rfl
  unfold maxLen at hl
  have hsl : ∀ W, (Instr.slice 9 (.string s) (some (.int .i64 1)) none none).run Tryd.prog W = .ok (.string (s.extract 1 s.size)) W := run_from s 1 (by omega) hl
  have hid := ints_drop s 1 (by omega)
  rw [hs] at hid
  simp only [List.drop_succ_cons, List.drop_zero] at hid
  have hr1 : (s.extract 1 s.size).size = s.size - 1 := by rw [ByteArray.size_extract]; omega
  have hB2 : Below w.heap.size w ((w.alloc (.cells #[.int .i64 0, .slice none 0 0, .string { data := #[] }] 33)).alloc (.cells #[.int .i64 3, .slice none 0 0, .string { data := #[] }] 33)) := ((Below.refl _ w).alloc (Nat.le_refl _) _).alloc (by simp) _
  have bR : FBox ((w.alloc (.cells #[.int .i64 0, .slice none 0 0, .string { data := #[] }] 33)).alloc (.cells #[.int .i64 3, .slice none 0 0, .string { data := #[] }] 33)) w.heap.size 0 (.slice none 0 0) { data := #[] } := (FBox.new w 0 _ _).alloc _
  have bF : FBox ((w.alloc (.cells #[.int .i64 0, .slice none 0 0, .string { data := #[] }] 33)).alloc (.cells #[.int .i64 3, .slice none 0 0, .string { data := #[] }] 33)) (w.heap.size + 1) 3 (.slice none 0 0) { data := #[] } := by
    have := FBox.new (w.alloc (.cells #[.int .i64 0, .slice none 0 0, .string { data := #[] }] 33)) 3 (.slice none 0 0) { data := #[] }
    rwa [World.size_alloc] at this
  have hs2 : ((w.alloc (.cells #[.int .i64 0, .slice none 0 0, .string { data := #[] }] 33)).alloc (.cells #[.int .i64 3, .slice none 0 0, .string { data := #[] }] 33)).heap.size = w.heap.size + 2 := by simp
  have hr1' : (s.extract 1 s.size).size ≤ maxLen := by unfold maxLen; omega
  have HXX : Hid (∀ a b, (s.extract 1 s.size).extract a b = s.extract (1 + a) (1 + b) ∨ s.size < 1 + b) := by
    show ∀ a b, _
    intro a b
    by_cases hb : s.size < 1 + b
    · exact .inr hb
    · left
      apply ints_inj
      rw [ints_extract (s.extract 1 s.size) a b, ints_extract s (1 + a) (1 + b), ints_drop s 1 (by omega), List.drop_drop, show 1 + b - (1 + a) = b - a by omega]
  generalize s.extract 1 s.size = r1 at *
  have HN := fun W (hb : Below w.heap.size w W) => nums_yes 3 r1 W (hC.below hb) (hF.below hb) hr1' h1 ns c (by rw [hid]; exact h2)
  have hr2 : (r1.extract c r1.size).size = s.size - 1 - c := by rw [ByteArray.size_extract]; omega
  have hid2 : V.ints (r1.extract c r1.size) = l.drop c := by rw [ints_drop r1 c (by omega), hid]
  have hr2' : (r1.extract c r1.size).size ≤ maxLen := by unfold maxLen; omega
  have HP := fun W hW => piece_no (r1.extract c r1.size) W hW hr2' (by rw [hid2]; exact h4)
  simp only [noPiece, noFrame, errS] at HP ⊢
  generalize r1.extract c r1.size = r2 at *
  have HF : Hid (V.Forms w) := hF
  clear hr1' hid h2 hc hr2 hid2 hr2' h4 HXX
  clear hC hF hs hl hsz
  go_enter Tryd.func22, Tryd.ntmps22
  go_wp2_with (first | (go_at_call 31; refine (HK _).mono ?_; rintro e w1 ⟨rfl, rfl⟩))
  generalize ((w.alloc (.cells #[.int .i64 0, .slice none 0 0, .string { data := #[] }] 33)).alloc (.cells #[.int .i64 3, .slice none 0 0, .string { data := #[] }] 33)) = W2 at *
  have d0 : W2.drew.cell? ⟨w.heap.size + 1, 0, none⟩ = some (.int .i64 3) := bF.c0
  have hBd : Below w.heap.size w W2.drew := hB2.drew
  have bRd : FBox W2.drew w.heap.size 0 (.slice none 0 0) { data := #[] } := bR
  have bFd : FBox W2.drew (w.heap.size + 1) 3 (.slice none 0 0) { data := #[] } := bF
  have hs2d : W2.drew.heap.size = w.heap.size + 2 := hs2
  clear bR bF hB2 hs2
  go_region_held3 (fun X => X.cell? ⟨w.heap.size + 1, 0, none⟩ = some (.int .i64 3)) (go_keep) (first | (go_at_call 32; refine (HN _ hBd).mono ?_; rintro e w3 ⟨v3, rfl, ho3, hb3⟩; obtain ⟨a3, c3, hv3⟩ := id ho3.shape; subst hv3; have bF3 := bFd.below hb3 (by omega); have bR3 := bRd.below hb3 (by omega); have f0 := bF3.c0; have hB3 := hBd.trans (hb3.mono hBd.size)))
  have f1 := bF3.c1
  have f1z := bF3.fz 1
  rw [hs2d] at ho3
  clear bRd bFd hBd d0 hb3 hs2d HN
  go_upto_region 8 with fail
  have bF4 := bF3.set1 (.slice a3 ns.length c3)
  have bR4 : FBox (w3.setCell ⟨w.heap.size + 1, 1, none⟩ (.slice a3 ns.length c3)) w.heap.size 0 (.slice none 0 0) { data := #[] } := bR3.other (by omega) _
  have hB4 : Below w.heap.size w (w3.setCell ⟨w.heap.size + 1, 1, none⟩ (.slice a3 ns.length c3)) := hB3.setCell (by simp) _
  have ho4 := own_set (B := w.heap.size + 1) (j := 1) (u := .slice a3 ns.length c3) ho3 (by omega)
  generalize w3.setCell ⟨w.heap.size + 1, 1, none⟩ (.slice a3 ns.length c3) = W4 at *
  clear bF3 bR3 hB3 ho3 f0 f1 f1z
  have q0 := bF4.c0
  have hb5 := HP W4 (HF.out.below hB4)
  go_wp2_with fail
  refine hb5.mono ?_
  rintro e w5 ⟨rfl, hb5'⟩
  have bF5 := bF4.below hb5' bF4.lt
  have bR5 := bR4.below hb5' bR4.lt
  have hB5 := hB4.trans (hb5'.mono hB4.size)
  have y2 := bF5.c2
  have y3 := bF5.fz 2
  clear hb5 HP hb5' bR4 bF4 ho4 hB4 q0
  go_upto_region 10 with fail
  have bR6 : FBox (w5.setCell ⟨w.heap.size + 1, 2, none⟩ (.string { data := #[] })) w.heap.size 0 (.slice none 0 0) { data := #[] } := bR5.other (by omega) _
  have hB6 : Below w.heap.size w (w5.setCell ⟨w.heap.size + 1, 2, none⟩ (.string { data := #[] })) := hB5.setCell (by simp) _
  generalize w5.setCell ⟨w.heap.size + 1, 2, none⟩ (.string { data := #[] }) = W6 at *
  clear bF5 bR5 hB5 y2 y3
  have c40 := bR6.c0
  have c41 := bR6.c1
  have c42 := bR6.c2
  have z0 := bR6.fz 0
  have z1 := bR6.fz 1
  have z2 := bR6.fz 2
  go_wp2_with fail
  refine bodyPost_ret (v := .tuple #[zeroF, .int .i64 0, .iface 53 (.int .i64 2)]) ?_ rfl ⟨rfl, ?_⟩
  · rw [results_cell3 rfl]; go_simp
  · first | exact ((hB6.setCell (Nat.le_refl _) _).setCell (Nat.le_refl _) _).setCell (Nat.le_refl _) _ | exact hB6

theorem nums_len {k : Int} {l ns : List Int} {c : Nat} (hl : Bytes l) (h : rdNums k l = some (ns, c)) : ns.length ≤ 24 := by
  have h1 := (rdNums_inv hl h).1
  unfold cntB at h1
  split at h1
  · have := of_decide_eq_true h1; omega
  · have := of_decide_eq_true h1
    rw [this]; unfold cntK; split
    · omega
    · split <;> omega
theorem frame_parse_no (s : ByteArray) (w : World) (hC : Cnts w) (hF : V.Forms w) (hl : s.size ≤ maxLen) (h : rdF s = none) : Calls Tryd.prog 22 #[.string s] w fun e w' => e = noFrame ∧ Below w.heap.size w w' := by
  unfold rdF at h
  cases hs : V.ints s with
  | nil =>
    obtain rfl : s = { data := #[] } := str_nil (by rw [← ints_length, hs]; rfl)
    exact parse_a w
  | cons k l =>
    rw [hs] at h
    simp only at h
    have hby : Bytes l := fun z hz => bytes_ints s z (by rw [hs]; simp [hz])
    cases h1 : kindB k with
    | false => exact parse_b s k l w hs h1
    | true =>
      rw [h1] at h
      simp only [Bool.true_eq_false, if_false] at h
      cases h2 : rdNums k l with
      | none => exact parse_c s k l w hC hF hl hs h1 h2
      | some x =>
        obtain ⟨ns, c⟩ := x
        have hc := (rdNums_inv hby h2).2.2.2.2
        rw [h2] at h
        simp only [Option.bind_some] at h
        by_cases h3 : k = 3
        · subst h3
          rw [if_pos rfl] at h
          cases h4 : rdPiece (l.drop c) with
          | none => exact parse_d s l w hC hF hl hs h1 ns c h2 hc h4
          | some y => rw [h4] at h; cases h
        · rw [if_neg h3] at h; cases h
theorem frame_parse_yes (s : ByteArray) (w : World) (hC : Cnts w) (hF : V.Forms w) (hl : s.size ≤ maxLen) (k : Int) (ns : List Int) (d : ByteArray) (n : Nat) (h : rdF s = some ((k, ns, d), n)) :
    Calls Tryd.prog 22 #[.string s] w fun e w' => ∃ v, e = .returned (.tuple #[.agg #[.int .i64 k, v, .string d], .int .i64 (n : Int), .nilIface]) ∧ OwnI w' w.heap.size v ns ∧ Below w.heap.size w w' := by
  unfold rdF at h
  cases hs : V.ints s with
  | nil => rw [hs] at h; cases h
  | cons k' l =>
    rw [hs] at h
    simp only at h
    have hby : Bytes l := fun z hz => bytes_ints s z (by rw [hs]; simp [hz])
    cases h1 : kindB k' with
    | false => rw [h1] at h; simp at h
    | true =>
      rw [h1] at h
      simp only [Bool.true_eq_false, if_false] at h
      cases h2 : rdNums k' l with
      | none => rw [h2] at h; cases h
      | some x =>
        obtain ⟨ms, c⟩ := x
        have hc := (rdNums_inv hby h2).2.2.2.2
        have hn := nums_len hby h2
        rw [h2] at h
        simp only [Option.bind_some] at h
        by_cases h3 : k' = 3
        · subst h3
          rw [if_pos rfl] at h
          cases h4 : rdPiece (l.drop c) with
          | none => rw [h4] at h; cases h
          | some y =>
            obtain ⟨q, c2⟩ := y
            rw [h4] at h
            simp only [Option.map_some, Option.some.injEq, Prod.mk.injEq] at h
            obtain ⟨⟨rfl, rfl, rfl⟩, rfl⟩ := h
            have hq : q ≤ 20 ∧ c + c2 + q ≤ l.length := by
              have h5 := h4
              unfold rdPiece at h5
              cases hg : V.getI (l.drop c) with
              | none => rw [hg] at h5; cases h5
              | some z =>
                obtain ⟨n0, c0⟩ := z
                obtain ⟨cn, rfl, _, hcl, hd0, _⟩ := get_nat (bytes_drop hby c) hg
                rw [hg] at h5
                simp only [List.length_drop] at h5 hcl
                split at h5
                · cases h5
                · rename_i hh
                  simp only [Option.some.injEq, Prod.mk.injEq] at h5
                  omega
            exact parse_f s l w hC hF hl hs h1 ms c h2 hc q c2 h4 hq.1 hq.2 _ rfl hn
        · rw [if_neg h3] at h
          simp only [Option.some.injEq, Prod.mk.injEq] at h
          obtain ⟨⟨rfl, rfl, rfl⟩, rfl⟩ := h
          exact parse_e s k' l w hC hF hl hs h1 h3 ms c h2 hc _ rfl hn
end Go.Proofs.YtoabfilliiopmaaDoor
