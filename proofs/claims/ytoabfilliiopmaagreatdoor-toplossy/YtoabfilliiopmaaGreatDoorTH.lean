/- TopLossy's walk. -/
import Derived.Test.YtoabfilliiopmaaGreatDoorTG
import Derived.Test.YtoabfilliiopmaaGreatDoorK
import Derived.Deep.LoopGhost
namespace Go.Proofs.YtoabfilliiopmaaGreatDoor
open Go.RowKit Go.Lib Go.Sort
set_option linter.unusedVariables false
set_option linter.unusedSimpArgs false

set_option maxRecDepth 100000 in
set_option maxHeartbeats 4000000 in
theorem lossy_no (n : Int) (d : ByteArray) (ev ot : Int) (w : World) (hV : (V.Forms w ∧ Cnts w) ∧ Handle w) (hdl : d.size ≤ 140737488351232) (hn : Cx.winB n = false) : Calls Tryz.prog 5 #[.int .i64 n, .string d, .int .i64 ev, .int .i64 ot] w fun e w' => e = .returned (.bool true) ∧ Below w.heap.size w w' := by
  have HV : Hid ((V.Forms w ∧ Cnts w) ∧ Handle w) := hV
  have HO := one_calls w hV.1
  clear hV
  go_enter Tryz.func5, Tryz.ntmps5
  go_wp2_with (go_at_call 24; refine HO.mono ?_; rintro e w6 ⟨rfl, hB6⟩; clear HO)
  refine (new_no n w6 hn).mono ?_
  rintro e w7 ⟨rfl, hw7⟩
  obtain rfl := hw7.symm
  go_wp2_with fail
  refine (new_no n w6 hn).mono ?_
  rintro e w8 ⟨rfl, hw8⟩
  obtain rfl := hw8.symm
  go_wp2_with fail
  go_ret
  exact ⟨rfl, hB6⟩
set_option maxRecDepth 100000 in
set_option maxHeartbeats 4000000 in
theorem lossy_ev (n : Int) (d : ByteArray) (ev ot : Int) (w : World) (hV : (V.Forms w ∧ Cnts w) ∧ Handle w) (hdl : d.size ≤ 140737488351232) (hn : Cx.winB n = true) (h1 : ev < 2) : Calls Tryz.prog 5 #[.int .i64 n, .string d, .int .i64 ev, .int .i64 ot] w fun e w' => e = .returned (.bool true) ∧ Below w.heap.size w w' := by
  have HV : Hid ((V.Forms w ∧ Cnts w) ∧ Handle w) := hV
  have HO := one_calls w hV.1
  clear hV
  go_enter Tryz.func5, Tryz.ntmps5
  go_wp2_with (go_at_call 24; refine HO.mono ?_; rintro e w6 ⟨rfl, hB6⟩; clear HO)
  refine (new_yes n w6 hn).mono ?_
  rintro e w7 ⟨xb, rfl, hO7, hb7⟩
  have hB7 := hB6.trans (hb7.mono hB6.size)
  have HN7 := duo_new (hO7.base hB6.size) hB7 hn
  go_wp2_with fail
  refine HN7.mono ?_
  rintro e w8 ⟨yb, rfl, hD8⟩
  clear HN7 hO7 hb7 hB7 hB6
  have hB8 := hD8.bel
  clear hD8
  go_wp2_with fail
  go_ret
  exact ⟨rfl, hB8⟩
set_option maxRecDepth 100000 in
set_option maxHeartbeats 4000000 in
theorem lossy_ot (n : Int) (d : ByteArray) (ev ot : Int) (w : World) (hV : (V.Forms w ∧ Cnts w) ∧ Handle w) (hdl : d.size ≤ 140737488351232) (hn : Cx.winB n = true) (h1 : ¬ ev < 2) (h2 : ot < 2) : Calls Tryz.prog 5 #[.int .i64 n, .string d, .int .i64 ev, .int .i64 ot] w fun e w' => e = .returned (.bool true) ∧ Below w.heap.size w w' := by
  have HV : Hid ((V.Forms w ∧ Cnts w) ∧ Handle w) := hV
  have HO := one_calls w hV.1
  clear hV
  go_enter Tryz.func5, Tryz.ntmps5
  go_wp2_with (go_at_call 24; refine HO.mono ?_; rintro e w6 ⟨rfl, hB6⟩; clear HO)
  refine (new_yes n w6 hn).mono ?_
  rintro e w7 ⟨xb, rfl, hO7, hb7⟩
  have hB7 := hB6.trans (hb7.mono hB6.size)
  have HN7 := duo_new (hO7.base hB6.size) hB7 hn
  go_wp2_with fail
  refine HN7.mono ?_
  rintro e w8 ⟨yb, rfl, hD8⟩
  clear HN7 hO7 hb7 hB7 hB6
  have hB8 := hD8.bel
  clear hD8
  go_wp2_with fail
  go_ret
  exact ⟨rfl, hB8⟩
set_option maxRecDepth 100000 in
set_option maxHeartbeats 4000000 in
theorem lossy_small (n : Int) (d : ByteArray) (ev ot : Int) (w : World) (hV : (V.Forms w ∧ Cnts w) ∧ Handle w) (hdl : d.size ≤ 140737488351232) (hn : Cx.winB n = true) (h1 : ¬ ev < 2) (h2 : ¬ ot < 2) (h3 : n < 10) : Calls Tryz.prog 5 #[.int .i64 n, .string d, .int .i64 ev, .int .i64 ot] w fun e w' => e = .returned (.bool true) ∧ Below w.heap.size w w' := by
  have HV : Hid ((V.Forms w ∧ Cnts w) ∧ Handle w) := hV
  have HO := one_calls w hV.1
  clear hV
  go_enter Tryz.func5, Tryz.ntmps5
  go_wp2_with (go_at_call 24; refine HO.mono ?_; rintro e w6 ⟨rfl, hB6⟩; clear HO)
  refine (new_yes n w6 hn).mono ?_
  rintro e w7 ⟨xb, rfl, hO7, hb7⟩
  have hB7 := hB6.trans (hb7.mono hB6.size)
  have HN7 := duo_new (hO7.base hB6.size) hB7 hn
  go_wp2_with fail
  refine HN7.mono ?_
  rintro e w8 ⟨yb, rfl, hD8⟩
  clear HN7 hO7 hb7 hB7 hB6
  have hB8 := hD8.bel
  clear hD8
  go_wp2_with fail
  go_ret
  exact ⟨rfl, hB8⟩
set_option maxRecDepth 100000 in
set_option maxHeartbeats 4000000 in
theorem lossy_long (n : Int) (d : ByteArray) (ev ot : Int) (w : World) (hV : (V.Forms w ∧ Cnts w) ∧ Handle w) (hdl : d.size ≤ 140737488351232) (hn : Cx.winB n = true) (h1 : ¬ ev < 2) (h2 : ¬ ot < 2) (h3 : ¬ n < 10) (hd : 60 < d.size) : Calls Tryz.prog 5 #[.int .i64 n, .string d, .int .i64 ev, .int .i64 ot] w fun e w' => e = .returned (.bool true) ∧ Below w.heap.size w w' := by
  have HV : Hid ((V.Forms w ∧ Cnts w) ∧ Handle w) := hV
  have HO := one_calls w hV.1
  clear hV
  go_enter Tryz.func5, Tryz.ntmps5
  go_wp2_with (go_at_call 24; refine HO.mono ?_; rintro e w6 ⟨rfl, hB6⟩; clear HO)
  refine (new_yes n w6 hn).mono ?_
  rintro e w7 ⟨xb, rfl, hO7, hb7⟩
  have hB7 := hB6.trans (hb7.mono hB6.size)
  have HN7 := duo_new (hO7.base hB6.size) hB7 hn
  go_wp2_with fail
  refine HN7.mono ?_
  rintro e w8 ⟨yb, rfl, hD8⟩
  clear HN7 hO7 hb7 hB7 hB6
  have HW2 := duo_write hD8 d hdl
  rw [write_four hd, errV_f (by decide)] at HW2
  go_wp2_with (go_at_call 9; refine HW2.mono ?_; rintro e w9 ⟨rfl, hD9⟩)
  go_ret
  exact ⟨rfl, hD9.bel⟩
theorem modz {k a : Nat} (h : (k + 1) % a = 0) : ((k : Int) + 1) % (a : Int) = 0 := by
  have : (((k + 1) % a : Nat) : Int) = 0 := by rw [h]; rfl
  simpa using this
theorem modnz {k a : Nat} (h : ¬ (k + 1) % a = 0) : ¬ ((k : Int) + 1) % (a : Int) = 0 := by
  intro e
  apply h
  have : (((k + 1) % a : Nat) : Int) = 0 := by simpa using e
  omega
theorem ex_size {d : ByteArray} {a b : Nat} (h : b ≤ d.size) : (d.extract a b).size = b - a := by
  rw [ByteArray.size_extract]; omega
theorem ex_zero {d : ByteArray} : d.extract 0 0 = { data := #[] } := by
  apply ByteArray.ext
  exact Array.eq_empty_of_size_eq_zero (by simp [ByteArray.size_extract, ByteArray.size] )
theorem ex_all (d : ByteArray) : d.extract 0 d.size = d := by
  apply ints_inj
  rw [ints_extract, List.drop_zero, Nat.sub_zero, ← ints_length, List.take_length]
set_option maxRecDepth 100000 in
set_option maxHeartbeats 4000000 in
theorem lossy_yes (n : Int) (d : ByteArray) (ev ot : Int) (w : World) (hV : (V.Forms w ∧ Cnts w) ∧ Handle w) (hdl : d.size ≤ 140737488351232) (hn : Cx.winB n = true) (a b : Nat) (ha : ev = a) (hb : ot = b) (h1 : ¬ ev < 2) (h2 : ¬ ot < 2) (h3 : ¬ n < 10) (hd : d.size ≤ 60) : Calls Tryz.prog 5 #[.int .i64 n, .string d, .int .i64 ev, .int .i64 ot] w fun e w' => e = .returned (.bool true) ∧ Below w.heap.size w w' := by
  subst ha hb
  have HV : Hid ((V.Forms w ∧ Cnts w) ∧ Handle w) := hV
  have HO := one_calls w hV.1
  clear hV
  go_enter Tryz.func5, Tryz.ntmps5
  go_wp2_with (go_at_call 24; refine HO.mono ?_; rintro e w6 ⟨rfl, hB6⟩; clear HO)
  refine (new_yes n w6 hn).mono ?_
  rintro e w7 ⟨xb, rfl, hO7, hb7⟩
  have hB7 := hB6.trans (hb7.mono hB6.size)
  have HN7 := duo_new (hO7.base hB6.size) hB7 hn
  go_wp2_with fail
  refine HN7.mono ?_
  rintro e w8 ⟨yb, rfl, hD8⟩
  clear HN7 hO7 hb7 hB7 hB6
  have HW2 := duo_write hD8 d hdl
  rw [write_zero hd, errV_0] at HW2
  have ha : 2 ≤ a := by omega
  have hb : 2 ≤ b := by omega
  have h10 : 10 ≤ n := by omega
  have HAB : Hid (2 ≤ a ∧ 2 ≤ b ∧ 10 ≤ n) := ⟨ha, hb, h10⟩
  have HL0 : Hid (Lossy n d a b (writeS (newE n) d) (newE n) 0 0) := Lossy.new hn h10 hd
  have HD6 : Hid (d.size ≤ 60) := hd
  have za : (a : Int) ≠ 0 := by omega
  have zb : (b : Int) ≠ 0 := by omega
  clear hD8 hn hd hdl
  go_wp2_with (go_at_call 9; refine HW2.mono ?_; rintro e w9 ⟨rfl, hD9⟩)
  have HD9 : Hid (Duo w w9 xb yb (writeS (newE n) d) (newE n)) := hD9
  clear hD9 HW2
  go_loopg [14, 15] 60 (fun gk s14 s15 wr => ∃ (k r : Nat) (x y : En), gk + k = 60 ∧ s14 = .string (d.extract 0 r) ∧ s15 = .int .i64 ((k : Int) + 1) ∧ Hid (Duo w wr xb yb x y) ∧ Hid (Lossy n d a b x y r k))
  case atStart => exact ⟨0, 0, writeS (newE n) d, newE n, rfl, by rw [ex_zero], rfl, HD9, HL0⟩
  case round =>
    obtain ⟨k, r, x, y, hk, rfl, rfl, HD, HL⟩ := hrel
    have HK : Hid (gk + k = 60) := hk
    clear hk
    by_cases g : (k : Int) + 1 ≤ 60
    · have hk59 : k ≤ 60 := by omega
      obtain ⟨ha, hb, h10⟩ := HAB.out
      have p0 : (0 : Int) ≤ (k : Int) + 1 := by omega
      have pa : (0 : Int) < (a : Int) := by omega
      have pb : (0 : Int) < (b : Int) := by omega
      by_cases hpx : (k + 1) % a = 0
      · obtain ⟨hm, rf, rb, hM⟩ := HL.out.losex ha hk59 hpx
        have ma := modz hpx
        have q1 : r ≤ r := Nat.le_refl r
        have q2 : r ≤ d.size := HL.out.t.rd
        have HC1 := duo_make HD.out (keepOK_all HD.out.inv) HV.out.1
        by_cases hpy : (k + 1) % b = 0
        · obtain ⟨hm2, hL2⟩ := hM.lose hb hk59 hpy
          have mb := modz hpy
          have HNX : Hid (Lossy n d a b (makeS x) (makeS (readS y 60)) r (k + 1)) := hL2
          clear hL2
          have HC3 : Hid (∀ X, Duo w X xb yb (makeS x) y → Calls Tryz.prog 12 #[.pointer (some ⟨yb, 0, none⟩), .int .i64 60] X fun e w' => e = .returned (.tuple #[.string (d.extract r r), .nilIface]) ∧ Duo w w' xb yb (makeS x) (readS y 60)) := fun X hX => (duo_read hX.swap 60).mono fun e w' ⟨a, d⟩ => ⟨by rw [a, rf, rb, errV_0], d.swap⟩
          have HC4 : Hid (∀ X, Duo w X xb yb (makeS x) (readS y 60) → Calls Tryz.prog 11 #[.pointer (some ⟨yb, 0, none⟩)] X fun e w' => e = .returned (.string (makeB (readS y 60))) ∧ Duo w w' xb yb (makeS x) (makeS (readS y 60))) := fun X hX => (duo_make hX.swap (keepOK_all hX.swap.inv) HV.out.1).mono fun e w' ⟨a, d⟩ => ⟨a, d.swap⟩
          have hadd : ∀ w, (Op.stringOp .add (d.extract 0 r) (d.extract r r)).run Tryz.prog w = .ok (.string (d.extract 0 r)) w := by
            intro w
            have z1 := ex_size (d := d) (a := 0) (b := r) (by omega)
            have z2 := ex_size (d := d) (a := r) (b := r) q2
            rw [run_string_add_sum w _ _ (by have := HD6.out; omega), ex_join q1 q2]
          have hsz := ex_size (d := d) (a := 0) (b := r) q2
          have hpre : ∀ w, (Instr.slice 9 (.string d) none (some (.int .i64 (((d.extract 0 r).size : Nat) : Int))) none).run Tryz.prog w = .ok (.string (d.extract 0 r)) w := by
            intro w
            rw [hsz, Nat.sub_zero, run_upto d r q2 (by have := HD6.out; omega) w]
          have hle : ¬ ((d.size : Int) < (((d.extract 0 r).size : Nat) : Int)) := by omega
          clear hM hm2 rf rb q1 q2 hsz HL HD hm ha hb h10 hpx hpy
          generalize makeB x = pz at *
          generalize makeB (readS y 60) = py at *
          generalize makeS (readS y 60) = y4 at *
          generalize readS y 60 = y3 at *
          generalize makeS x = z1 at *
          generalize he : d.extract 0 r = g2 at hadd hpre hle ⊢
          have HT2 : Hid (g2 = d.extract 0 r) := he.symm
          clear he
          generalize d.extract r r = g3 at hadd HC3
          go_wp2_with (first | (go_at_call 11; refine HC1.mono ?_; rintro e v1 ⟨rfl, f1⟩; clear HC1) | (go_at_call 12; refine (HC3.out _ f1).mono ?_; rintro e v3 ⟨rfl, f3⟩; clear HC3) | (go_at_call 11; refine (HC4.out _ f3).mono ?_; rintro e v4 ⟨rfl, f4⟩; clear HC4))
          go_roundg (60 - (k + 1))
          case measure => have := HK.out; omega
          case rel => exact ⟨k + 1, r, z1, y4, by have := HK.out; omega, by rw [HT2.out], by go_num, f4, HNX⟩
        · obtain ⟨hm2, hL2⟩ := hM.back h10 ha hb hk59 hpy
          have mb := modnz hpy
          have hs2 := makeB_size hm2
          rcases hL2 with ⟨e4, hr⟩ | ⟨x', e4, hL3⟩
          · have HC3 : Hid (∀ X, Duo w X xb yb (makeS x) y → Calls Tryz.prog 12 #[.pointer (some ⟨yb, 0, none⟩), .int .i64 60] X fun e w' => e = .returned (.tuple #[.string (d.extract r r), .nilIface]) ∧ Duo w w' xb yb (makeS x) (readS y 60)) := fun X hX => (duo_read hX.swap 60).mono fun e w' ⟨a, d⟩ => ⟨by rw [a, rf, rb, errV_0], d.swap⟩
            have HC4 : Hid (∀ X, Duo w X xb yb (makeS x) (readS y 60) → Calls Tryz.prog 11 #[.pointer (some ⟨yb, 0, none⟩)] X fun e w' => e = .returned (.string (makeB (readS y 60))) ∧ Duo w w' xb yb (makeS x) (makeS (readS y 60))) := fun X hX => (duo_make hX.swap (keepOK_all hX.swap.inv) HV.out.1).mono fun e w' ⟨a, d⟩ => ⟨a, d.swap⟩
            have HC5 : Hid (∀ X, Duo w X xb yb (makeS x) (makeS (readS y 60)) → Calls Tryz.prog 10 #[.pointer (some ⟨xb, 0, none⟩), .string (makeB (readS y 60))] X fun e w' => e = .returned (.iface 108 (.int .i64 4)) ∧ Duo w w' xb yb (makeS x) (makeS (readS y 60))) := fun X hX => (duo_take hX _ (Nat.le_trans hs2 (by omega)) HV.out.1 (fun n fs hr => rdP_ack hr)).mono fun e w' ⟨a, d⟩ => ⟨by rw [a, e4]; exact congrArg _ (errV_f (f := 4) (by decide)), by rw [e4] at d; exact d⟩
            have hadd : ∀ w, (Op.stringOp .add (d.extract 0 r) (d.extract r r)).run Tryz.prog w = .ok (.string (d.extract 0 r)) w := by
              intro w
              have z1 := ex_size (d := d) (a := 0) (b := r) (by omega)
              have z2 := ex_size (d := d) (a := r) (b := r) q2
              rw [run_string_add_sum w _ _ (by have := HD6.out; omega), ex_join q1 q2]
            have hsz := ex_size (d := d) (a := 0) (b := r) q2
            have hpre : ∀ w, (Instr.slice 9 (.string d) none (some (.int .i64 (((d.extract 0 r).size : Nat) : Int))) none).run Tryz.prog w = .ok (.string (d.extract 0 r)) w := by
              intro w
              rw [hsz, Nat.sub_zero, run_upto d r q2 (by have := HD6.out; omega) w]
            have hle : ¬ ((d.size : Int) < (((d.extract 0 r).size : Nat) : Int)) := by omega
            clear e4 hs2 hM hm2 rf rb q1 q2 hsz HL HD hm ha hb h10 hpx hpy
            have hall : d.extract 0 r = d := by rw [hr]; exact ex_all d
            rw [hall] at hadd hpre hle ⊢
            clear hall hr
            generalize makeB x = pz at *
            generalize makeB (readS y 60) = py at *
            generalize makeS (readS y 60) = y4 at *
            generalize readS y 60 = y3 at *
            generalize makeS x = z1 at *
            generalize d.extract r r = g3 at hadd HC3
            go_wp2_with (first | (go_at_call 11; refine HC1.mono ?_; rintro e v1 ⟨rfl, f1⟩; clear HC1) | (go_at_call 12; refine (HC3.out _ f1).mono ?_; rintro e v3 ⟨rfl, f3⟩; clear HC3) | (go_at_call 11; refine (HC4.out _ f3).mono ?_; rintro e v4 ⟨rfl, f4⟩; clear HC4) | (go_at_call 10; refine (HC5.out _ f4).mono ?_; rintro e v5 ⟨rfl, f5⟩; clear HC5) | (go_at_call 17; refine (same_err 4 4 _ (HV.out.2.below f5.bel)).mono ?_; rintro e v6 ⟨rfl, hb6⟩))
            go_ret
            exact ⟨by simp, (f5.below hb6).bel⟩
          · have HNX : Hid (Lossy n d a b x' (makeS (readS y 60)) r (k + 1)) := hL3
            clear hL3
            have HC3 : Hid (∀ X, Duo w X xb yb (makeS x) y → Calls Tryz.prog 12 #[.pointer (some ⟨yb, 0, none⟩), .int .i64 60] X fun e w' => e = .returned (.tuple #[.string (d.extract r r), .nilIface]) ∧ Duo w w' xb yb (makeS x) (readS y 60)) := fun X hX => (duo_read hX.swap 60).mono fun e w' ⟨a, d⟩ => ⟨by rw [a, rf, rb, errV_0], d.swap⟩
            have HC4 : Hid (∀ X, Duo w X xb yb (makeS x) (readS y 60) → Calls Tryz.prog 11 #[.pointer (some ⟨yb, 0, none⟩)] X fun e w' => e = .returned (.string (makeB (readS y 60))) ∧ Duo w w' xb yb (makeS x) (makeS (readS y 60))) := fun X hX => (duo_make hX.swap (keepOK_all hX.swap.inv) HV.out.1).mono fun e w' ⟨a, d⟩ => ⟨a, d.swap⟩
            have HC5 : Hid (∀ X, Duo w X xb yb (makeS x) (makeS (readS y 60)) → Calls Tryz.prog 10 #[.pointer (some ⟨xb, 0, none⟩), .string (makeB (readS y 60))] X fun e w' => e = .returned (.nilIface) ∧ Duo w w' xb yb (x') (makeS (readS y 60))) := fun X hX => (duo_take hX _ (Nat.le_trans hs2 (by omega)) HV.out.1 (fun n fs hr => rdP_ack hr)).mono fun e w' ⟨a, d⟩ => ⟨by rw [a, e4, errV_0], by rw [e4] at d; exact d⟩
            have hadd : ∀ w, (Op.stringOp .add (d.extract 0 r) (d.extract r r)).run Tryz.prog w = .ok (.string (d.extract 0 r)) w := by
              intro w
              have z1 := ex_size (d := d) (a := 0) (b := r) (by omega)
              have z2 := ex_size (d := d) (a := r) (b := r) q2
              rw [run_string_add_sum w _ _ (by have := HD6.out; omega), ex_join q1 q2]
            have hsz := ex_size (d := d) (a := 0) (b := r) q2
            have hpre : ∀ w, (Instr.slice 9 (.string d) none (some (.int .i64 (((d.extract 0 r).size : Nat) : Int))) none).run Tryz.prog w = .ok (.string (d.extract 0 r)) w := by
              intro w
              rw [hsz, Nat.sub_zero, run_upto d r q2 (by have := HD6.out; omega) w]
            have hle : ¬ ((d.size : Int) < (((d.extract 0 r).size : Nat) : Int)) := by omega
            clear e4 hs2 hM hm2 rf rb q1 q2 hsz HL HD hm ha hb h10 hpx hpy
            generalize makeB x = pz at *
            generalize makeB (readS y 60) = py at *
            generalize makeS (readS y 60) = y4 at *
            generalize readS y 60 = y3 at *
            generalize makeS x = z1 at *
            generalize he : d.extract 0 r = g2 at hadd hpre hle ⊢
            have HT2 : Hid (g2 = d.extract 0 r) := he.symm
            clear he
            generalize d.extract r r = g3 at hadd HC3
            go_wp2_with (first | (go_at_call 11; refine HC1.mono ?_; rintro e v1 ⟨rfl, f1⟩; clear HC1) | (go_at_call 12; refine (HC3.out _ f1).mono ?_; rintro e v3 ⟨rfl, f3⟩; clear HC3) | (go_at_call 11; refine (HC4.out _ f3).mono ?_; rintro e v4 ⟨rfl, f4⟩; clear HC4) | (go_at_call 10; refine (HC5.out _ f4).mono ?_; rintro e v5 ⟨rfl, f5⟩; clear HC5))
            go_roundg (60 - (k + 1))
            case measure => have := HK.out; omega
            case rel => exact ⟨k + 1, r, x', y4, by have := HK.out; omega, by rw [HT2.out], by go_num, f5, HNX⟩
      · obtain ⟨hm, hS⟩ := HL.out.sendx ha hb hk59 hpx
        have ma := modnz hpx
        have hs1 := makeB_size hm
        rcases hS with ⟨e1, hr⟩ | ⟨y1, r1, e1, rf, rb, q1, q2, hM⟩
        · have HC1 := duo_make HD.out (keepOK_all HD.out.inv) HV.out.1
          have HC2 : Hid (∀ X, Duo w X xb yb (makeS x) y → Calls Tryz.prog 10 #[.pointer (some ⟨yb, 0, none⟩), .string (makeB x)] X fun e w' => e = .returned (.iface 108 (.int .i64 4)) ∧ Duo w w' xb yb (makeS x) y) := fun X hX => (duo_take hX.swap _ (Nat.le_trans hs1 (by omega)) HV.out.1 (fun n fs hr => rdP_ack hr)).mono fun e w' ⟨a, d⟩ => ⟨by rw [a, e1]; exact congrArg _ (errV_f (f := 4) (by decide)), by rw [e1] at d; exact d.swap⟩
          have hall : d.extract 0 r = d := by rw [hr]; exact ex_all d
          rw [hall]
          clear hall hr e1 hs1 hm HL HD ha hb h10 hpx
          generalize makeB x = pz at *
          generalize makeS x = z1 at *
          go_wp2_with (first | (go_at_call 11; refine HC1.mono ?_; rintro e v1 ⟨rfl, f1⟩; clear HC1) | (go_at_call 10; refine (HC2.out _ f1).mono ?_; rintro e v2 ⟨rfl, f2⟩; clear HC2) | (go_at_call 17; refine (same_err 4 4 _ (HV.out.2.below f2.bel)).mono ?_; rintro e v6 ⟨rfl, hb6⟩))
          go_ret
          exact ⟨by simp, (f2.below hb6).bel⟩
        · have HC1 := duo_make HD.out (keepOK_all HD.out.inv) HV.out.1
          have HC2 : Hid (∀ X, Duo w X xb yb (makeS x) y → Calls Tryz.prog 10 #[.pointer (some ⟨yb, 0, none⟩), .string (makeB x)] X fun e w' => e = .returned (.nilIface) ∧ Duo w w' xb yb (makeS x) y1) := fun X hX => (duo_take hX.swap _ (Nat.le_trans hs1 (by omega)) HV.out.1 (fun n fs hr => rdP_ack hr)).mono fun e w' ⟨a, d⟩ => ⟨by rw [a, e1, errV_0], by rw [e1] at d; exact d.swap⟩
          clear e1 hs1
          by_cases hpy : (k + 1) % b = 0
          · obtain ⟨hm2, hL2⟩ := hM.lose hb hk59 hpy
            have mb := modz hpy
            have HNX : Hid (Lossy n d a b (makeS x) (makeS (readS y1 60)) r1 (k + 1)) := hL2
            clear hL2
            have HC3 : Hid (∀ X, Duo w X xb yb (makeS x) y1 → Calls Tryz.prog 12 #[.pointer (some ⟨yb, 0, none⟩), .int .i64 60] X fun e w' => e = .returned (.tuple #[.string (d.extract r r1), .nilIface]) ∧ Duo w w' xb yb (makeS x) (readS y1 60)) := fun X hX => (duo_read hX.swap 60).mono fun e w' ⟨a, d⟩ => ⟨by rw [a, rf, rb, errV_0], d.swap⟩
            have HC4 : Hid (∀ X, Duo w X xb yb (makeS x) (readS y1 60) → Calls Tryz.prog 11 #[.pointer (some ⟨yb, 0, none⟩)] X fun e w' => e = .returned (.string (makeB (readS y1 60))) ∧ Duo w w' xb yb (makeS x) (makeS (readS y1 60))) := fun X hX => (duo_make hX.swap (keepOK_all hX.swap.inv) HV.out.1).mono fun e w' ⟨a, d⟩ => ⟨a, d.swap⟩
            have hadd : ∀ w, (Op.stringOp .add (d.extract 0 r) (d.extract r r1)).run Tryz.prog w = .ok (.string (d.extract 0 r1)) w := by
              intro w
              have z1 := ex_size (d := d) (a := 0) (b := r) (by omega)
              have z2 := ex_size (d := d) (a := r) (b := r1) q2
              rw [run_string_add_sum w _ _ (by have := HD6.out; omega), ex_join q1 q2]
            have hsz := ex_size (d := d) (a := 0) (b := r1) q2
            have hpre : ∀ w, (Instr.slice 9 (.string d) none (some (.int .i64 (((d.extract 0 r1).size : Nat) : Int))) none).run Tryz.prog w = .ok (.string (d.extract 0 r1)) w := by
              intro w
              rw [hsz, Nat.sub_zero, run_upto d r1 q2 (by have := HD6.out; omega) w]
            have hle : ¬ ((d.size : Int) < (((d.extract 0 r1).size : Nat) : Int)) := by omega
            clear hM hm2 rf rb q1 q2 hsz HL HD hm ha hb h10 hpx hpy
            generalize makeB x = pz at *
            generalize makeB (readS y1 60) = py at *
            generalize makeS (readS y1 60) = y4 at *
            generalize readS y1 60 = y3 at *
            generalize makeS x = z1 at *
            generalize he : d.extract 0 r1 = g2 at hadd hpre hle
            have HT2 : Hid (g2 = d.extract 0 r1) := he.symm
            clear he
            generalize d.extract r r1 = g3 at hadd HC3
            generalize d.extract 0 r = g1 at hadd ⊢
            go_wp2_with (first | (go_at_call 11; refine HC1.mono ?_; rintro e v1 ⟨rfl, f1⟩; clear HC1) | (go_at_call 10; refine (HC2.out _ f1).mono ?_; rintro e v2 ⟨rfl, f2⟩; clear HC2) | (go_at_call 12; refine (HC3.out _ f2).mono ?_; rintro e v3 ⟨rfl, f3⟩; clear HC3) | (go_at_call 11; refine (HC4.out _ f3).mono ?_; rintro e v4 ⟨rfl, f4⟩; clear HC4))
            go_roundg (60 - (k + 1))
            case measure => have := HK.out; omega
            case rel => exact ⟨k + 1, r1, z1, y4, by have := HK.out; omega, by rw [HT2.out], by go_num, f4, HNX⟩
          · obtain ⟨hm2, hL2⟩ := hM.back h10 ha hb hk59 hpy
            have mb := modnz hpy
            have hs2 := makeB_size hm2
            rcases hL2 with ⟨e4, hr⟩ | ⟨x', e4, hL3⟩
            · have HC3 : Hid (∀ X, Duo w X xb yb (makeS x) y1 → Calls Tryz.prog 12 #[.pointer (some ⟨yb, 0, none⟩), .int .i64 60] X fun e w' => e = .returned (.tuple #[.string (d.extract r r1), .nilIface]) ∧ Duo w w' xb yb (makeS x) (readS y1 60)) := fun X hX => (duo_read hX.swap 60).mono fun e w' ⟨a, d⟩ => ⟨by rw [a, rf, rb, errV_0], d.swap⟩
              have HC4 : Hid (∀ X, Duo w X xb yb (makeS x) (readS y1 60) → Calls Tryz.prog 11 #[.pointer (some ⟨yb, 0, none⟩)] X fun e w' => e = .returned (.string (makeB (readS y1 60))) ∧ Duo w w' xb yb (makeS x) (makeS (readS y1 60))) := fun X hX => (duo_make hX.swap (keepOK_all hX.swap.inv) HV.out.1).mono fun e w' ⟨a, d⟩ => ⟨a, d.swap⟩
              have HC5 : Hid (∀ X, Duo w X xb yb (makeS x) (makeS (readS y1 60)) → Calls Tryz.prog 10 #[.pointer (some ⟨xb, 0, none⟩), .string (makeB (readS y1 60))] X fun e w' => e = .returned (.iface 108 (.int .i64 4)) ∧ Duo w w' xb yb (makeS x) (makeS (readS y1 60))) := fun X hX => (duo_take hX _ (Nat.le_trans hs2 (by omega)) HV.out.1 (fun n fs hr => rdP_ack hr)).mono fun e w' ⟨a, d⟩ => ⟨by rw [a, e4]; exact congrArg _ (errV_f (f := 4) (by decide)), by rw [e4] at d; exact d⟩
              have hadd : ∀ w, (Op.stringOp .add (d.extract 0 r) (d.extract r r1)).run Tryz.prog w = .ok (.string (d.extract 0 r1)) w := by
                intro w
                have z1 := ex_size (d := d) (a := 0) (b := r) (by omega)
                have z2 := ex_size (d := d) (a := r) (b := r1) q2
                rw [run_string_add_sum w _ _ (by have := HD6.out; omega), ex_join q1 q2]
              have hsz := ex_size (d := d) (a := 0) (b := r1) q2
              have hpre : ∀ w, (Instr.slice 9 (.string d) none (some (.int .i64 (((d.extract 0 r1).size : Nat) : Int))) none).run Tryz.prog w = .ok (.string (d.extract 0 r1)) w := by
                intro w
                rw [hsz, Nat.sub_zero, run_upto d r1 q2 (by have := HD6.out; omega) w]
              have hle : ¬ ((d.size : Int) < (((d.extract 0 r1).size : Nat) : Int)) := by omega
              clear e4 hs2 hM hm2 rf rb q1 q2 hsz HL HD hm ha hb h10 hpx hpy
              have hall : d.extract 0 r1 = d := by rw [hr]; exact ex_all d
              rw [hall] at hadd hpre hle
              clear hall hr
              generalize makeB x = pz at *
              generalize makeB (readS y1 60) = py at *
              generalize makeS (readS y1 60) = y4 at *
              generalize readS y1 60 = y3 at *
              generalize makeS x = z1 at *
              generalize d.extract r r1 = g3 at hadd HC3
              generalize d.extract 0 r = g1 at hadd ⊢
              go_wp2_with (first | (go_at_call 11; refine HC1.mono ?_; rintro e v1 ⟨rfl, f1⟩; clear HC1) | (go_at_call 10; refine (HC2.out _ f1).mono ?_; rintro e v2 ⟨rfl, f2⟩; clear HC2) | (go_at_call 12; refine (HC3.out _ f2).mono ?_; rintro e v3 ⟨rfl, f3⟩; clear HC3) | (go_at_call 11; refine (HC4.out _ f3).mono ?_; rintro e v4 ⟨rfl, f4⟩; clear HC4) | (go_at_call 10; refine (HC5.out _ f4).mono ?_; rintro e v5 ⟨rfl, f5⟩; clear HC5) | (go_at_call 17; refine (same_err 4 4 _ (HV.out.2.below f5.bel)).mono ?_; rintro e v6 ⟨rfl, hb6⟩))
              go_ret
              exact ⟨by simp, (f5.below hb6).bel⟩
            · have HNX : Hid (Lossy n d a b x' (makeS (readS y1 60)) r1 (k + 1)) := hL3
              clear hL3
              have HC3 : Hid (∀ X, Duo w X xb yb (makeS x) y1 → Calls Tryz.prog 12 #[.pointer (some ⟨yb, 0, none⟩), .int .i64 60] X fun e w' => e = .returned (.tuple #[.string (d.extract r r1), .nilIface]) ∧ Duo w w' xb yb (makeS x) (readS y1 60)) := fun X hX => (duo_read hX.swap 60).mono fun e w' ⟨a, d⟩ => ⟨by rw [a, rf, rb, errV_0], d.swap⟩
              have HC4 : Hid (∀ X, Duo w X xb yb (makeS x) (readS y1 60) → Calls Tryz.prog 11 #[.pointer (some ⟨yb, 0, none⟩)] X fun e w' => e = .returned (.string (makeB (readS y1 60))) ∧ Duo w w' xb yb (makeS x) (makeS (readS y1 60))) := fun X hX => (duo_make hX.swap (keepOK_all hX.swap.inv) HV.out.1).mono fun e w' ⟨a, d⟩ => ⟨a, d.swap⟩
              have HC5 : Hid (∀ X, Duo w X xb yb (makeS x) (makeS (readS y1 60)) → Calls Tryz.prog 10 #[.pointer (some ⟨xb, 0, none⟩), .string (makeB (readS y1 60))] X fun e w' => e = .returned (.nilIface) ∧ Duo w w' xb yb (x') (makeS (readS y1 60))) := fun X hX => (duo_take hX _ (Nat.le_trans hs2 (by omega)) HV.out.1 (fun n fs hr => rdP_ack hr)).mono fun e w' ⟨a, d⟩ => ⟨by rw [a, e4, errV_0], by rw [e4] at d; exact d⟩
              have hadd : ∀ w, (Op.stringOp .add (d.extract 0 r) (d.extract r r1)).run Tryz.prog w = .ok (.string (d.extract 0 r1)) w := by
                intro w
                have z1 := ex_size (d := d) (a := 0) (b := r) (by omega)
                have z2 := ex_size (d := d) (a := r) (b := r1) q2
                rw [run_string_add_sum w _ _ (by have := HD6.out; omega), ex_join q1 q2]
              have hsz := ex_size (d := d) (a := 0) (b := r1) q2
              have hpre : ∀ w, (Instr.slice 9 (.string d) none (some (.int .i64 (((d.extract 0 r1).size : Nat) : Int))) none).run Tryz.prog w = .ok (.string (d.extract 0 r1)) w := by
                intro w
                rw [hsz, Nat.sub_zero, run_upto d r1 q2 (by have := HD6.out; omega) w]
              have hle : ¬ ((d.size : Int) < (((d.extract 0 r1).size : Nat) : Int)) := by omega
              clear e4 hs2 hM hm2 rf rb q1 q2 hsz HL HD hm ha hb h10 hpx hpy
              generalize makeB x = pz at *
              generalize makeB (readS y1 60) = py at *
              generalize makeS (readS y1 60) = y4 at *
              generalize readS y1 60 = y3 at *
              generalize makeS x = z1 at *
              generalize he : d.extract 0 r1 = g2 at hadd hpre hle
              have HT2 : Hid (g2 = d.extract 0 r1) := he.symm
              clear he
              generalize d.extract r r1 = g3 at hadd HC3
              generalize d.extract 0 r = g1 at hadd ⊢
              go_wp2_with (first | (go_at_call 11; refine HC1.mono ?_; rintro e v1 ⟨rfl, f1⟩; clear HC1) | (go_at_call 10; refine (HC2.out _ f1).mono ?_; rintro e v2 ⟨rfl, f2⟩; clear HC2) | (go_at_call 12; refine (HC3.out _ f2).mono ?_; rintro e v3 ⟨rfl, f3⟩; clear HC3) | (go_at_call 11; refine (HC4.out _ f3).mono ?_; rintro e v4 ⟨rfl, f4⟩; clear HC4) | (go_at_call 10; refine (HC5.out _ f4).mono ?_; rintro e v5 ⟨rfl, f5⟩; clear HC5))
              go_roundg (60 - (k + 1))
              case measure => have := HK.out; omega
              case rel => exact ⟨k + 1, r1, x', y4, by have := HK.out; omega, by rw [HT2.out], by go_num, f5, HNX⟩
    · have hk60 : k = 60 := by have := HK.out; omega
      have HG : Hid (d.extract 0 r = d) := by
        show _ = _
        rw [HL.out.done HAB.out.1 HAB.out.2.1 (by omega)]
        exact ex_all d
      have HB := HD.out.bel
      rw [HG.out]
      clear HG
      go_wp2_with fail
      go_ret
      exact ⟨by simp, HB⟩
theorem lossy_calls (n : Int) (d : ByteArray) (ev ot : Int) (w : World) (hV : (V.Forms w ∧ Cnts w) ∧ Handle w) (hdl : d.size ≤ 140737488351232) : Calls Tryz.prog 5 #[.int .i64 n, .string d, .int .i64 ev, .int .i64 ot] w fun e w' => e = .returned (.bool true) ∧ Below w.heap.size w w' := by
  by_cases hn : Cx.winB n = true
  · by_cases h1 : ev < 2
    · exact lossy_ev n d ev ot w hV hdl hn h1
    · by_cases h2 : ot < 2
      · exact lossy_ot n d ev ot w hV hdl hn h1 h2
      · by_cases h3 : n < 10
        · exact lossy_small n d ev ot w hV hdl hn h1 h2 h3
        · by_cases hd : d.size ≤ 60
          · exact lossy_yes n d ev ot w hV hdl hn ev.toNat ot.toNat (by omega) (by omega) h1 h2 h3 hd
          · exact lossy_long n d ev ot w hV hdl hn h1 h2 h3 (by omega)
  · exact lossy_no n d ev ot w hV hdl (by simpa using hn)
end Go.Proofs.YtoabfilliiopmaaGreatDoor
