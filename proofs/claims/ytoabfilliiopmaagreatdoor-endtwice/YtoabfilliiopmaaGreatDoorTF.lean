/- EndTwice's walk. -/
import Derived.Test.YtoabfilliiopmaaGreatDoorTE
import Derived.Deep.LoopGhost
namespace Go.Proofs.YtoabfilliiopmaaGreatDoor
open Go.RowKit Go.Lib Go.Sort
set_option linter.unusedVariables false
set_option linter.unusedSimpArgs false

set_option maxRecDepth 100000 in
set_option maxHeartbeats 4000000 in
theorem twice_no (n : Int) (d b : ByteArray) (w : World) (hV : V.Forms w ∧ Cnts w) (hdl : d.size ≤ 140737488351232) (hbl : b.size ≤ 9223372036854775807) (hn : Cx.winB n = false) : Calls Tryz.prog 3 #[.int .i64 n, .string d, .string b] w fun e w' => e = .returned (.bool true) ∧ Below w.heap.size w w' := by
  have HV : Hid (V.Forms w ∧ Cnts w) := hV
  have HN0 := new_yes 20 w ab_win
  clear hV
  go_enter Tryz.func3, Tryz.ntmps3
  go_wp2_with fail
  refine HN0.mono ?_
  rintro e w1 ⟨xb, rfl, hO1, hb1⟩
  have HN2 := duo_new hO1 hb1 ab_win
  clear HN0
  go_wp2_with fail
  refine HN2.mono ?_
  rintro e w2 ⟨yb, rfl, hD⟩
  have HW := duo_write hD abB (show 2 ≤ 140737488351232 by omega)
  rw [ab_write, errV_0] at HW
  have HM : Hid (∀ X, Duo w X xb yb abX (newE 20) → Calls Tryz.prog 11 #[.pointer (some ⟨xb, 0, none⟩)] X fun e w' => e = .returned (.string abP) ∧ Duo w w' xb yb (makeS abX) (newE 20)) := fun X hX => duo_make hX (keepOK_nil rfl) HV.out
  have HT : Hid (∀ X, Duo w X xb yb (makeS abX) (newE 20) → Calls Tryz.prog 10 #[.pointer (some ⟨yb, 0, none⟩), .string abP] X fun e w' => e = .returned .nilIface ∧ Duo w w' xb yb (makeS abX) abY) := fun X hX => (duo_take hX.swap abP (Nat.le_trans ab_size (by omega)) HV.out (fun n fs hr => rdP_ack hr)).mono fun e w' ⟨a, d⟩ => ⟨by rw [a, ab_took, errV_0], d.swap⟩
  have HR : Hid (∀ X, Duo w X xb yb (makeS abX) abY → Calls Tryz.prog 12 #[.pointer (some ⟨yb, 0, none⟩), .int .i64 9] X fun e w' => e = .returned (.tuple #[.string abB, .nilIface]) ∧ Below w.heap.size w w') := fun X hX => (duo_read hX.swap 9).mono fun e w' ⟨a, d⟩ => ⟨by rw [a, ab_readF, ab_readB, errV_0], d.bel⟩
  have hqB : abB = { data := #[97, 98] } := rfl
  rw [hqB] at HW HR
  clear HN2 hD hO1 hb1 hqB
  generalize abP = bb at *
  go_wp2_with (first | (go_at_call 9; refine HW.mono ?_; rintro e w3 ⟨rfl, hD3⟩; clear HW) | (go_at_call 11; refine (HM.out _ hD3).mono ?_; rintro e w4 ⟨rfl, hD4⟩) | (go_at_call 10; refine (HT.out _ hD4).mono ?_; rintro e w5 ⟨rfl, hD5⟩) | (go_at_call 12; refine (HR.out _ hD5).mono ?_; rintro e w6 ⟨rfl, hB6⟩; clear HM HT HR hD3 hD4 hD5))
  refine (new_no n w6 hn).mono ?_
  rintro e w7 ⟨rfl, hw7⟩
  obtain rfl := hw7.symm
  go_wp2_with fail
  refine (new_no n w6 hn).mono ?_
  rintro e w8 ⟨rfl, hw8⟩
  obtain rfl := hw8.symm
  go_wp2_with fail
  go_ret
  exact ⟨rfl, hB6⟩
set_option maxRecDepth 100000 in
set_option maxHeartbeats 4000000 in
theorem twice_long (n : Int) (d b : ByteArray) (w : World) (hV : V.Forms w ∧ Cnts w) (hdl : d.size ≤ 140737488351232) (hbl : b.size ≤ 9223372036854775807) (hn : Cx.winB n = true) (hd : 60 < d.size) : Calls Tryz.prog 3 #[.int .i64 n, .string d, .string b] w fun e w' => e = .returned (.bool true) ∧ Below w.heap.size w w' := by
  have HV : Hid (V.Forms w ∧ Cnts w) := hV
  have HN0 := new_yes 20 w ab_win
  clear hV
  go_enter Tryz.func3, Tryz.ntmps3
  go_wp2_with fail
  refine HN0.mono ?_
  rintro e w1 ⟨xb, rfl, hO1, hb1⟩
  have HN2 := duo_new hO1 hb1 ab_win
  clear HN0
  go_wp2_with fail
  refine HN2.mono ?_
  rintro e w2 ⟨yb, rfl, hD⟩
  have HW := duo_write hD abB (show 2 ≤ 140737488351232 by omega)
  rw [ab_write, errV_0] at HW
  have HM : Hid (∀ X, Duo w X xb yb abX (newE 20) → Calls Tryz.prog 11 #[.pointer (some ⟨xb, 0, none⟩)] X fun e w' => e = .returned (.string abP) ∧ Duo w w' xb yb (makeS abX) (newE 20)) := fun X hX => duo_make hX (keepOK_nil rfl) HV.out
  have HT : Hid (∀ X, Duo w X xb yb (makeS abX) (newE 20) → Calls Tryz.prog 10 #[.pointer (some ⟨yb, 0, none⟩), .string abP] X fun e w' => e = .returned .nilIface ∧ Duo w w' xb yb (makeS abX) abY) := fun X hX => (duo_take hX.swap abP (Nat.le_trans ab_size (by omega)) HV.out (fun n fs hr => rdP_ack hr)).mono fun e w' ⟨a, d⟩ => ⟨by rw [a, ab_took, errV_0], d.swap⟩
  have HR : Hid (∀ X, Duo w X xb yb (makeS abX) abY → Calls Tryz.prog 12 #[.pointer (some ⟨yb, 0, none⟩), .int .i64 9] X fun e w' => e = .returned (.tuple #[.string abB, .nilIface]) ∧ Below w.heap.size w w') := fun X hX => (duo_read hX.swap 9).mono fun e w' ⟨a, d⟩ => ⟨by rw [a, ab_readF, ab_readB, errV_0], d.bel⟩
  have hqB : abB = { data := #[97, 98] } := rfl
  rw [hqB] at HW HR
  clear HN2 hD hO1 hb1 hqB
  generalize abP = bb at *
  go_wp2_with (first | (go_at_call 9; refine HW.mono ?_; rintro e w3 ⟨rfl, hD3⟩; clear HW) | (go_at_call 11; refine (HM.out _ hD3).mono ?_; rintro e w4 ⟨rfl, hD4⟩) | (go_at_call 10; refine (HT.out _ hD4).mono ?_; rintro e w5 ⟨rfl, hD5⟩) | (go_at_call 12; refine (HR.out _ hD5).mono ?_; rintro e w6 ⟨rfl, hB6⟩; clear HM HT HR hD3 hD4 hD5))
  refine (new_yes n w6 hn).mono ?_
  rintro e w7 ⟨xb2, rfl, hO7, hb7⟩
  have hB7 := hB6.trans (hb7.mono hB6.size)
  have HN7 := duo_new (hO7.base hB6.size) hB7 hn
  go_wp2_with fail
  refine HN7.mono ?_
  rintro e w8 ⟨yb2, rfl, hD8⟩
  clear HN7 hO7 hb7 hB7 hB6
  have HW2 := duo_write hD8 d hdl
  rw [write_four hd, errV_f (by decide)] at HW2
  have hdi : (60 : Int) < (d.size : Int) := by omega
  go_wp2_with (go_at_call 9; refine HW2.mono ?_; rintro e w9 ⟨rfl, hD9⟩)
  go_ret
  exact ⟨by simp, hD9.bel⟩
set_option maxRecDepth 100000 in
set_option maxHeartbeats 4000000 in
theorem twice_yes (n : Int) (d b : ByteArray) (w : World) (hV : V.Forms w ∧ Cnts w) (hdl : d.size ≤ 140737488351232) (hbl : b.size ≤ 9223372036854775807) (hn : Cx.winB n = true) (hd : d.size ≤ 60) : Calls Tryz.prog 3 #[.int .i64 n, .string d, .string b] w fun e w' => e = .returned (.bool true) ∧ Below w.heap.size w w' := by
  have HV : Hid (V.Forms w ∧ Cnts w) := hV
  have HN0 := new_yes 20 w ab_win
  clear hV
  go_enter Tryz.func3, Tryz.ntmps3
  go_wp2_with fail
  refine HN0.mono ?_
  rintro e w1 ⟨xb, rfl, hO1, hb1⟩
  have HN2 := duo_new hO1 hb1 ab_win
  clear HN0
  go_wp2_with fail
  refine HN2.mono ?_
  rintro e w2 ⟨yb, rfl, hD⟩
  have HW := duo_write hD abB (show 2 ≤ 140737488351232 by omega)
  rw [ab_write, errV_0] at HW
  have HM : Hid (∀ X, Duo w X xb yb abX (newE 20) → Calls Tryz.prog 11 #[.pointer (some ⟨xb, 0, none⟩)] X fun e w' => e = .returned (.string abP) ∧ Duo w w' xb yb (makeS abX) (newE 20)) := fun X hX => duo_make hX (keepOK_nil rfl) HV.out
  have HT : Hid (∀ X, Duo w X xb yb (makeS abX) (newE 20) → Calls Tryz.prog 10 #[.pointer (some ⟨yb, 0, none⟩), .string abP] X fun e w' => e = .returned .nilIface ∧ Duo w w' xb yb (makeS abX) abY) := fun X hX => (duo_take hX.swap abP (Nat.le_trans ab_size (by omega)) HV.out (fun n fs hr => rdP_ack hr)).mono fun e w' ⟨a, d⟩ => ⟨by rw [a, ab_took, errV_0], d.swap⟩
  have HR : Hid (∀ X, Duo w X xb yb (makeS abX) abY → Calls Tryz.prog 12 #[.pointer (some ⟨yb, 0, none⟩), .int .i64 9] X fun e w' => e = .returned (.tuple #[.string abB, .nilIface]) ∧ Below w.heap.size w w') := fun X hX => (duo_read hX.swap 9).mono fun e w' ⟨a, d⟩ => ⟨by rw [a, ab_readF, ab_readB, errV_0], d.bel⟩
  have hqB : abB = { data := #[97, 98] } := rfl
  rw [hqB] at HW HR
  clear HN2 hD hO1 hb1 hqB
  generalize abP = bb at *
  go_wp2_with (first | (go_at_call 9; refine HW.mono ?_; rintro e w3 ⟨rfl, hD3⟩; clear HW) | (go_at_call 11; refine (HM.out _ hD3).mono ?_; rintro e w4 ⟨rfl, hD4⟩) | (go_at_call 10; refine (HT.out _ hD4).mono ?_; rintro e w5 ⟨rfl, hD5⟩) | (go_at_call 12; refine (HR.out _ hD5).mono ?_; rintro e w6 ⟨rfl, hB6⟩; clear HM HT HR hD3 hD4 hD5))
  refine (new_yes n w6 hn).mono ?_
  rintro e w7 ⟨xb2, rfl, hO7, hb7⟩
  have hB7 := hB6.trans (hb7.mono hB6.size)
  have HN7 := duo_new (hO7.base hB6.size) hB7 hn
  go_wp2_with fail
  refine HN7.mono ?_
  rintro e w8 ⟨yb2, rfl, hD8⟩
  clear HN7 hO7 hb7 hB7 hB6
  have HDL : Hid (d.size ≤ 140737488351232) := hdl
  have HD6 : Hid (d.size ≤ 60) := hd
  have HW2 := duo_write hD8 d hdl
  rw [write_zero hd, errV_0] at HW2
  obtain ⟨hmk, y1, ht1, ht2⟩ := once_again (d := d) hn hd
  have hps := makeB_size hmk
  have HM2 : Hid (∀ X, Duo w X xb2 yb2 (writeS (newE n) d) (newE n) → Calls Tryz.prog 11 #[.pointer (some ⟨xb2, 0, none⟩)] X fun e w' => e = .returned (.string (makeB (writeS (newE n) d))) ∧ Duo w w' xb2 yb2 (makeS (writeS (newE n) d)) (newE n)) := fun X hX => duo_make hX (keepOK_all hX.inv) HV.out
  have HT2 : Hid (∀ X, Duo w X xb2 yb2 (makeS (writeS (newE n) d)) (newE n) → Calls Tryz.prog 10 #[.pointer (some ⟨yb2, 0, none⟩), .string (makeB (writeS (newE n) d))] X fun e w' => e = .returned .nilIface ∧ Duo w w' xb2 yb2 (makeS (writeS (newE n) d)) y1) := fun X hX => (duo_take hX.swap _ (Nat.le_trans hps (by omega)) HV.out (fun n fs hr => rdP_ack hr)).mono fun e w' ⟨a, d⟩ => ⟨by rw [a, ht1, errV_0], by rw [ht1] at d; exact d.swap⟩
  have HRD : Hid (∀ X, Duo w X xb2 yb2 (makeS (writeS (newE n) d)) y1 → Calls Tryz.prog 13 #[.pointer (some ⟨yb2, 0, none⟩)] X fun e w' => e = .returned (.int .i64 (Sx.rdy y1.s : Int)) ∧ Duo w w' xb2 yb2 (makeS (writeS (newE n) d)) y1) := fun X hX => (duo_ready hX.swap).mono fun e w' ⟨a, d⟩ => ⟨a, d.swap⟩
  have HT3 : Hid (∀ X v, Sol w X yb2 y1 v y1.cm → Calls Tryz.prog 10 #[.pointer (some ⟨yb2, 0, none⟩), .string (makeB (writeS (newE n) d))] X fun e w' => e = .returned .nilIface ∧ Sol w w' yb2 y1 v y1.cm) := fun X v hX => (sol_take hX _ (Nat.le_trans hps (by omega)) HV.out).mono fun e w' ⟨a, d⟩ => ⟨by rw [a, ht2, errV_0], by rw [ht2] at d; exact d⟩
  have HRS : Hid (∀ X v, Sol w X yb2 y1 v y1.cm → Calls Tryz.prog 13 #[.pointer (some ⟨yb2, 0, none⟩)] X fun e w' => e = .returned (.int .i64 (Sx.rdy y1.s : Int)) ∧ Sol w w' yb2 y1 v y1.cm) := fun X v hX => sol_ready hX
  have HT4 : Hid (∀ X v, Sol w X yb2 y1 v y1.cm → Calls Tryz.prog 10 #[.pointer (some ⟨yb2, 0, none⟩), .string b] X fun e w' => e = .returned (errV (takeP y1 b).1) ∧ Sol w w' yb2 (takeP y1 b).2 v y1.cm) := fun X v hX => sol_take hX _ hbl HV.out
  have HSM : Hid (∀ X u v, Row X u y1.cm → Sol w X yb2 y1 v y1.cm → Calls Tryz.prog 15 #[u, v] X fun e w' => e = .returned (.bool true) ∧ Sol w w' yb2 y1 v y1.cm) := fun X u v hu hX => (same_calls u v y1.cm y1.cm X hu (hX.row ((chk_ok y1.cm).1 hX.inv.cm).1)).mono fun e w' ⟨a, d⟩ => ⟨by rw [a, decide_eq_true rfl], hX.below d⟩
  clear hmk ht1 ht2 hps hD8
  generalize makeB (writeS (newE n) d) = pp at *
  generalize makeS (writeS (newE n) d) = x2 at *
  generalize (Sx.rdy y1.s : Int) = rr at *
  go_wp2_with (first | (go_at_call 9; refine HW2.mono ?_; rintro e w9 ⟨rfl, hD9⟩) | (go_at_call 11; refine (HM2.out _ hD9).mono ?_; rintro e w10 ⟨rfl, hD10⟩) | (go_at_call 10; refine (HT2.out _ hD10).mono ?_; rintro e w11 ⟨rfl, hD11⟩; clear HT2) | (go_at_call 13; refine (HRD.out _ hD11).mono ?_; rintro e w12 ⟨rfl, hD12⟩; clear HRD))
  refine (sol_start hD12).mono ?_
  rintro e w13 ⟨v, va, vcp, rfl, hv, hS13⟩
  subst hv
  clear hD12
  go_wp2_with (first | (go_at_call 10; refine (HT3.out _ _ hS13).mono ?_; rintro e w14 ⟨rfl, hS14⟩; clear HT3) | (go_at_call 13; refine (HRS.out _ _ hS14).mono ?_; rintro e w15 ⟨rfl, hS15⟩) | (go_at_call 14; refine (sol_acked hS15).mono ?_; rintro e w16 ⟨u, ua, uc, rfl, hu, hr16, hS16⟩; subst hu) | (go_at_call 15; refine (HSM.out _ _ _ hr16 hS16).mono ?_; rintro e w17 ⟨rfl, hS17⟩))
  refine (HT4.out _ _ hS17).mono ?_
  rintro e w18 ⟨rfl, hS18⟩
  clear HT4 hS17 hS16 hS15 hS14 hr16
  by_cases hf : (takeP y1 b).1 = 0
  · rw [hf, errV_0]
    have hB18 := hS18.bel
    clear hS18 HSM HRS hf
    go_wp2_with fail
    refine (new_yes n w18 hn).mono ?_
    rintro e wa ⟨zb, rfl, hOa, hba⟩
    have hBa := hB18.trans (hba.mono hB18.size)
    have HNb := duo_new (hOa.base hB18.size) hBa hn
    go_wp2_with fail
    refine HNb.mono ?_
    rintro e wb ⟨yb3, rfl, hDb⟩
    have HW3 := duo_write hDb d HDL.out
    rw [write_zero HD6.out, errV_0] at HW3
    clear HNb hOa hba hBa hB18 hDb
    go_wp2_with (go_at_call 9; refine HW3.mono ?_; rintro e wc ⟨rfl, hDc⟩)
    have HDc : Hid (Duo w wc zb yb3 (writeS (newE n) d) (newE n)) := hDc
    have HN : Hid (Cx.winB n = true) := hn
    clear hDc HW3
    go_loopg [24] 6 (fun gk s24 wr => ∃ (i r : Nat) (z y : En), gk + i = 6 ∧ s24 = .int .i64 i ∧ Hid (Duo w wr zb yb3 z y) ∧ Hid (Talk n d z y r r ∧ z.m = i ∧ y.m = i ∧ Few y z.m 0 ∧ Few z y.m 0 ∧ (i = 0 ∨ z.t = r) ∧ (10 ≤ n → Prog d z r i)))
    case atStart => exact ⟨0, 0, writeS (newE n) d, newE n, rfl, rfl, HDc, ⟨Talk.new HN.out HD6.out, (write_m n d).1, rfl, ⟨by simp [newE], fun _ => by simp [newE]⟩, ⟨by rw [(write_m n d).2.2]; simp, fun _ => by rw [(write_m n d).2.2]; simp⟩, .inl rfl, fun h => prog_new h⟩⟩
    case round =>
      obtain ⟨i, r, z, y, hi, rfl, HD, HT⟩ := hrel
      have HI : Hid (gk + i = 6) := hi
      clear hi
      by_cases g : (i : Int) < 6
      · obtain ⟨t1, t2, t3, t4, t5, t6, t7⟩ := HT.out
        obtain ⟨hm, y2, e1, e2, e3, z', e4, r', u1, u2, u3, u4, u5, u6, u7⟩ := round_both t1 t2 t3 (by omega) t4 t5
        have HNX : Hid (Talk n d z' (makeS (readS y2 60)) r' r' ∧ z'.m = i + 1 ∧ (makeS (readS y2 60)).m = i + 1 ∧ Few (makeS (readS y2 60)) z'.m 0 ∧ Few z' (makeS (readS y2 60)).m 0 ∧ (i + 1 = 0 ∨ z'.t = r') ∧ (10 ≤ n → Prog d z' r' (i + 1))) := ⟨u1, u2, u3, u4, u5, .inr u6, fun h => u7 h i (t7 h)⟩
        have hs1 := makeB_size hm
        have hs2 := makeB_size e3
        have HC1 := duo_make HD.out (keepOK_all HD.out.inv) HV.out
        have HC2 : Hid (∀ X, Duo w X zb yb3 (makeS z) y → Calls Tryz.prog 10 #[.pointer (some ⟨yb3, 0, none⟩), .string (makeB z)] X fun e w' => e = .returned .nilIface ∧ Duo w w' zb yb3 (makeS z) y2) := fun X hX => (duo_take hX.swap _ (Nat.le_trans hs1 (by omega)) HV.out (fun n fs hr => rdP_ack hr)).mono fun e w' ⟨a, d⟩ => ⟨by rw [a, e1, errV_0], by rw [e1] at d; exact d.swap⟩
        have HC3 : Hid (∀ X, Duo w X zb yb3 (makeS z) y2 → Calls Tryz.prog 12 #[.pointer (some ⟨yb3, 0, none⟩), .int .i64 60] X fun e w' => e = .returned (.tuple #[.string (readB y2 60), .nilIface]) ∧ Duo w w' zb yb3 (makeS z) (readS y2 60)) := fun X hX => (duo_read hX.swap 60).mono fun e w' ⟨a, d⟩ => ⟨by rw [a, e2, errV_0], d.swap⟩
        have HC4 : Hid (∀ X, Duo w X zb yb3 (makeS z) (readS y2 60) → Calls Tryz.prog 11 #[.pointer (some ⟨yb3, 0, none⟩)] X fun e w' => e = .returned (.string (makeB (readS y2 60))) ∧ Duo w w' zb yb3 (makeS z) (makeS (readS y2 60))) := fun X hX => (duo_make hX.swap (keepOK_all hX.swap.inv) HV.out).mono fun e w' ⟨a, d⟩ => ⟨a, d.swap⟩
        have HC5 : Hid (∀ X, Duo w X zb yb3 (makeS z) (makeS (readS y2 60)) → Calls Tryz.prog 10 #[.pointer (some ⟨zb, 0, none⟩), .string (makeB (readS y2 60))] X fun e w' => e = .returned .nilIface ∧ Duo w w' zb yb3 z' (makeS (readS y2 60))) := fun X hX => (duo_take hX _ (Nat.le_trans hs2 (by omega)) HV.out (fun n fs hr => rdP_ack hr)).mono fun e w' ⟨a, d⟩ => ⟨by rw [a, e4, errV_0], by rw [e4] at d; exact d⟩
        clear hm e1 e2 e3 e4 u1 u2 u3 u4 u5 u6 u7 t1 t2 t3 t4 t5 t6 t7 hs1 hs2 HT HD
        generalize makeB z = pz at *
        generalize makeB (readS y2 60) = py at *
        generalize readB y2 60 = ry at *
        generalize makeS (readS y2 60) = y4 at *
        generalize readS y2 60 = y3 at *
        generalize makeS z = z1 at *
        go_wp2_with (first | (go_at_call 11; refine HC1.mono ?_; rintro e v1 ⟨rfl, f1⟩; clear HC1) | (go_at_call 10; refine (HC2.out _ f1).mono ?_; rintro e v2 ⟨rfl, f2⟩; clear HC2) | (go_at_call 12; refine (HC3.out _ f2).mono ?_; rintro e v3 ⟨rfl, f3⟩) | (go_at_call 11; refine (HC4.out _ f3).mono ?_; rintro e v4 ⟨rfl, f4⟩) | (go_at_call 10; refine (HC5.out _ f4).mono ?_; rintro e v5 ⟨rfl, f5⟩))
        go_roundg (6 - (i + 1))
        case measure => have := HI.out; omega
        case rel => exact ⟨i + 1, r', z', y4, by have := HI.out; omega, by go_num, f5, HNX⟩
      · have hi6 : i = 6 := by have := HI.out; omega
        subst hi6
        obtain ⟨t1, t2, t3, t4, t5, t6, t7⟩ := HT.out
        have hm := makeF_zero t1.xi (by omega)
        have hrd := rdP_back (n := z.m) (k := z.k) (more := 5) (l := frs z) hm (by have := t1.xi.k1; omega) (by omega)
        rw [show (5 : Int) + 1 = 6 from rfl, ← makeB_is hm] at hrd
        have HKN : Hid (∀ f ∈ frs z, f.1 = 3 → n < 10) := fun f hf h3 => by
          by_cases h10 : 10 ≤ n
          · have hr := prog_done t1 (t7 h10) (Nat.le_refl _)
            have ht : z.t = r := by
              rcases t6 with h | h
              · omega
              · exact h
            have hen := en_le z
            rw [t1.xd] at hen
            exact absurd h3 (frs_kinds (pieces_told (by omega)) f hf)
          · omega
        have hs1 := makeB_size hm
        have HC1 := duo_make HD.out (keepOK_all HD.out.inv) HV.out
        have HC2 : Hid (∀ X, Duo w X zb yb3 (makeS z) y → Calls Tryz.prog 16 #[.string (makeB z), .int .i64 6] X fun e w' => ∃ v us, e = .returned (.tuple #[.int .i64 z.m, v, .nilIface]) ∧ FOwn w' X.heap.size v us (frs z) ∧ Below w.heap.size w w') := fun X hX => (pkt_parse_yes _ 6 X (HV.out.1.below hX.bel) (HV.out.2.below hX.bel) (by decide) hs1 _ _ hrd).mono fun e w' ⟨v, us, a, o, d⟩ => ⟨v, us, a, o, hX.bel.trans (d.mono hX.bel.size)⟩
        have hlen := (frs_length (e := z)).2
        clear hm hrd t1 t2 t3 t4 t5 t6 t7 hs1 HT HD
        generalize makeB z = pz at *
        generalize makeS z = z1 at *
        generalize frs z = fs at *
        generalize (z.m : Int) = zm at *
        go_wp2_with (first | (go_at_call 11; refine HC1.mono ?_; rintro e v1 ⟨rfl, f1⟩; clear HC1) | (go_at_call 16; refine (HC2.out _ f1).mono ?_; rintro e v2 ⟨v, us, rfl, hFO, hB2⟩; obtain ⟨fa, fc, hv⟩ := own_sh hFO.own; subst hv))
        have HFO : Hid (FOwn v2 v1.heap.size (.slice fa fs.length fc) us fs) := hFO
        have HB2 : Hid (Below w.heap.size w v2) := hB2
        clear hFO hB2 f1 HC2
        generalize hM : fs.length = m at hlen HFO ⊢
        have HM : Hid (fs.length = m) := hM
        clear hM
        go_loopg [29] m (fun gk s29 wr => ∃ k : Nat, gk + k = m ∧ s29 = .int .i64 k ∧ Hid (v2 = wr))
        case atStart => exact ⟨0, rfl, rfl, rfl⟩
        case round =>
          obtain ⟨k, hk, rfl, HW⟩ := hrel
          have HK : Hid (gk + k = m) := hk
          clear hk
          obtain rfl := HW.out
          clear HW
          by_cases g : (k : Int) < (m : Int)
          · have hkl : k < fs.length := by have := HM.out; omega
            have hown := HFO.out.own
            rw [HM.out] at hown
            obtain ⟨gb, capv, hv1, _, _⟩ := hown.form (by omega)
            injection hv1 with i1 i2 i3
            subst i1 i3
            have y0 := hown.cellAt (k * 3) (by omega)
            rw [(fcs_get us fs k HFO.out.len hkl).1] at y0
            have hk3 := HKN.out (fat fs k) (fat_mem hkl)
            clear hown hkl
            generalize (fat fs k).1 = kk at *
            by_cases h3 : kk = 3
            · subst h3
              have hn10 := hk3 rfl
              have g10 : ¬ (10 : Int) ≤ n := by omega
              go_wp2_with fail
              go_roundg (m - (k + 1))
              case measure => have := HK.out; omega
              case rel => exact ⟨k + 1, by have := HK.out; omega, by go_num, rfl⟩
            · go_wp2_with fail
              go_roundg (m - (k + 1))
              case measure => have := HK.out; omega
              case rel => exact ⟨k + 1, by have := HK.out; omega, by go_num, rfl⟩
          · go_wp2_with fail
            go_ret
            exact ⟨rfl, HB2.out⟩
  · rw [takeP_err hf] at hS18
    rw [errV_f hf]
    clear hf
    generalize (takeP y1 b).1 = ff at *
    go_wp2_with (first | (go_at_call 13; refine (HRS.out _ _ hS18).mono ?_; rintro e w19 ⟨rfl, hS19⟩) | (go_at_call 14; refine (sol_acked hS19).mono ?_; rintro e w20 ⟨u2, ua2, uc2, rfl, hu2, hr20, hS20⟩; subst hu2) | (go_at_call 15; refine (HSM.out _ _ _ hr20 hS20).mono ?_; rintro e w21 ⟨rfl, hS21⟩))
    have hB21 := hS21.bel
    clear hS18 hS19 hS20 hS21 HSM HRS hr20
    refine (new_yes n w21 hn).mono ?_
    rintro e wa ⟨zb, rfl, hOa, hba⟩
    have hBa := hB21.trans (hba.mono hB21.size)
    have HNb := duo_new (hOa.base hB21.size) hBa hn
    go_wp2_with fail
    refine HNb.mono ?_
    rintro e wb ⟨yb3, rfl, hDb⟩
    have HW3 := duo_write hDb d HDL.out
    rw [write_zero HD6.out, errV_0] at HW3
    clear HNb hOa hba hBa hB21 hDb
    go_wp2_with (go_at_call 9; refine HW3.mono ?_; rintro e wc ⟨rfl, hDc⟩)
    have HDc : Hid (Duo w wc zb yb3 (writeS (newE n) d) (newE n)) := hDc
    have HN : Hid (Cx.winB n = true) := hn
    clear hDc HW3
    go_loopg [24] 6 (fun gk s24 wr => ∃ (i r : Nat) (z y : En), gk + i = 6 ∧ s24 = .int .i64 i ∧ Hid (Duo w wr zb yb3 z y) ∧ Hid (Talk n d z y r r ∧ z.m = i ∧ y.m = i ∧ Few y z.m 0 ∧ Few z y.m 0 ∧ (i = 0 ∨ z.t = r) ∧ (10 ≤ n → Prog d z r i)))
    case atStart => exact ⟨0, 0, writeS (newE n) d, newE n, rfl, rfl, HDc, ⟨Talk.new HN.out HD6.out, (write_m n d).1, rfl, ⟨by simp [newE], fun _ => by simp [newE]⟩, ⟨by rw [(write_m n d).2.2]; simp, fun _ => by rw [(write_m n d).2.2]; simp⟩, .inl rfl, fun h => prog_new h⟩⟩
    case round =>
      obtain ⟨i, r, z, y, hi, rfl, HD, HT⟩ := hrel
      have HI : Hid (gk + i = 6) := hi
      clear hi
      by_cases g : (i : Int) < 6
      · obtain ⟨t1, t2, t3, t4, t5, t6, t7⟩ := HT.out
        obtain ⟨hm, y2, e1, e2, e3, z', e4, r', u1, u2, u3, u4, u5, u6, u7⟩ := round_both t1 t2 t3 (by omega) t4 t5
        have HNX : Hid (Talk n d z' (makeS (readS y2 60)) r' r' ∧ z'.m = i + 1 ∧ (makeS (readS y2 60)).m = i + 1 ∧ Few (makeS (readS y2 60)) z'.m 0 ∧ Few z' (makeS (readS y2 60)).m 0 ∧ (i + 1 = 0 ∨ z'.t = r') ∧ (10 ≤ n → Prog d z' r' (i + 1))) := ⟨u1, u2, u3, u4, u5, .inr u6, fun h => u7 h i (t7 h)⟩
        have hs1 := makeB_size hm
        have hs2 := makeB_size e3
        have HC1 := duo_make HD.out (keepOK_all HD.out.inv) HV.out
        have HC2 : Hid (∀ X, Duo w X zb yb3 (makeS z) y → Calls Tryz.prog 10 #[.pointer (some ⟨yb3, 0, none⟩), .string (makeB z)] X fun e w' => e = .returned .nilIface ∧ Duo w w' zb yb3 (makeS z) y2) := fun X hX => (duo_take hX.swap _ (Nat.le_trans hs1 (by omega)) HV.out (fun n fs hr => rdP_ack hr)).mono fun e w' ⟨a, d⟩ => ⟨by rw [a, e1, errV_0], by rw [e1] at d; exact d.swap⟩
        have HC3 : Hid (∀ X, Duo w X zb yb3 (makeS z) y2 → Calls Tryz.prog 12 #[.pointer (some ⟨yb3, 0, none⟩), .int .i64 60] X fun e w' => e = .returned (.tuple #[.string (readB y2 60), .nilIface]) ∧ Duo w w' zb yb3 (makeS z) (readS y2 60)) := fun X hX => (duo_read hX.swap 60).mono fun e w' ⟨a, d⟩ => ⟨by rw [a, e2, errV_0], d.swap⟩
        have HC4 : Hid (∀ X, Duo w X zb yb3 (makeS z) (readS y2 60) → Calls Tryz.prog 11 #[.pointer (some ⟨yb3, 0, none⟩)] X fun e w' => e = .returned (.string (makeB (readS y2 60))) ∧ Duo w w' zb yb3 (makeS z) (makeS (readS y2 60))) := fun X hX => (duo_make hX.swap (keepOK_all hX.swap.inv) HV.out).mono fun e w' ⟨a, d⟩ => ⟨a, d.swap⟩
        have HC5 : Hid (∀ X, Duo w X zb yb3 (makeS z) (makeS (readS y2 60)) → Calls Tryz.prog 10 #[.pointer (some ⟨zb, 0, none⟩), .string (makeB (readS y2 60))] X fun e w' => e = .returned .nilIface ∧ Duo w w' zb yb3 z' (makeS (readS y2 60))) := fun X hX => (duo_take hX _ (Nat.le_trans hs2 (by omega)) HV.out (fun n fs hr => rdP_ack hr)).mono fun e w' ⟨a, d⟩ => ⟨by rw [a, e4, errV_0], by rw [e4] at d; exact d⟩
        clear hm e1 e2 e3 e4 u1 u2 u3 u4 u5 u6 u7 t1 t2 t3 t4 t5 t6 t7 hs1 hs2 HT HD
        generalize makeB z = pz at *
        generalize makeB (readS y2 60) = py at *
        generalize readB y2 60 = ry at *
        generalize makeS (readS y2 60) = y4 at *
        generalize readS y2 60 = y3 at *
        generalize makeS z = z1 at *
        go_wp2_with (first | (go_at_call 11; refine HC1.mono ?_; rintro e v1 ⟨rfl, f1⟩; clear HC1) | (go_at_call 10; refine (HC2.out _ f1).mono ?_; rintro e v2 ⟨rfl, f2⟩; clear HC2) | (go_at_call 12; refine (HC3.out _ f2).mono ?_; rintro e v3 ⟨rfl, f3⟩) | (go_at_call 11; refine (HC4.out _ f3).mono ?_; rintro e v4 ⟨rfl, f4⟩) | (go_at_call 10; refine (HC5.out _ f4).mono ?_; rintro e v5 ⟨rfl, f5⟩))
        go_roundg (6 - (i + 1))
        case measure => have := HI.out; omega
        case rel => exact ⟨i + 1, r', z', y4, by have := HI.out; omega, by go_num, f5, HNX⟩
      · have hi6 : i = 6 := by have := HI.out; omega
        subst hi6
        obtain ⟨t1, t2, t3, t4, t5, t6, t7⟩ := HT.out
        have hm := makeF_zero t1.xi (by omega)
        have hrd := rdP_back (n := z.m) (k := z.k) (more := 5) (l := frs z) hm (by have := t1.xi.k1; omega) (by omega)
        rw [show (5 : Int) + 1 = 6 from rfl, ← makeB_is hm] at hrd
        have HKN : Hid (∀ f ∈ frs z, f.1 = 3 → n < 10) := fun f hf h3 => by
          by_cases h10 : 10 ≤ n
          · have hr := prog_done t1 (t7 h10) (Nat.le_refl _)
            have ht : z.t = r := by
              rcases t6 with h | h
              · omega
              · exact h
            have hen := en_le z
            rw [t1.xd] at hen
            exact absurd h3 (frs_kinds (pieces_told (by omega)) f hf)
          · omega
        have hs1 := makeB_size hm
        have HC1 := duo_make HD.out (keepOK_all HD.out.inv) HV.out
        have HC2 : Hid (∀ X, Duo w X zb yb3 (makeS z) y → Calls Tryz.prog 16 #[.string (makeB z), .int .i64 6] X fun e w' => ∃ v us, e = .returned (.tuple #[.int .i64 z.m, v, .nilIface]) ∧ FOwn w' X.heap.size v us (frs z) ∧ Below w.heap.size w w') := fun X hX => (pkt_parse_yes _ 6 X (HV.out.1.below hX.bel) (HV.out.2.below hX.bel) (by decide) hs1 _ _ hrd).mono fun e w' ⟨v, us, a, o, d⟩ => ⟨v, us, a, o, hX.bel.trans (d.mono hX.bel.size)⟩
        have hlen := (frs_length (e := z)).2
        clear hm hrd t1 t2 t3 t4 t5 t6 t7 hs1 HT HD
        generalize makeB z = pz at *
        generalize makeS z = z1 at *
        generalize frs z = fs at *
        generalize (z.m : Int) = zm at *
        go_wp2_with (first | (go_at_call 11; refine HC1.mono ?_; rintro e v1 ⟨rfl, f1⟩; clear HC1) | (go_at_call 16; refine (HC2.out _ f1).mono ?_; rintro e v2 ⟨v, us, rfl, hFO, hB2⟩; obtain ⟨fa, fc, hv⟩ := own_sh hFO.own; subst hv))
        have HFO : Hid (FOwn v2 v1.heap.size (.slice fa fs.length fc) us fs) := hFO
        have HB2 : Hid (Below w.heap.size w v2) := hB2
        clear hFO hB2 f1 HC2
        generalize hM : fs.length = m at hlen HFO ⊢
        have HM : Hid (fs.length = m) := hM
        clear hM
        go_loopg [29] m (fun gk s29 wr => ∃ k : Nat, gk + k = m ∧ s29 = .int .i64 k ∧ Hid (v2 = wr))
        case atStart => exact ⟨0, rfl, rfl, rfl⟩
        case round =>
          obtain ⟨k, hk, rfl, HW⟩ := hrel
          have HK : Hid (gk + k = m) := hk
          clear hk
          obtain rfl := HW.out
          clear HW
          by_cases g : (k : Int) < (m : Int)
          · have hkl : k < fs.length := by have := HM.out; omega
            have hown := HFO.out.own
            rw [HM.out] at hown
            obtain ⟨gb, capv, hv1, _, _⟩ := hown.form (by omega)
            injection hv1 with i1 i2 i3
            subst i1 i3
            have y0 := hown.cellAt (k * 3) (by omega)
            rw [(fcs_get us fs k HFO.out.len hkl).1] at y0
            have hk3 := HKN.out (fat fs k) (fat_mem hkl)
            clear hown hkl
            generalize (fat fs k).1 = kk at *
            by_cases h3 : kk = 3
            · subst h3
              have hn10 := hk3 rfl
              have g10 : ¬ (10 : Int) ≤ n := by omega
              go_wp2_with fail
              go_roundg (m - (k + 1))
              case measure => have := HK.out; omega
              case rel => exact ⟨k + 1, by have := HK.out; omega, by go_num, rfl⟩
            · go_wp2_with fail
              go_roundg (m - (k + 1))
              case measure => have := HK.out; omega
              case rel => exact ⟨k + 1, by have := HK.out; omega, by go_num, rfl⟩
          · go_wp2_with fail
            go_ret
            exact ⟨rfl, HB2.out⟩
theorem twice_calls (n : Int) (d b : ByteArray) (w : World) (hV : V.Forms w ∧ Cnts w) (hdl : d.size ≤ 140737488351232) (hbl : b.size ≤ 9223372036854775807) : Calls Tryz.prog 3 #[.int .i64 n, .string d, .string b] w fun e w' => e = .returned (.bool true) ∧ Below w.heap.size w w' := by
  by_cases hn : Cx.winB n = true
  · by_cases hd : d.size ≤ 60
    · exact twice_yes n d b w hV hdl hbl hn hd
    · exact twice_long n d b w hV hdl hbl hn (by omega)
  · exact twice_no n d b w hV hdl hbl (by simpa using hn)
end Go.Proofs.YtoabfilliiopmaaGreatDoor
