/- What the laws of package run need. -/
import Derived.Test.YtdokgalidhmbbaaGreatDoorHUA
import Derived.Test.YtdokgalidhmbbaaGreatDoorHY
import Derived.Test.YtdokgalidhmbbaaGreatDoorHJ
set_option linter.unusedVariables false
set_option linter.unusedSimpArgs false
set_option maxRecDepth 100000
set_option maxHeartbeats 8000000
namespace Go.Proofs.YtdokgalidhmbbaaGreatDoor
open Go.RowKit Go.Lib Go.Sort

set_option maxRecDepth 100000 in
set_option maxHeartbeats 4000000 in
theorem tone_no (tb : Nat) (who : Int) (w : World) (hw : Lk.endB who = false) : Calls Tryz.prog 95 #[.pointer (some ⟨tb, 0, none⟩), .int .i64 who] w fun ex w' => ex = .returned (.tuple #[.pointer none, .iface 133 (.int .i64 1)]) ∧ w' = w := by
  have h1 := of_decide_eq_false hw
  clear hw
  by_cases h2 : who < 0
  · clear h1
    go_enter Tryz.func95, Tryz.ntmps95
    go_wp2_with fail
    go_ret2
    exact ⟨rfl, rfl⟩
  · have h3 : 2 ≤ who := by omega
    clear h1
    go_enter Tryz.func95, Tryz.ntmps95
    go_wp2_with fail
    go_ret2
    exact ⟨rfl, rfl⟩
set_option maxRecDepth 100000 in
set_option maxHeartbeats 4000000 in
theorem tone_0 (tb : Nat) (w : World) : Calls Tryz.prog 95 #[.pointer (some ⟨tb, 0, none⟩), .int .i64 0] w fun ex w' => ex = .returned (.tuple #[.pointer (some ⟨tb, 0, none⟩), .nilIface]) ∧ w' = w := by
  go_enter Tryz.func95, Tryz.ntmps95
  go_wp2_with fail
  go_ret2
  exact ⟨rfl, rfl⟩
set_option maxRecDepth 100000 in
set_option maxHeartbeats 4000000 in
theorem tone_1 (tb : Nat) (w : World) : Calls Tryz.prog 95 #[.pointer (some ⟨tb, 0, none⟩), .int .i64 1] w fun ex w' => ex = .returned (.tuple #[.pointer (some ⟨tb, 251, none⟩), .nilIface]) ∧ w' = w := by
  go_enter Tryz.func95, Tryz.ntmps95
  go_wp2_with fail
  go_ret2
  exact ⟨rfl, rfl⟩
set_option maxRecDepth 100000 in
set_option maxHeartbeats 4000000 in
theorem tother (who : Int) (w : World) (h : Lk.endB who = true) : Calls Tryz.prog 99 #[.int .i64 who] w fun ex w' => ex = .returned (.int .i64 (1 - who)) ∧ w' = w := by
  rcases end_cases h with rfl | rfl
  · go_enter Tryz.func99, Tryz.ntmps99
    go_wp2_with fail
    go_ret
    exact ⟨rfl, rfl⟩
  · go_enter Tryz.func99, Tryz.ntmps99
    go_wp2_with fail
    go_ret
    exact ⟨rfl, rfl⟩
set_option maxRecDepth 100000 in
set_option maxHeartbeats 4000000 in
theorem twrite_no (tb : Nat) (who : Int) (d : ByteArray) (w : World) (hw : Lk.endB who = false) : Calls Tryz.prog 73 #[.pointer (some ⟨tb, 0, none⟩), .int .i64 who, .string d] w fun ex w' => ex = .returned (.iface 133 (.int .i64 1)) ∧ w' = w := by
  have HONE := tone_no tb who w hw
  clear hw
  go_enter Tryz.func73, Tryz.ntmps73
  go_wp2_with (go_at_call 95; refine HONE.mono ?_; rintro ex w1 ⟨rfl, hw1⟩; obtain rfl := hw1.symm)
  go_ret
  exact ⟨rfl, rfl⟩
set_option maxRecDepth 100000 in
set_option maxHeartbeats 4000000 in
theorem twrite_0 {w : World} {B tb : Nat} {u : Tv} {s : Tt} (h : TO w B tb u s) (d : ByteArray) (hl : d.size ≤ 140737488351232) : Calls Tryz.prog 73 #[.pointer (some ⟨tb, 0, none⟩), .int .i64 0, .string d] w fun ex w' => ex = .returned (errV (writeF s.a d)) ∧ TTurn w w' B tb u { s with a := writeS s.a d } := by
  have HONE := tone_0 tb w
  have HW := Ez.write_calls h.a d hl
  have HT : Hid (∀ w', Ez.TurnP 0 (fun i => w.cell? ⟨tb, i, none⟩) w w' B tb u.la u.ca (writeS s.a d) → TTurn w w' B tb u { s with a := writeS s.a d }) := fun w' ht => TTurn.a h ht
  clear h
  generalize errV (writeF s.a d) = er at HW ⊢
  go_enter Tryz.func73, Tryz.ntmps73
  go_wp2_with (first | (go_at_call 95; refine HONE.mono ?_; rintro ex w1 ⟨rfl, hw1⟩; obtain rfl := hw1.symm) | (go_at_call 96; refine HW.mono ?_; rintro ex w2 ⟨rfl, ht2⟩))
  go_ret
  exact ⟨rfl, HT.out _ ht2⟩
set_option maxRecDepth 100000 in
set_option maxHeartbeats 4000000 in
theorem twrite_1 {w : World} {B tb : Nat} {u : Tv} {s : Tt} (h : TO w B tb u s) (d : ByteArray) (hl : d.size ≤ 140737488351232) : Calls Tryz.prog 73 #[.pointer (some ⟨tb, 0, none⟩), .int .i64 1, .string d] w fun ex w' => ex = .returned (errV (writeF s.b d)) ∧ TTurn w w' B tb u { s with b := writeS s.b d } := by
  have HONE := tone_1 tb w
  have HW := Ez.write_calls h.b d hl
  have HT : Hid (∀ w', Ez.TurnP 251 (fun i => w.cell? ⟨tb, i, none⟩) w w' B tb u.lb u.cb (writeS s.b d) → TTurn w w' B tb u { s with b := writeS s.b d }) := fun w' ht => TTurn.b h ht
  clear h
  generalize errV (writeF s.b d) = er at HW ⊢
  go_enter Tryz.func73, Tryz.ntmps73
  go_wp2_with (first | (go_at_call 95; refine HONE.mono ?_; rintro ex w1 ⟨rfl, hw1⟩; obtain rfl := hw1.symm) | (go_at_call 96; refine HW.mono ?_; rintro ex w2 ⟨rfl, ht2⟩))
  go_ret
  exact ⟨rfl, HT.out _ ht2⟩
theorem twrite_calls {w : World} {B tb : Nat} {u : Tv} {s : Tt} (h : TO w B tb u s) (who : Int) (d : ByteArray) (hl : d.size ≤ 140737488351232) : Calls Tryz.prog 73 #[.pointer (some ⟨tb, 0, none⟩), .int .i64 who, .string d] w fun ex w' => ex = .returned (errV (tWriteF s who d)) ∧ TTurn w w' B tb u (tWriteS s who d) := by
  cases hw : Lk.endB who with
  | false =>
    unfold tWriteF tWriteS
    rw [hw, if_neg (by decide), if_neg (by decide), errV_f (by decide)]
    exact (twrite_no tb who d w hw).mono fun ex w' ⟨a, b⟩ => ⟨a, by rw [b]; exact TTurn.same h⟩
  | true =>
    unfold tWriteF tWriteS
    rw [hw, if_pos rfl, if_pos rfl]
    rcases end_cases hw with rfl | rfl
    · exact twrite_0 h d hl
    · exact twrite_1 h d hl
set_option maxRecDepth 100000 in
set_option maxHeartbeats 4000000 in
theorem tread_no (tb : Nat) (who n : Int) (w : World) (hw : Lk.endB who = false) : Calls Tryz.prog 105 #[.pointer (some ⟨tb, 0, none⟩), .int .i64 who, .int .i64 n] w fun ex w' => ex = .returned (.tuple #[.string { data := #[] }, .iface 133 (.int .i64 1)]) ∧ w' = w := by
  have HONE := tone_no tb who w hw
  clear hw
  go_enter Tryz.func105, Tryz.ntmps105
  go_wp2_with (go_at_call 95; refine HONE.mono ?_; rintro ex w1 ⟨rfl, hw1⟩; obtain rfl := hw1.symm)
  go_ret2
  exact ⟨rfl, rfl⟩
set_option maxRecDepth 100000 in
set_option maxHeartbeats 4000000 in
theorem tread_0 {w : World} {B tb : Nat} {u : Tv} {s : Tt} (h : TO w B tb u s) (n : Int) : Calls Tryz.prog 105 #[.pointer (some ⟨tb, 0, none⟩), .int .i64 0, .int .i64 n] w fun ex w' => ex = .returned (.tuple #[.string (readB s.a n), errV (readF s.a n)]) ∧ TTurn w w' B tb u { s with a := readS s.a n } := by
  have HONE := tone_0 tb w
  have HW := Ez.read_calls h.a n
  have HT : Hid (∀ w', Ez.TurnP 0 (fun i => w.cell? ⟨tb, i, none⟩) w w' B tb u.la u.ca (readS s.a n) → TTurn w w' B tb u { s with a := readS s.a n }) := fun w' ht => TTurn.a h ht
  clear h
  generalize errV (readF s.a n) = er at HW ⊢
  generalize readB s.a n = bs at HW ⊢
  go_enter Tryz.func105, Tryz.ntmps105
  go_wp2_with (first | (go_at_call 95; refine HONE.mono ?_; rintro ex w1 ⟨rfl, hw1⟩; obtain rfl := hw1.symm) | (go_at_call 136; refine HW.mono ?_; rintro ex w2 ⟨rfl, ht2⟩))
  go_ret2
  exact ⟨rfl, HT.out _ ht2⟩
set_option maxRecDepth 100000 in
set_option maxHeartbeats 4000000 in
theorem tread_1 {w : World} {B tb : Nat} {u : Tv} {s : Tt} (h : TO w B tb u s) (n : Int) : Calls Tryz.prog 105 #[.pointer (some ⟨tb, 0, none⟩), .int .i64 1, .int .i64 n] w fun ex w' => ex = .returned (.tuple #[.string (readB s.b n), errV (readF s.b n)]) ∧ TTurn w w' B tb u { s with b := readS s.b n } := by
  have HONE := tone_1 tb w
  have HW := Ez.read_calls h.b n
  have HT : Hid (∀ w', Ez.TurnP 251 (fun i => w.cell? ⟨tb, i, none⟩) w w' B tb u.lb u.cb (readS s.b n) → TTurn w w' B tb u { s with b := readS s.b n }) := fun w' ht => TTurn.b h ht
  clear h
  generalize errV (readF s.b n) = er at HW ⊢
  generalize readB s.b n = bs at HW ⊢
  go_enter Tryz.func105, Tryz.ntmps105
  go_wp2_with (first | (go_at_call 95; refine HONE.mono ?_; rintro ex w1 ⟨rfl, hw1⟩; obtain rfl := hw1.symm) | (go_at_call 136; refine HW.mono ?_; rintro ex w2 ⟨rfl, ht2⟩))
  go_ret2
  exact ⟨rfl, HT.out _ ht2⟩
theorem tread_calls {w : World} {B tb : Nat} {u : Tv} {s : Tt} (h : TO w B tb u s) (who n : Int) : Calls Tryz.prog 105 #[.pointer (some ⟨tb, 0, none⟩), .int .i64 who, .int .i64 n] w fun ex w' => ex = .returned (.tuple #[.string (tReadB s who n), errV (tReadF s who n)]) ∧ TTurn w w' B tb u (tReadS s who n) := by
  cases hw : Lk.endB who with
  | false =>
    unfold tReadF tReadS tReadB
    rw [hw, if_neg (by decide), if_neg (by decide), if_neg (by decide), errV_f (by decide)]
    exact (tread_no tb who n w hw).mono fun ex w' ⟨a, b⟩ => ⟨a, by rw [b]; exact TTurn.same h⟩
  | true =>
    unfold tReadF tReadS tReadB
    rw [hw, if_pos rfl, if_pos rfl, if_pos rfl]
    rcases end_cases hw with rfl | rfl
    · exact tread_0 h n
    · exact tread_1 h n
set_option maxRecDepth 100000 in
set_option maxHeartbeats 4000000 in
theorem tlose_calls {w : World} {B tb : Nat} {u : Tv} {s : Tt} (h : TO w B tb u s) (i : Int) : Calls Tryz.prog 76 #[.pointer (some ⟨tb, 0, none⟩), .int .i64 i] w fun ex w' => ex = .returned (errV (Lk.giveF s.ls i)) ∧ TTurn w w' B tb u (tLoseS s i) := by
  have HW := Lk.lose_calls h.l i
  have HT : Hid (∀ w', Lk.Turn (fun i => w.cell? ⟨tb, i, none⟩) w w' 212 502 B tb u.v (Lk.giveS s.ls i) → TTurn w w' B tb u (tLoseS s i)) := fun w' ht => TTurn.l h ht
  clear h
  generalize errV (Lk.giveF s.ls i) = er at HW ⊢
  go_enter Tryz.func76, Tryz.ntmps76
  go_wp2_with (go_at_call 103; refine HW.mono ?_; rintro ex w2 ⟨rfl, ht2⟩)
  go_ret
  exact ⟨rfl, HT.out _ ht2⟩
set_option maxRecDepth 100000 in
set_option maxHeartbeats 4000000 in
theorem ttwice_calls {w : World} {B tb : Nat} {u : Tv} {s : Tt} (h : TO w B tb u s) (i : Int) : Calls Tryz.prog 77 #[.pointer (some ⟨tb, 0, none⟩), .int .i64 i] w fun ex w' => ex = .returned (errV (Lk.twF s.ls i)) ∧ TTurn w w' B tb u (tTwiceS s i) := by
  have HW := Lk.twice_calls h.l i
  have HT : Hid (∀ w', Lk.Turn (fun i => w.cell? ⟨tb, i, none⟩) w w' 212 502 B tb u.v (Lk.twS s.ls i) → TTurn w w' B tb u (tTwiceS s i)) := fun w' ht => TTurn.l h ht
  clear h
  generalize errV (Lk.twF s.ls i) = er at HW ⊢
  go_enter Tryz.func77, Tryz.ntmps77
  go_wp2_with (go_at_call 104; refine HW.mono ?_; rintro ex w2 ⟨rfl, ht2⟩)
  go_ret
  exact ⟨rfl, HT.out _ ht2⟩
set_option maxRecDepth 100000 in
set_option maxHeartbeats 4000000 in
theorem tcount_calls {w : World} {B tb : Nat} {u : Tv} {s : Tt} (h : TO w B tb u s) : Calls Tryz.prog 80 #[.pointer (some ⟨tb, 0, none⟩)] w fun ex w' => ex = .returned (.int .i64 (s.ls.length : Int)) ∧ w' = w := by
  have HW := Lk.count_calls h.l
  clear h
  generalize s.ls.length = m at HW ⊢
  go_enter Tryz.func80, Tryz.ntmps80
  go_wp2_with (go_at_call 97; refine HW.mono ?_; rintro ex w2 ⟨rfl, hw2⟩; obtain rfl := hw2.symm)
  go_ret
  exact ⟨rfl, rfl⟩
set_option maxRecDepth 100000 in
set_option maxHeartbeats 4000000 in
theorem tsend_no (tb : Nat) (who : Int) (w : World) (hw : Lk.endB who = false) : Calls Tryz.prog 74 #[.pointer (some ⟨tb, 0, none⟩), .int .i64 who] w fun ex w' => ex = .returned (.iface 133 (.int .i64 1)) ∧ w' = w := by
  have HONE := tone_no tb who w hw
  clear hw
  go_enter Tryz.func74, Tryz.ntmps74
  go_wp2_with (go_at_call 95; refine HONE.mono ?_; rintro ex w1 ⟨rfl, hw1⟩; obtain rfl := hw1.symm)
  go_ret
  exact ⟨rfl, rfl⟩
set_option maxRecDepth 100000 in
set_option maxHeartbeats 4000000 in
theorem tsend_full0 {w : World} {B tb : Nat} {u : Tv} {s : Tt} (h : TO w B tb u s) (hf : 40 ≤ s.ls.length) : Calls Tryz.prog 74 #[.pointer (some ⟨tb, 0, none⟩), .int .i64 0] w fun ex w' => ex = .returned (.iface 133 (.int .i64 4)) ∧ w' = w := by
  have HONE := tone_0 tb w
  have HC := Lk.count_calls h.l
  have hf' : (40 : Int) ≤ (s.ls.length : Int) := by omega
  clear h hf
  generalize s.ls.length = m at HC hf'
  go_enter Tryz.func74, Tryz.ntmps74
  go_wp2_with (first | (go_at_call 95; refine HONE.mono ?_; rintro ex w1 ⟨rfl, hw1⟩; obtain rfl := hw1.symm) | (go_at_call 97; refine HC.mono ?_; rintro ex w2 ⟨rfl, hw2⟩; obtain rfl := hw2.symm))
  go_ret
  exact ⟨rfl, rfl⟩
set_option maxRecDepth 100000 in
set_option maxHeartbeats 4000000 in
theorem tsend_yes0 {w : World} {B tb : Nat} {u : Tv} {s : Tt} (h : TO w B tb u s) (hf : s.ls.length < 40) (hm : makeF s.a = 0) (hF : V.Forms w) (hC : Cnts w) : Calls Tryz.prog 74 #[.pointer (some ⟨tb, 0, none⟩), .int .i64 0] w fun ex w' => ex = .returned .nilIface ∧ TTurn w w' B tb u { s with a := makeS s.a, ls := s.ls ++ [(1, makeB s.a)] } := by
  have HONE := tone_0 tb w
  have HC := Lk.count_calls h.l
  have HO := tother 0 w.drew rfl
  have HM := Ez.make_calls (h.below ((Below.refl _ w).drew)).a (Ez.keepOK_all h.ia) (hF.below ((Below.refl _ w).drew)) (hC.below ((Below.refl _ w).drew))
  have HK : Hid (∀ w2, Ez.TurnP 0 (fun i => w.cell? ⟨tb, i, none⟩) w.drew w2 B tb u.la u.ca (makeS s.a) → ∃ u2, TO w2 B tb u2 { s with a := makeS s.a } ∧ (Calls Tryz.prog 98 #[.pointer (some ⟨tb, 502, none⟩), .int .i64 1, .string (makeB s.a)] w2 fun ex w' => ex = .returned .nilIface ∧ TTurn w w' B tb u { s with a := makeS s.a, ls := s.ls ++ [(1, makeB s.a)] })) := by
    show ∀ w2, _ → _
    intro w2 ht
    obtain ⟨u2, o2, f2, k2⟩ := TTurn.drew (TTurn.a (h.below ((Below.refl _ w).drew)) ht)
    refine ⟨u2, o2, ?_⟩
    have e1 : Lk.sendF s.ls 1 (makeB s.a) = 0 := by
      unfold Lk.sendF
      rw [if_pos (show Lk.endB 1 = true from rfl), if_neg (by have := make_size hm; omega)]
    have hs := Lk.send_calls o2.l 1 (makeB s.a) (by have := make_size hm; omega)
    refine hs.mono fun ex w' ⟨a, b⟩ => ⟨?_, ?_⟩
    · rw [a, e1, errV_0]
    · rw [Lk.sendS_yes e1] at b
      exact TTurn.trans o2 f2 k2 (TTurn.l o2 b)
  have hf' : ¬ (40 : Int) ≤ (s.ls.length : Int) := by omega
  clear h hf hm hF hC
  generalize s.ls.length = m at HC hf'
  generalize ({ s with a := makeS s.a, ls := s.ls ++ [(1, makeB s.a)] } : Tt) = s2 at HK ⊢
  generalize makeB s.a = bs at HM HK
  go_enter Tryz.func74, Tryz.ntmps74
  go_wp2_with (first | (go_at_call 95; refine HONE.mono ?_; rintro ex w1 ⟨rfl, hw1⟩; obtain rfl := hw1.symm) | (go_at_call 97; refine HC.mono ?_; rintro ex w2 ⟨rfl, hw2⟩; obtain rfl := hw2.symm))
  go_region_with (first | (go_at_call 99; refine (tother 0 _ rfl).mono ?_; rintro ex w2 ⟨rfl, hw2⟩; obtain rfl := hw2.symm) | (go_at_call 100; refine HM.mono ?_; rintro ex w3 ⟨rfl, ht3⟩; obtain ⟨u3, ho3, HS3⟩ := HK.out w3 ht3) | (go_at_call 98; refine HS3.mono ?_; rintro ex w4 ⟨rfl, ht4⟩))
  all_goals (try go_wp2_with fail)
  all_goals go_ret
  all_goals exact ⟨rfl, ht4⟩
set_option maxRecDepth 100000 in
set_option maxHeartbeats 4000000 in
theorem tsend_full1 {w : World} {B tb : Nat} {u : Tv} {s : Tt} (h : TO w B tb u s) (hf : 40 ≤ s.ls.length) : Calls Tryz.prog 74 #[.pointer (some ⟨tb, 0, none⟩), .int .i64 1] w fun ex w' => ex = .returned (.iface 133 (.int .i64 4)) ∧ w' = w := by
  have HONE := tone_1 tb w
  have HC := Lk.count_calls h.l
  have hf' : (40 : Int) ≤ (s.ls.length : Int) := by omega
  clear h hf
  generalize s.ls.length = m at HC hf'
  go_enter Tryz.func74, Tryz.ntmps74
  go_wp2_with (first | (go_at_call 95; refine HONE.mono ?_; rintro ex w1 ⟨rfl, hw1⟩; obtain rfl := hw1.symm) | (go_at_call 97; refine HC.mono ?_; rintro ex w2 ⟨rfl, hw2⟩; obtain rfl := hw2.symm))
  go_ret
  exact ⟨rfl, rfl⟩
set_option maxRecDepth 100000 in
set_option maxHeartbeats 4000000 in
theorem tsend_yes1 {w : World} {B tb : Nat} {u : Tv} {s : Tt} (h : TO w B tb u s) (hf : s.ls.length < 40) (hm : makeF s.b = 0) (hF : V.Forms w) (hC : Cnts w) : Calls Tryz.prog 74 #[.pointer (some ⟨tb, 0, none⟩), .int .i64 1] w fun ex w' => ex = .returned .nilIface ∧ TTurn w w' B tb u { s with b := makeS s.b, ls := s.ls ++ [(0, makeB s.b)] } := by
  have HONE := tone_1 tb w
  have HC := Lk.count_calls h.l
  have HO := tother 1 w.drew rfl
  have HM := Ez.make_calls (h.below ((Below.refl _ w).drew)).b (Ez.keepOK_all h.ib) (hF.below ((Below.refl _ w).drew)) (hC.below ((Below.refl _ w).drew))
  have HK : Hid (∀ w2, Ez.TurnP 251 (fun i => w.cell? ⟨tb, i, none⟩) w.drew w2 B tb u.lb u.cb (makeS s.b) → ∃ u2, TO w2 B tb u2 { s with b := makeS s.b } ∧ (Calls Tryz.prog 98 #[.pointer (some ⟨tb, 502, none⟩), .int .i64 0, .string (makeB s.b)] w2 fun ex w' => ex = .returned .nilIface ∧ TTurn w w' B tb u { s with b := makeS s.b, ls := s.ls ++ [(0, makeB s.b)] })) := by
    show ∀ w2, _ → _
    intro w2 ht
    obtain ⟨u2, o2, f2, k2⟩ := TTurn.drew (TTurn.b (h.below ((Below.refl _ w).drew)) ht)
    refine ⟨u2, o2, ?_⟩
    have e1 : Lk.sendF s.ls 0 (makeB s.b) = 0 := by
      unfold Lk.sendF
      rw [if_pos (show Lk.endB 0 = true from rfl), if_neg (by have := make_size hm; omega)]
    have hs := Lk.send_calls o2.l 0 (makeB s.b) (by have := make_size hm; omega)
    refine hs.mono fun ex w' ⟨a, b⟩ => ⟨?_, ?_⟩
    · rw [a, e1, errV_0]
    · rw [Lk.sendS_yes e1] at b
      exact TTurn.trans o2 f2 k2 (TTurn.l o2 b)
  have hf' : ¬ (40 : Int) ≤ (s.ls.length : Int) := by omega
  clear h hf hm hF hC
  generalize s.ls.length = m at HC hf'
  generalize ({ s with b := makeS s.b, ls := s.ls ++ [(0, makeB s.b)] } : Tt) = s2 at HK ⊢
  generalize makeB s.b = bs at HM HK
  go_enter Tryz.func74, Tryz.ntmps74
  go_wp2_with (first | (go_at_call 95; refine HONE.mono ?_; rintro ex w1 ⟨rfl, hw1⟩; obtain rfl := hw1.symm) | (go_at_call 97; refine HC.mono ?_; rintro ex w2 ⟨rfl, hw2⟩; obtain rfl := hw2.symm))
  go_region_with (first | (go_at_call 99; refine (tother 1 _ rfl).mono ?_; rintro ex w2 ⟨rfl, hw2⟩; obtain rfl := hw2.symm) | (go_at_call 100; refine HM.mono ?_; rintro ex w3 ⟨rfl, ht3⟩; obtain ⟨u3, ho3, HS3⟩ := HK.out w3 ht3) | (go_at_call 98; refine HS3.mono ?_; rintro ex w4 ⟨rfl, ht4⟩))
  all_goals (try go_wp2_with fail)
  all_goals go_ret
  all_goals exact ⟨rfl, ht4⟩
theorem tsend_calls {w : World} {B tb : Nat} {u : Tv} {s : Tt} (h : TO w B tb u s) (who : Int) (hm : Lk.endB who = true → makeF (s.who who) = 0) (hF : V.Forms w) (hC : Cnts w) : Calls Tryz.prog 74 #[.pointer (some ⟨tb, 0, none⟩), .int .i64 who] w fun ex w' => ex = .returned (errV (tSendF s who)) ∧ TTurn w w' B tb u (tSendS s who) := by
  cases hw : Lk.endB who with
  | false =>
    have e1 : tSendF s who = 1 := by unfold tSendF; rw [hw, if_neg (by decide)]
    have e2 : tSendS s who = s := by unfold tSendS; rw [e1, if_neg (by decide)]
    rw [e1, e2, errV_f (by decide)]
    exact (tsend_no tb who w hw).mono fun ex w' ⟨a, b⟩ => ⟨a, by rw [b]; exact TTurn.same h⟩
  | true =>
    have hm := hm hw
    by_cases hf : 40 ≤ s.ls.length
    · have e1 : tSendF s who = 4 := by unfold tSendF; rw [hw, if_pos rfl, if_pos hf]
      have e2 : tSendS s who = s := by unfold tSendS; rw [e1, if_neg (by decide)]
      rw [e1, e2, errV_f (by decide)]
      rcases end_cases hw with rfl | rfl
      · exact (tsend_full0 h hf).mono fun ex w' ⟨a, b⟩ => ⟨a, by rw [b]; exact TTurn.same h⟩
      · exact (tsend_full1 h hf).mono fun ex w' ⟨a, b⟩ => ⟨a, by rw [b]; exact TTurn.same h⟩
    · have e1 : tSendF s who = 0 := by unfold tSendF; rw [hw, if_pos rfl, if_neg hf]
      have e2 : tSendS s who = { s.set who (makeS (s.who who)) with ls := s.ls ++ [(1 - who, makeB (s.who who))] } := by unfold tSendS; rw [e1, if_pos rfl]
      rw [e1, e2, errV_0]
      rcases end_cases hw with rfl | rfl
      · exact tsend_yes0 h (by omega) hm hF hC
      · exact tsend_yes1 h (by omega) hm hF hC
set_option maxRecDepth 100000 in
set_option maxHeartbeats 4000000 in
theorem tcome_no {w : World} {B tb : Nat} {u : Tv} {s : Tt} (h : TO w B tb u s) (i : Int) (hi : Lk.onB s.ls i = false) : Calls Tryz.prog 75 #[.pointer (some ⟨tb, 0, none⟩), .int .i64 i] w fun ex w' => ex = .returned (.iface 133 (.int .i64 1)) ∧ w' = w := by
  have HG := Lk.give_no h.l i hi
  clear h hi
  go_enter Tryz.func75, Tryz.ntmps75
  go_wp2_with (go_at_call 101; refine HG.mono ?_; rintro ex w2 ⟨rfl, hw2⟩; obtain rfl := hw2.symm)
  go_ret
  exact ⟨rfl, rfl⟩
set_option maxRecDepth 100000 in
set_option maxHeartbeats 4000000 in
theorem tcome_0 {w0 w : World} {tb : Nat} {u : Tv} {s : Tt} (h : TO w w0.heap.size tb u s) (hV : V.Forms w0 ∧ Cnts w0) (hb : Below w0.heap.size w0 w) (p : Nat) (hp : p < s.ls.length) (bs : ByteArray) (ha : Lk.at' s.ls p = (0, bs)) : Calls Tryz.prog 75 #[.pointer (some ⟨tb, 0, none⟩), .int .i64 (p : Int)] w fun ex w' => ex = .returned (errV (takeP s.a bs).1) ∧ TTurn w w' w0.heap.size tb u { s with a := (takeP s.a bs).2, ls := Lk.cut1 s.ls p } := by
  have hz := (h.il.ok _ (Lk.at_mem hp)).2
  rw [ha] at hz
  have HG := Lk.give_yes h.l p hp (p : Int) rfl
  rw [ha] at HG
  have HK : Hid (∀ w2, Lk.Turn (fun i => w.cell? ⟨tb, i, none⟩) w w2 212 502 w0.heap.size tb u.v (Lk.cut1 s.ls p) → Calls Tryz.prog 102 #[.pointer (some ⟨tb, 0, none⟩), .string bs] w2 fun ex w' => ex = .returned (errV (takeP s.a bs).1) ∧ TTurn w w' w0.heap.size tb u { s with a := (takeP s.a bs).2, ls := Lk.cut1 s.ls p }) := by
    show ∀ w2, _ → _
    intro w2 ht
    obtain ⟨u2, o2, f2, k2⟩ := TTurn.l h ht
    have hB2 : Below w0.heap.size w0 w2 := hb.trans (f2.below (fun k hk => (h.own_lt hk).1) hb.size)
    exact (Ez.etake_calls o2.a bs (by simp only at hz; omega) (hV.1.below hB2) (hV.2.below hB2) (fun n fs h3 => rdP_ack h3)).mono fun ex w' ⟨a, b⟩ => ⟨a, TTurn.trans o2 f2 k2 (TTurn.a o2 b)⟩
  clear h hp ha hz hV hb
  generalize errV (takeP s.a bs).1 = er at HK ⊢
  generalize ({ s with a := (takeP s.a bs).2, ls := Lk.cut1 s.ls p } : Tt) = s2 at HK ⊢
  go_enter Tryz.func75, Tryz.ntmps75
  go_wp2_with (first | (go_at_call 101; refine HG.mono ?_; rintro ex w2 ⟨rfl, ht2⟩; have HT2 := HK.out w2 ht2) | (go_at_call 102; refine HT2.mono ?_; rintro ex w3 ⟨rfl, ht3⟩))
  go_ret
  exact ⟨rfl, ht3⟩
set_option maxRecDepth 100000 in
set_option maxHeartbeats 4000000 in
theorem tcome_1 {w0 w : World} {tb : Nat} {u : Tv} {s : Tt} (h : TO w w0.heap.size tb u s) (hV : V.Forms w0 ∧ Cnts w0) (hb : Below w0.heap.size w0 w) (p : Nat) (hp : p < s.ls.length) (bs : ByteArray) (ha : Lk.at' s.ls p = (1, bs)) : Calls Tryz.prog 75 #[.pointer (some ⟨tb, 0, none⟩), .int .i64 (p : Int)] w fun ex w' => ex = .returned (errV (takeP s.b bs).1) ∧ TTurn w w' w0.heap.size tb u { s with b := (takeP s.b bs).2, ls := Lk.cut1 s.ls p } := by
  have hz := (h.il.ok _ (Lk.at_mem hp)).2
  rw [ha] at hz
  have HG := Lk.give_yes h.l p hp (p : Int) rfl
  rw [ha] at HG
  have HK : Hid (∀ w2, Lk.Turn (fun i => w.cell? ⟨tb, i, none⟩) w w2 212 502 w0.heap.size tb u.v (Lk.cut1 s.ls p) → Calls Tryz.prog 102 #[.pointer (some ⟨tb, 251, none⟩), .string bs] w2 fun ex w' => ex = .returned (errV (takeP s.b bs).1) ∧ TTurn w w' w0.heap.size tb u { s with b := (takeP s.b bs).2, ls := Lk.cut1 s.ls p }) := by
    show ∀ w2, _ → _
    intro w2 ht
    obtain ⟨u2, o2, f2, k2⟩ := TTurn.l h ht
    have hB2 : Below w0.heap.size w0 w2 := hb.trans (f2.below (fun k hk => (h.own_lt hk).1) hb.size)
    exact (Ez.etake_calls o2.b bs (by simp only at hz; omega) (hV.1.below hB2) (hV.2.below hB2) (fun n fs h3 => rdP_ack h3)).mono fun ex w' ⟨a, b⟩ => ⟨a, TTurn.trans o2 f2 k2 (TTurn.b o2 b)⟩
  clear h hp ha hz hV hb
  generalize errV (takeP s.b bs).1 = er at HK ⊢
  generalize ({ s with b := (takeP s.b bs).2, ls := Lk.cut1 s.ls p } : Tt) = s2 at HK ⊢
  go_enter Tryz.func75, Tryz.ntmps75
  go_wp2_with (first | (go_at_call 101; refine HG.mono ?_; rintro ex w2 ⟨rfl, ht2⟩; have HT2 := HK.out w2 ht2) | (go_at_call 102; refine HT2.mono ?_; rintro ex w3 ⟨rfl, ht3⟩))
  go_ret
  exact ⟨rfl, ht3⟩
theorem tcome_calls {w0 w : World} {tb : Nat} {u : Tv} {s : Tt} (h : TO w w0.heap.size tb u s) (hV : V.Forms w0 ∧ Cnts w0) (hb : Below w0.heap.size w0 w) (i : Int) : Calls Tryz.prog 75 #[.pointer (some ⟨tb, 0, none⟩), .int .i64 i] w fun ex w' => ex = .returned (errV (tComeF s i)) ∧ TTurn w w' w0.heap.size tb u (tComeS s i) := by
  cases hi : Lk.onB s.ls i with
  | false =>
    unfold tComeF tComeS
    rw [hi, if_neg (by decide), if_neg (by decide), errV_f (by decide)]
    exact (tcome_no h i hi).mono fun ex w' ⟨a, b⟩ => ⟨a, by rw [b]; exact TTurn.same h⟩
  | true =>
    obtain ⟨p, rfl, hp⟩ := Lk.onB_yes hi
    unfold tComeF tComeS
    rw [hi, if_pos rfl, if_pos rfl, Int.toNat_natCast]
    have hok := (h.il.ok _ (Lk.at_mem hp)).1
    have ha : Lk.at' s.ls p = ((Lk.at' s.ls p).1, (Lk.at' s.ls p).2) := rfl
    rcases end_cases hok with e | e
    · rw [e] at ha ⊢
      exact tcome_0 h hV hb p hp _ ha
    · rw [e] at ha ⊢
      exact tcome_1 h hV hb p hp _ ha
end Go.Proofs.YtdokgalidhmbbaaGreatDoor
