/- A Talk of a law's own, and what each call on it leaves; TalkSilent's walk. -/
import Derived.Test.YtdnehibcpkjafaaGreatDoorUC
import Derived.Test.YtdnehibcpkjafaaGreatDoorGX
import Derived.Deep.LoopGhost
import Derived.Deep.DeepCutAuto
namespace Go.Proofs.YtdnehibcpkjafaaGreatDoor
open Go.RowKit Go.Lib Go.Sort
set_option linter.unusedVariables false
set_option linter.unusedSimpArgs false


/-- A Talk of the law's own: all of it is newer than w0, and all that is older is as it was. -/
def Tlk (w0 wr : World) (tb : Nat) (s : Tt) : Prop := ∃ u, TO wr w0.heap.size tb u s ∧ Below w0.heap.size w0 wr
section
variable {w0 wr w' : World} {tb : Nat} {s s' : Tt}
theorem Tlk.turn {u : Tv} (h : TO wr w0.heap.size tb u s) (hB : Below w0.heap.size w0 wr) (ht : TTurn wr w' w0.heap.size tb u s') : Tlk w0 w' tb s' := by
  obtain ⟨u', h1, h2, _⟩ := ht
  exact ⟨u', h1, hB.trans (h2.below (fun k hk => (h.own_lt hk).1) hB.size)⟩
theorem Tlk.below (h : Tlk w0 wr tb s) (hb : Below wr.heap.size wr w') : Tlk w0 w' tb s := by
  obtain ⟨u, h1, h2⟩ := h
  exact ⟨u, h1.below hb, h2.trans (hb.mono h2.size)⟩
theorem Tlk.bel (h : Tlk w0 wr tb s) : Below w0.heap.size w0 wr := by
  obtain ⟨u, h1, h2⟩ := h
  exact h2
theorem Tlk.new {n : Int} (h : TO w' wr.heap.size tb nilV (newT n)) (hB : Below w0.heap.size w0 wr) (hb : Below wr.heap.size wr w') : Tlk w0 w' tb (newT n) := ⟨nilV, h.base hB.size, hB.trans (hb.mono hB.size)⟩
theorem tl_write (h : Tlk w0 wr tb s) (who : Int) (d : ByteArray) (hl : d.size ≤ 140737488351232) : Calls Tryz.prog 7 #[.pointer (some ⟨tb, 0, none⟩), .int .i64 who, .string d] wr fun e w' => e = .returned (errV (tWriteF s who d)) ∧ Tlk w0 w' tb (tWriteS s who d) := by
  obtain ⟨u, hO, hB⟩ := h
  exact (twrite_calls hO who d hl).mono fun e w' ⟨a, b⟩ => ⟨a, Tlk.turn hO hB b⟩
theorem tl_read (h : Tlk w0 wr tb s) (who n : Int) : Calls Tryz.prog 10 #[.pointer (some ⟨tb, 0, none⟩), .int .i64 who, .int .i64 n] wr fun e w' => e = .returned (.tuple #[.string (tReadB s who n), errV (tReadF s who n)]) ∧ Tlk w0 w' tb (tReadS s who n) := by
  obtain ⟨u, hO, hB⟩ := h
  exact (tread_calls hO who n).mono fun e w' ⟨a, b⟩ => ⟨a, Tlk.turn hO hB b⟩
theorem tl_send (h : Tlk w0 wr tb s) (who : Int) (hm : Lk.endB who = true → makeF (s.who who) = 0) (hV : V.Forms w0 ∧ Cnts w0) : Calls Tryz.prog 8 #[.pointer (some ⟨tb, 0, none⟩), .int .i64 who] wr fun e w' => e = .returned (errV (tSendF s who)) ∧ Tlk w0 w' tb (tSendS s who) := by
  obtain ⟨u, hO, hB⟩ := h
  exact (tsend_calls hO who hm (hV.1.below hB) (hV.2.below hB)).mono fun e w' ⟨a, b⟩ => ⟨a, Tlk.turn hO hB b⟩
theorem tl_come (h : Tlk w0 wr tb s) (i : Int) (hV : V.Forms w0 ∧ Cnts w0) : Calls Tryz.prog 9 #[.pointer (some ⟨tb, 0, none⟩), .int .i64 i] wr fun e w' => e = .returned (errV (tComeF s i)) ∧ Tlk w0 w' tb (tComeS s i) := by
  obtain ⟨u, hO, hB⟩ := h
  exact (tcome_calls hO hV hB i).mono fun e w' ⟨a, b⟩ => ⟨a, Tlk.turn hO hB b⟩
theorem tl_count (h : Tlk w0 wr tb s) : Calls Tryz.prog 13 #[.pointer (some ⟨tb, 0, none⟩)] wr fun e w' => e = .returned (.int .i64 (s.ls.length : Int)) ∧ w' = wr := by
  obtain ⟨u, hO, hB⟩ := h
  exact tcount_calls hO
end
/-- One packet goes to the other one, comes at once, and all is read: where nobody wrote. -/
theorem sil_round {n : Int} {K : Nat} {s : Tt} (hl : s.ls = []) (h : Sil n K s.a s.b) (hK : K ≤ 1000) {who : Int} (hw : Lk.endB who = true) : makeF (s.who who) = 0 ∧ ∃ s1 s2 s3, tSendF s who = 0 ∧ tSendS s who = s1 ∧ tComeF s1 0 = 0 ∧ tComeS s1 0 = s2 ∧ tReadF s2 (1 - who) 60 = 0 ∧ tReadB s2 (1 - who) 60 = nilB ∧ tReadS s2 (1 - who) 60 = s3 ∧ s3.ls = [] ∧ Sil n (K + 1) s3.a s3.b := by
  obtain ⟨a, b, ls⟩ := s
  simp only at hl h
  subst hl
  have hf : tSendF ⟨a, b, []⟩ who = 0 := by unfold tSendF; rw [if_pos hw]; rfl
  rcases end_cases hw with rfl | rfl
  · obtain ⟨hm, y1, h1, h2, h3, h4⟩ := h.half hK
    have hf0 : takeP b (makeB a) = (0, y1) := h1
    refine ⟨hm, _, _, _, hf, rfl, ?_, rfl, ?_, ?_, rfl, ?_, ?_⟩
    · show (takeP b (makeB a)).1 = 0
      rw [h1]
    · show readF (takeP b (makeB a)).2 60 = 0
      rw [h1]; exact h2
    · show readB (takeP b (makeB a)).2 60 = nilB
      rw [h1]; exact h3
    · rfl
    · show Sil n (K + 1) (makeS a) (readS (takeP b (makeB a)).2 60)
      rw [h1]; exact h4
  · obtain ⟨hm, y1, h1, h2, h3, h4⟩ := h.swap.half hK
    refine ⟨hm, _, _, _, hf, rfl, ?_, rfl, ?_, ?_, rfl, ?_, ?_⟩
    · show (takeP a (makeB b)).1 = 0
      rw [h1]
    · show readF (takeP a (makeB b)).2 60 = 0
      rw [h1]; exact h2
    · show readB (takeP a (makeB b)).2 60 = nilB
      rw [h1]; exact h3
    · rfl
    · show Sil n (K + 1) (readS (takeP a (makeB b)).2 60) (makeS b)
      rw [h1]; exact h4.swap
set_option maxRecDepth 100000 in
set_option maxHeartbeats 4000000 in
theorem tsilent_no (n m : Int) (w : World) (hn : Cx.winB n = false) : Calls Tryz.prog 4 #[.int .i64 n, .int .i64 m] w fun e w' => e = .returned (.bool true) ∧ Below w.heap.size w w' := by
  have HZ := tnew_no 0 w rfl
  have HN := fun X => tnew_no n X hn
  have hor : n < 1 ∨ 1000 < n := by
    have : ¬ (1 ≤ n ∧ n ≤ 1000) := of_decide_eq_false hn
    omega
  clear hn
  rcases hor with h1 | h1
  · go_enter Tryz.func4, Tryz.ntmps4
    go_wp2_with fail
    refine HZ.mono ?_
    rintro e w1 ⟨rfl, hb1⟩
    clear HZ
    go_wp2_with fail
    refine (HN w1).mono ?_
    rintro e w2 ⟨rfl, hb2⟩
    go_wp2_with fail
    go_ret
    exact ⟨rfl, hb1.trans (hb2.mono hb1.size)⟩
  · have h2 : ¬ n < 1 := by omega
    go_enter Tryz.func4, Tryz.ntmps4
    go_wp2_with fail
    refine HZ.mono ?_
    rintro e w1 ⟨rfl, hb1⟩
    clear HZ
    go_wp2_with fail
    refine (HN w1).mono ?_
    rintro e w2 ⟨rfl, hb2⟩
    go_wp2_with fail
    go_ret
    exact ⟨rfl, hb1.trans (hb2.mono hb1.size)⟩
set_option maxRecDepth 100000 in
set_option maxHeartbeats 4000000 in
theorem tsilent_yes (n m : Int) (w : World) (hV : V.Forms w ∧ Cnts w) (hn : Cx.winB n = true) : Calls Tryz.prog 4 #[.int .i64 n, .int .i64 m] w fun e w' => e = .returned (.bool true) ∧ Below w.heap.size w w' := by
  have HZ := tnew_no 0 w rfl
  have HN := fun X => tnew_yes n X hn
  have HV : Hid (V.Forms w ∧ Cnts w) := hV
  have HSN : Hid (Sil n 0 (newE n) (newE n)) := Sil.new hn
  clear hn hV
  go_enter Tryz.func4, Tryz.ntmps4
  go_wp2_with fail
  refine HZ.mono ?_
  rintro e w1 ⟨rfl, hb1⟩
  clear HZ
  go_wp2_with fail
  refine (HN w1).mono ?_
  rintro e w2 ⟨tb, rfl, ho2, hb2⟩
  have HT0 : Hid (Tlk w w2 tb (newT n)) := Tlk.new ho2 hb1 hb2
  clear HN ho2 hb2 hb1
  go_wp2_with fail
  go_loopg [9] 30 (fun gk s9 wr => ∃ (i : Nat) (s : Tt), gk + i = 30 ∧ s9 = .int .i64 (i : Int) ∧ Hid (Tlk w wr tb s) ∧ Hid (s.ls = []) ∧ Hid (Sil n i s.a s.b))
  case atStart => exact ⟨0, newT n, rfl, rfl, HT0, rfl, HSN⟩
  case round =>
    obtain ⟨i, s, hk, rfl, HT, HL, HS⟩ := hrel
    have HK : Hid (gk + i = 30) := hk
    have hi30 : (i : Int) ≤ 30 := by omega
    clear hk HT0 HSN
    have HC : Hid (∀ wr, Tlk w wr tb s → Calls Tryz.prog 13 #[.pointer (some ⟨tb, 0, none⟩)] wr fun e w' => e = .returned (.int .i64 0) ∧ w' = wr) := by
      show ∀ wr, _ → _
      intro wr h
      have := tl_count h
      rwa [HL.out] at this
    by_cases g1 : (i : Int) < m
    · by_cases g2 : (i : Int) < 30
      · have hw : Lk.endB ((i : Int) % 2) = true := decide_eq_true (by omega)
        obtain ⟨hm, s1, s2, s3, f1, e1, f2, e2, f3, f3b, e3, hl3, hs3⟩ := sil_round HL.out HS.out (by omega) hw
        have HS1 := tl_send HT.out ((i : Int) % 2) (fun _ => hm) HV.out
        rw [f1, e1, errV_0] at HS1
        have HS2 : ∀ X, Tlk w X tb s1 → Calls Tryz.prog 9 #[.pointer (some ⟨tb, 0, none⟩), .int .i64 0] X fun e w' => e = .returned .nilIface ∧ Tlk w w' tb s2 := fun X hX => by
          have := tl_come hX 0 HV.out
          rwa [f2, e2, errV_0] at this
        have HS3 : ∀ X, Tlk w X tb s2 → Calls Tryz.prog 10 #[.pointer (some ⟨tb, 0, none⟩), .int .i64 (1 - (i : Int) % 2), .int .i64 60] X fun e w' => e = .returned (.tuple #[.string { data := #[] }, .nilIface]) ∧ Tlk w w' tb s3 := fun X hX => by
          have := tl_read hX (1 - (i : Int) % 2) 60
          rw [f3, f3b, e3, errV_0] at this
          exact this
        have HL3 : Hid (s3.ls = []) := hl3
        have HSL3 : Hid (Sil n (i + 1) s3.a s3.b) := hs3
        clear hm f1 e1 f2 e2 f3 f3b e3 hl3 hs3 hw HC HT HL HS
        go_wp2_with fail
        refine HS1.mono ?_
        rintro e w3 ⟨rfl, h3⟩
        clear HS1
        go_wp2_with fail
        refine (HS2 _ h3).mono ?_
        rintro e w4 ⟨rfl, h4⟩
        clear HS2 h3
        go_wp2_with fail
        refine (HS3 _ h4).mono ?_
        rintro e w5 ⟨rfl, h5⟩
        clear HS3 h4
        go_wp2_with fail
        go_roundg (30 - (i + 1))
        case measure => have := HK.out; omega
        case rel => exact ⟨i + 1, s3, by have := HK.out; omega, by go_num, h5, HL3, HSL3⟩
      · have HCW := HC.out _ HT.out
        go_wp2_with (go_at_call 13; refine HCW.mono ?_; rintro e w3 ⟨rfl, hw3⟩; obtain rfl := hw3.symm)
        go_ret
        exact ⟨rfl, HT.out.bel⟩
    · have HCW := HC.out _ HT.out
      go_wp2_with (go_at_call 13; refine HCW.mono ?_; rintro e w3 ⟨rfl, hw3⟩; obtain rfl := hw3.symm)
      go_ret
      exact ⟨rfl, HT.out.bel⟩
theorem tsilent_calls (n m : Int) (w : World) (hV : V.Forms w ∧ Cnts w) : Calls Tryz.prog 4 #[.int .i64 n, .int .i64 m] w fun e w' => e = .returned (.bool true) ∧ Below w.heap.size w w' := by
  cases h : Cx.winB n with
  | true => exact tsilent_yes n m w hV h
  | false => exact tsilent_no n m w h
end Go.Proofs.YtdnehibcpkjafaaGreatDoor
