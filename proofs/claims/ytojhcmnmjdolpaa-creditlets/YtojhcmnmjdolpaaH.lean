/- The walk of the law CreditLets. -/
import Derived.Test.YtojhcmnmjdolpaaC
import Derived.Test.YtojhcmnmjdolpaaP
import Derived.Deep.CutBlock
namespace Go.Proofs.Ytojhcmnmjdolpaa
open Go.RowKit Go.Lib Go.Sort
set_option linter.unusedVariables false
set_option linter.unusedSimpArgs false

theorem lit_take {w wr : World} {sb : Nat} (h : One w wr sb (newS 10)) : Calls Try.prog 5 #[.pointer (some ⟨sb, 0, none⟩), .int .i64 10] wr fun e w' => e = .returned .nilIface ∧ One w w' sb (⟨10, 10, 10, 0⟩ : St) := by
  have := take_one h 10
  rw [show takeS (newS 10) 10 = (⟨10, 10, 10, 0⟩ : St) from rfl, show takeF (newS 10) 10 = 0 from rfl, errV_0] at this
  exact this
theorem lit_read {w wr : World} {sb : Nat} (h : One w wr sb (⟨10, 10, 10, 0⟩ : St)) : Calls Try.prog 6 #[.pointer (some ⟨sb, 0, none⟩), .int .i64 6] wr fun e w' => e = .returned (.tuple #[.int .i64 16, .nilIface]) ∧ One w w' sb (⟨10, 16, 10, 6⟩ : St) := by
  have := read_one h 6
  rw [show getS (⟨10, 10, 10, 0⟩ : St) 6 = (⟨10, 16, 10, 6⟩ : St) from rfl, show getN (⟨10, 10, 10, 0⟩ : St) 6 = 16 from rfl, show getF (⟨10, 10, 10, 0⟩ : St) 6 = 0 from rfl, errV_0] at this
  exact this
theorem lit_left {w wr : World} {sb : Nat} (h : One w wr sb (⟨10, 16, 10, 6⟩ : St)) : Calls Try.prog 7 #[.pointer (some ⟨sb, 0, none⟩)] wr fun e w' => e = .returned (.int .i64 4) ∧ One w w' sb (⟨10, 16, 10, 6⟩ : St) := left_one h
/-- A place is refused, if it is below 0, or beyond the limit; else the limit and what was read stay. -/
theorem take_how {n lim came read : Int} (h : Inv ⟨n, lim, came, read⟩) (z : Int) :
    (z < 0 ∧ ∃ f, f ≠ 0 ∧ takeF ⟨n, lim, came, read⟩ z = f ∧ takeS ⟨n, lim, came, read⟩ z = ⟨n, lim, came, read⟩) ∨
    (0 ≤ z ∧ lim < z ∧ ∃ f, f ≠ 0 ∧ takeF ⟨n, lim, came, read⟩ z = f ∧ takeS ⟨n, lim, came, read⟩ z = ⟨n, lim, came, read⟩) ∨
    (0 ≤ z ∧ z ≤ lim ∧ takeF ⟨n, lim, came, read⟩ z = 0 ∧ ∃ c', takeS ⟨n, lim, came, read⟩ z = ⟨n, lim, c', read⟩) := by
  have l2 := h.l2
  simp only at l2
  rcases takeF_cases ⟨n, lim, came, read⟩ z with ⟨e, hb⟩ | ⟨e, hb, h2⟩ | ⟨e, hb, h2⟩
  · have hb : ¬ (0 ≤ z ∧ z ≤ 1073741823) := of_decide_eq_false hb
    by_cases h0 : z < 0
    · exact .inl ⟨h0, 1, by decide, e, takeS_no (by rw [e]; decide)⟩
    · exact .inr (.inl ⟨by omega, by omega, 1, by decide, e, takeS_no (by rw [e]; decide)⟩)
  · have hb : 0 ≤ z ∧ z ≤ 1073741823 := of_decide_eq_true hb
    exact .inr (.inl ⟨hb.1, h2, 8, by decide, e, takeS_no (by rw [e]; decide)⟩)
  · have hb : 0 ≤ z ∧ z ≤ 1073741823 := of_decide_eq_true hb
    exact .inr (.inr ⟨hb.1, h2, e, _, takeS_yes e⟩)
/-- What is read is refused, and nothing changes; or the limit is told, and is no less. -/
theorem read_how {n lim came read : Int} (h : Inv ⟨n, lim, came, read⟩) (z : Int) :
    (∃ f, f ≠ 0 ∧ getF ⟨n, lim, came, read⟩ z = f ∧ getN ⟨n, lim, came, read⟩ z = 0 ∧ getS ⟨n, lim, came, read⟩ z = ⟨n, lim, came, read⟩) ∨
    (∃ l, getF ⟨n, lim, came, read⟩ z = 0 ∧ getN ⟨n, lim, came, read⟩ z = l ∧ lim ≤ l ∧ getS ⟨n, lim, came, read⟩ z = ⟨n, l, came, read + z⟩) := by
  by_cases e : getF ⟨n, lim, came, read⟩ z = 0
  · refine .inr ⟨_, e, getN_yes e, ?_, getS_yes e⟩
    rcases getF_cases ⟨n, lim, came, read⟩ z with ⟨e', _⟩ | ⟨e', _⟩ | ⟨e', _⟩ | ⟨_, h0, _⟩
    · rw [e] at e'; cases e'
    · rw [e] at e'; cases e'
    · rw [e] at e'; cases e'
    · exact moreL_le h h0
  · exact .inl ⟨_, e, rfl, getN_no e, getS_no e⟩
theorem two_of {zs : List Int} (h : zs.length = 2) : ∃ a b, zs = [a, b] := by
  match zs, h with
  | [a, b], _ => exact ⟨a, b, rfl⟩

set_option maxRecDepth 100000 in
set_option maxHeartbeats 8000000 in
theorem lets_lo (n : Int) (v : Value) (w : World) (c : n < 1) (hb : winB n = false) : Calls Try.prog 3 #[.int .i64 n, v] w fun e w' => e = .returned (.bool true) ∧ Below w.heap.size w w' := by
  go_enter Try.func3, Try.ntmps3
  go_wp2_with fail
  refine (new_one (Below.refl w.heap.size w) (n := 10) rfl).mono ?_
  rintro e w1 ⟨sb1, rfl, h1⟩
  go_wp2_with fail
  refine (lit_take h1).mono ?_
  rintro e w2 ⟨rfl, h2⟩
  clear h1
  go_wp2_with fail
  refine (lit_read h2).mono ?_
  rintro e w3 ⟨rfl, h3⟩
  clear h2
  go_wp2_with fail
  refine (lit_left h3).mono ?_
  rintro e w4 ⟨rfl, h4⟩
  have hb4 := h4.bel
  clear h3 h4
  go_wp2_with fail
  refine (new_no n _ hb).mono ?_
  rintro e w5 ⟨rfl, rfl⟩
  go_wp2_with fail
  go_ret
  exact ⟨by simp, hb4⟩

set_option maxRecDepth 100000 in
set_option maxHeartbeats 8000000 in
theorem lets_hi (n : Int) (v : Value) (w : World) (c : 1000 < n) (hb : winB n = false) : Calls Try.prog 3 #[.int .i64 n, v] w fun e w' => e = .returned (.bool true) ∧ Below w.heap.size w w' := by
  go_enter Try.func3, Try.ntmps3
  go_wp2_with fail
  refine (new_one (Below.refl w.heap.size w) (n := 10) rfl).mono ?_
  rintro e w1 ⟨sb1, rfl, h1⟩
  go_wp2_with fail
  refine (lit_take h1).mono ?_
  rintro e w2 ⟨rfl, h2⟩
  clear h1
  go_wp2_with fail
  refine (lit_read h2).mono ?_
  rintro e w3 ⟨rfl, h3⟩
  clear h2
  go_wp2_with fail
  refine (lit_left h3).mono ?_
  rintro e w4 ⟨rfl, h4⟩
  have hb4 := h4.bel
  clear h3 h4
  go_wp2_with fail
  refine (new_no n _ hb).mono ?_
  rintro e w5 ⟨rfl, rfl⟩
  go_wp2_with fail
  go_ret
  exact ⟨by simp, hb4⟩

set_option maxRecDepth 100000 in
set_option maxHeartbeats 8000000 in
theorem lets_yes (n : Int) (ao : Option Addr) (len sc : Nat) (w : World) (hb : winB n = true) (hS : len = 0 ∨ ∃ b off, ao = some ⟨b, off, none⟩ ∧ Steps w b off len) : Calls Try.prog 3 #[.int .i64 n, .slice ao len sc] w fun e w' => e = .returned (.bool true) ∧ Below w.heap.size w w' := by
  have HS : Hid (len = 0 ∨ ∃ b off, ao = some ⟨b, off, none⟩ ∧ Steps w b off len) := hS
  clear hS
  go_enter Try.func3, Try.ntmps3
  go_wp2_with fail
  refine (new_one (Below.refl w.heap.size w) (n := 10) rfl).mono ?_
  rintro e w1 ⟨sb1, rfl, h1⟩
  go_wp2_with fail
  refine (lit_take h1).mono ?_
  rintro e w2 ⟨rfl, h2⟩
  clear h1
  go_wp2_with fail
  refine (lit_read h2).mono ?_
  rintro e w3 ⟨rfl, h3⟩
  clear h2
  go_wp2_with fail
  refine (lit_left h3).mono ?_
  rintro e w4 ⟨rfl, h4⟩
  have hb4 := h4.bel
  clear h3 h4
  go_wp2_with fail
  refine (new_one hb4 hb).mono ?_
  rintro e w5 ⟨sb, rfl, h5⟩
  clear hb4
  go_wp2_with fail
  go_loopg [12, 13] 80 (fun gk s12 s13 wr => ∃ (k : Nat) (lim came read : Int), gk + k = 80 ∧ s12 = .int .i64 read ∧ s13 = .int .i64 k ∧ One w wr sb ⟨n, lim, came, read⟩)
  case atStart => exact ⟨0, n, 0, 0, rfl, rfl, rfl, h5⟩
  case round =>
    clear h5
    obtain ⟨k, lim, came, read, hk, rfl, rfl, hO⟩ := hrel
    have HK : Hid (gk + k = 80) := hk
    clear hk
    by_cases g1 : (k : Int) < (len : Int)
    · by_cases g2 : (k : Int) < 80
      · obtain ⟨b, off, rfl, hSt⟩ : ∃ b off, ao = some ⟨b, off, none⟩ ∧ Steps w b off len := by
          rcases HS.out with e | e
          · omega
          · exact e
        have hlen : len ≤ 9223372036854775807 := hSt.2.1
        obtain ⟨ar, cr, zs, hcell, hI⟩ := row_at' hSt (Below.refl _ _) (k := k) (by omega)
        have hzl : zs.length ≤ 9223372036854775807 := hI.1
        have HC : Hid (w.cell? ⟨b, off + k, none⟩ = some (.slice ar zs.length cr)) := hcell
        have hbw : b < w.heap.size := hSt.1
        have HI : Hid (Ints w ar zs) := hI
        clear hSt hcell hI
        have rc := (hO.bel.cell (p := ⟨b, off + k, none⟩) hbw).trans HC.out
        by_cases q : zs.length = 2
        · obtain ⟨z0, z1, rfl⟩ := two_of q
          clear q
          obtain ⟨rb, ro, rfl, hrb, hcj⟩ : ∃ rb ro, ar = some ⟨rb, ro, none⟩ ∧ rb < w.heap.size ∧ ∀ j, j < 2 → w.cell? ⟨rb, ro + j, none⟩ = some (.int .i64 (iat [z0, z1] j)) := by
            rcases HI.out.2.2 with e | e
            · cases e
            · exact e
          have HC : Hid (w.cell? ⟨b, off + k, none⟩ = some (.slice (some ⟨rb, ro, none⟩) 2 cr)) := HC.out
          have X0 : Hid (w.cell? ⟨rb, ro, none⟩ = some (.int .i64 z0)) := hcj 0 (by decide)
          have X1 : Hid (w.cell? ⟨rb, ro + 1, none⟩ = some (.int .i64 z1)) := hcj 1 (by decide)
          clear hcj HI
          simp only [List.length_cons, List.length_nil, Nat.zero_add, Nat.reduceAdd] at rc hzl
          have hlim := limit_one hO
          simp only at hlim
          go_wp2_with fail
          refine hlim.mono ?_
          rintro e w10 ⟨rfl, hL⟩
          clear hlim hO rc
          have rc := (hL.bel.cell (p := ⟨b, off + k, none⟩) hbw).trans HC.out
          have x0 := (hL.bel.cell (p := ⟨rb, ro, none⟩) hrb).trans X0.out
          have x1 := (hL.bel.cell (p := ⟨rb, ro + 1, none⟩) hrb).trans X1.out
          go_upto_if 83 with fail
          go_cut [12] (fun s12 wx => ∃ lim' came' read' : Int, s12 = .int .i64 read' ∧ lim ≤ lim' ∧ One w wx sb ⟨n, lim', came', read'⟩)
          case first =>
              by_cases s0 : z0 = 0
              · subst s0
                rcases take_how hL.obj.inv z1 with ⟨q, f, hf, ef, es⟩ | ⟨q0, q, f, hf, ef, es⟩ | ⟨q0, q, ef, c', es⟩
                · have d0 : decide (0 ≤ z1) = false := decide_eq_false (by omega)
                  have hcon := take_one hL z1
                  rw [ef, es, errV_f hf] at hcon
                  clear ef es
                  clear hL
                  go_wp2_with fail
                  refine hcon.mono ?_
                  rintro e w11 ⟨rfl, hL11⟩
                  clear hcon rc x0 x1
                  have rc11 := (hL11.bel.cell (p := ⟨b, off + k, none⟩) hbw).trans HC.out
                  have x11 := (hL11.bel.cell (p := ⟨rb, ro + 1, none⟩) hrb).trans X1.out
                  go_wp2_with fail
                  go_quiet (fail)
                  go_wp2_with fail
                  go_meet
                  exact ⟨lim, came, read, rfl, Int.le_refl _, hL11.drewN _⟩
                · have d0 : decide (z1 ≤ lim) = false := decide_eq_false (by omega)
                  have hcon := take_one hL z1
                  rw [ef, es, errV_f hf] at hcon
                  clear ef es
                  clear hL
                  go_wp2_with fail
                  refine hcon.mono ?_
                  rintro e w11 ⟨rfl, hL11⟩
                  clear hcon rc x0 x1
                  have rc11 := (hL11.bel.cell (p := ⟨b, off + k, none⟩) hbw).trans HC.out
                  have x11 := (hL11.bel.cell (p := ⟨rb, ro + 1, none⟩) hrb).trans X1.out
                  go_wp2_with fail
                  go_quiet (fail)
                  go_wp2_with fail
                  go_meet
                  exact ⟨lim, came, read, rfl, Int.le_refl _, hL11.drewN _⟩
                · have hcon := take_one hL z1
                  rw [ef, es, errV_0] at hcon
                  clear ef es
                  clear hL
                  go_wp2_with fail
                  refine hcon.mono ?_
                  rintro e w11 ⟨rfl, hL11⟩
                  clear hcon rc x0 x1
                  have rc11 := (hL11.bel.cell (p := ⟨b, off + k, none⟩) hbw).trans HC.out
                  have x11 := (hL11.bel.cell (p := ⟨rb, ro + 1, none⟩) hrb).trans X1.out
                  go_wp2_with fail
                  go_quiet (fail)
                  go_wp2_with fail
                  go_meet
                  exact ⟨lim, c', read, rfl, Int.le_refl _, hL11.drewN _⟩
              · rcases read_how hL.obj.inv z1 with ⟨f, hf, ef, en, es⟩ | ⟨l, ef, en, hl, es⟩
                · have hcon := read_one hL z1
                  rw [ef, es, en, errV_f hf] at hcon
                  clear ef es en hL
                  go_wp2_with fail
                  refine hcon.mono ?_
                  rintro e w11 ⟨rfl, hL11⟩
                  clear hcon rc x0 x1
                  go_wp2_with fail
                  go_meet
                  exact ⟨lim, came, read, rfl, Int.le_refl _, hL11⟩
                · have hi := hL.obj.inv.get z1
                  rw [es] at hi
                  obtain ⟨_, _, _, i4, i5, i6, i7, _⟩ := hi
                  obtain ⟨v1, v2, v3, v4, v5, v6, v7, v8⟩ := hL.obj.inv
                  simp only at i4 i5 i6 i7 v1 v2 v3 v4 v5 v6 v7 v8
                  have hcon := read_one hL z1
                  rw [ef, es, en, errV_0] at hcon
                  clear ef es en hL
                  go_wp2_with fail
                  refine hcon.mono ?_
                  rintro e w11 ⟨rfl, hL11⟩
                  clear hcon rc x0 x1
                  have rc11 := (hL11.bel.cell (p := ⟨b, off + k, none⟩) hbw).trans HC.out
                  have x11 := (hL11.bel.cell (p := ⟨rb, ro + 1, none⟩) hrb).trans X1.out
                  have hlim := limit_one hL11
                  simp only at hlim
                  go_wp2_with (go_at_call 8; refine hlim.mono ?_; rintro e w12 ⟨rfl, hL12⟩)
                  go_meet
                  exact ⟨l, came, read + z1, rfl, hl, hL12⟩
          case rest =>
              clear hL rc x0 x1
              obtain ⟨lim2, came2, read2, rfl, hle, hE⟩ := hcut
              obtain ⟨v1, v2, v3, v4, v5, v6, v7, v8⟩ := hE.obj.inv
              simp only at v1 v2 v3 v4 v5 v6 v7 v8
              have k1 := limit_one hE
              simp only at k1
              go_wp2_with fail
              refine k1.mono ?_
              rintro e w21 ⟨rfl, h21⟩
              clear k1 hE
              have k1 := left_one h21
              simp only at k1
              go_wp2_with fail
              refine k1.mono ?_
              rintro e w22 ⟨rfl, h22⟩
              clear k1 h21
              have k1 := left_one h22
              simp only at k1
              go_wp2_with fail
              refine k1.mono ?_
              rintro e w23 ⟨rfl, h23⟩
              clear k1 h22
              have k1 := limit_one h23
              simp only at k1
              go_wp2_with fail
              refine k1.mono ?_
              rintro e w24 ⟨rfl, h24⟩
              clear k1 h23
              have k1 := limit_one h24
              simp only at k1
              go_wp2_with fail
              refine k1.mono ?_
              rintro e w25 ⟨rfl, h25⟩
              clear k1 h24
              go_wp2_with fail
              go_roundg (80 - (k + 1))
              case measure => have := HK.out; omega
              case rel => exact ⟨k + 1, lim2, came2, read2, by have := HK.out; omega, rfl, by go_num, h25⟩
        · go_wp2_with fail
          go_roundg (80 - (k + 1))
          case measure => have := HK.out; omega
          case rel => exact ⟨k + 1, lim, came, read, by have := HK.out; omega, rfl, by go_num, hO⟩
      · go_wp2_with fail
        go_ret
        exact ⟨rfl, hO.bel⟩
    · go_wp2_with fail
      go_ret
      exact ⟨rfl, hO.bel⟩
theorem lets_walk (n : Int) {v : Value} {w : World} (hv : StepsArg w v) : Calls Try.prog 3 #[.int .i64 n, v] w fun e w' => e = .returned (.bool true) ∧ Below w.heap.size w w' := by
  cases hb : winB n with
  | true =>
    obtain ⟨ao, len, c, rfl, hS⟩ := hv
    exact lets_yes n ao len c w hb hS
  | false =>
    by_cases h : n < 1
    · exact lets_lo n v w h hb
    · exact lets_hi n v w (by have := of_decide_eq_false hb; omega) hb
end Go.Proofs.Ytojhcmnmjdolpaa
