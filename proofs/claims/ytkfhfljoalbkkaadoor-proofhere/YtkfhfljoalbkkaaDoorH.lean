/- The walk of the law ProofHere. -/
import Derived.Test.YtkfhfljoalbkkaaDoorD
import Derived.Test.YtkfhfljoalbkkaaDoorK
namespace Go.Proofs.YtkfhfljoalbkkaaDoor
open Go.RowKit Go.Lib Go.Sort
set_option linter.unusedVariables false
set_option linter.unusedSimpArgs false

/-- What the law keeps: what is open, made by the call itself. -/
structure One (w wr : World) (sb bm : Nat) (ls : List T) : Prop where
  obj : Obj wr w.heap.size sb bm ls
  bel : Below w.heap.size w wr
section
variable {w wr wx : World} {sb bm : Nat} {ls : List T}
theorem One.below (h : One w wr sb bm ls) (hb : Below wr.heap.size wr wx) : One w wx sb bm ls := ⟨h.obj.below hb, h.bel.trans (hb.mono h.bel.size)⟩
theorem new_one (hb : Below w.heap.size w wr) : Calls Tryd.prog 6 #[] wr fun e w' => ∃ sb bm, e = .returned (.pointer (some ⟨sb, 0, none⟩)) ∧ One w w' sb bm [] :=
  (new_calls wr).mono fun e w' ⟨sb, bm, h1, h2, h3⟩ => ⟨sb, bm, h1, ⟨h2.inv, h2.c0, h2.map, Nat.le_trans hb.size h2.hs, Nat.le_trans hb.size h2.hm, h2.ne⟩, hb.trans (h3.mono hb.size)⟩
theorem ask_one (h : One w wr sb bm ls) (p n t : Int) : Calls Tryd.prog 7 #[.pointer (some ⟨sb, 0, none⟩), .int .i64 p, .int .i64 n, .int .i64 t] wr fun e w' => e = .returned (errV (askF ls p n t)) ∧ One w w' sb bm (askL ls p n t) :=
  (ask_calls h.obj p n t).mono fun e w' ⟨h1, h2, h3⟩ => ⟨h1, h2, h.bel.trans (h3.below (fun k hk => h.obj.ge hk) h.obj.le)⟩
theorem ans_one (h : One w wr sb bm ls) (p n t l : Int) : Calls Tryd.prog 8 #[.pointer (some ⟨sb, 0, none⟩), .int .i64 p, .int .i64 n, .int .i64 t, .int .i64 l] wr fun e w' => e = .returned (.tuple #[.bool (ansB ls p n t l), errV (ansF p n t l)]) ∧ One w w' sb bm (ansL ls p n t l) :=
  (ans_calls h.obj p n t l).mono fun e w' ⟨h1, h2, h3⟩ => ⟨h1, h2, h.bel.trans (h3.below (fun k hk => h.obj.ge hk) h.obj.le)⟩
theorem open_one (h : One w wr sb bm ls) : Calls Tryd.prog 9 #[.pointer (some ⟨sb, 0, none⟩)] wr fun e w' => e = .returned (.int .i64 (ls.length : Int)) ∧ One w w' sb bm ls :=
  (open_calls h.obj).mono fun e w' ⟨h1, h2⟩ => ⟨h1, by rw [h2]; exact h⟩
end
theorem lit_ask {w wr : World} {sb bm : Nat} (h : One w wr sb bm []) : Calls Tryd.prog 7 #[.pointer (some ⟨sb, 0, none⟩), .int .i64 1, .int .i64 77, .int .i64 10] wr fun e w' => e = .returned .nilIface ∧ One w w' sb bm [((1 : Int), (77 : Int), (10 : Int))] := by
  have := ask_one h 1 77 10
  rw [show askF [] 1 77 10 = 0 by decide, show askL [] 1 77 10 = [((1 : Int), (77 : Int), (10 : Int))] by decide, errV_0] at this
  exact this

theorem lit_a {w wr : World} {sb bm : Nat} (h : One w wr sb bm [((1 : Int), (77 : Int), (10 : Int))]) : Calls Tryd.prog 8 #[.pointer (some ⟨sb, 0, none⟩), .int .i64 2, .int .i64 77, .int .i64 11, .int .i64 5] wr fun e w' => e = .returned (.tuple #[.bool false, .nilIface]) ∧ One w w' sb bm [((1 : Int), (77 : Int), (10 : Int))] := by
  have := ans_one h 2 77 11 5
  rw [show ansB [((1 : Int), (77 : Int), (10 : Int))] 2 77 11 5 = false by decide, show ansF 2 77 11 5 = 0 by decide, show ansL [((1 : Int), (77 : Int), (10 : Int))] 2 77 11 5 = [((1 : Int), (77 : Int), (10 : Int))] by decide, errV_0] at this
  exact this

theorem lit_b {w wr : World} {sb bm : Nat} (h : One w wr sb bm [((1 : Int), (77 : Int), (10 : Int))]) : Calls Tryd.prog 8 #[.pointer (some ⟨sb, 0, none⟩), .int .i64 1, .int .i64 77, .int .i64 11, .int .i64 5] wr fun e w' => e = .returned (.tuple #[.bool true, .nilIface]) ∧ One w w' sb bm [] := by
  have := ans_one h 1 77 11 5
  rw [show ansB [((1 : Int), (77 : Int), (10 : Int))] 1 77 11 5 = true by decide, show ansF 1 77 11 5 = 0 by decide, show ansL [((1 : Int), (77 : Int), (10 : Int))] 1 77 11 5 = [] by decide, errV_0] at this
  exact this

theorem lit_c {w wr : World} {sb bm : Nat} (h : One w wr sb bm []) : Calls Tryd.prog 8 #[.pointer (some ⟨sb, 0, none⟩), .int .i64 1, .int .i64 77, .int .i64 11, .int .i64 5] wr fun e w' => e = .returned (.tuple #[.bool false, .nilIface]) ∧ One w w' sb bm [] := by
  have := ans_one h 1 77 11 5
  rw [show ansB [] 1 77 11 5 = false by decide, show ansF 1 77 11 5 = 0 by decide, show ansL [] 1 77 11 5 = [] by decide, errV_0] at this
  exact this

theorem x_ask {way mark time other : Int} (hb : rightB way mark time = true) (h : pathB other = true) : askF [(way, mark, time)] other mark time = 7 := by
  obtain ⟨_, h2, h3⟩ := right_of hb
  exact askF_clash (right_mk (of_decide_eq_true h) h2 h3) (isIn_of (x := (way, mark, time)) (by simp) rfl)
theorem x_askF {way mark time other : Int} (h : pathB other = false) : askF [(way, mark, time)] other mark time = 1 := askF_range (by simp [rightB, h])
theorem x_inv {way mark time : Int} (hb : rightB way mark time = true) : Inv [(way, mark, time)] := by
  refine ⟨by simp, by simp, fun x hx => ?_⟩
  have : x = (way, mark, time) := by simpa using hx
  subst this
  exact hb
theorem x_so {way mark time : Int} (hb : rightB way mark time = true) (p late limit : Int) : soB [(way, mark, time)] p mark late limit = decide (way = p ∧ time ≤ late ∧ late - time ≤ limit) := soB_of (x_inv hb) (x := (way, mark, time)) (by simp) p late limit
theorem x_other {way mark time other : Int} (hb : rightB way mark time = true) (h : other ≠ way) (late limit : Int) : ansB [(way, mark, time)] other mark late limit = false := by
  by_cases e : ansF other mark late limit = 0
  · rw [ansB_eq e, x_so hb]; exact decide_eq_false (fun e => h e.1.symm)
  · exact ansB_no e
theorem x_gone (way mark time : Int) : gone [(way, mark, time)] mark = [] := by simp [gone]
theorem ansF_two (p n t l : Int) : ansF p n t l = 0 ∨ ansF p n t l = 1 := by
  unfold ansF; split
  · exact .inl rfl
  · exact .inr rfl
set_option maxRecDepth 100000 in
set_option maxHeartbeats 8000000 in
theorem here_no (way mark time other late limit : Int) (w : World) (hH : Handle w) (hb : rightB way mark time = false) : Calls Tryd.prog 3 #[.int .i64 way, .int .i64 mark, .int .i64 time, .int .i64 other, .int .i64 late, .int .i64 limit] w fun e w' => e = .returned (.bool true) ∧ Below w.heap.size w w' := by
  go_enter Tryd.func3, Tryd.ntmps3
  go_wp2_with fail
  refine (new_one (Below.refl w.heap.size w)).mono ?_
  rintro e w1 ⟨sb1, bm1, rfl, h1⟩
  go_wp2_with fail
  refine (lit_ask h1).mono ?_
  rintro e w2 ⟨rfl, h2⟩
  clear h1
  go_wp2_with fail
  refine (lit_a h2).mono ?_
  rintro e w3 ⟨rfl, h3⟩
  clear h2
  go_wp2_with fail
  refine (lit_b h3).mono ?_
  rintro e w4 ⟨rfl, h4⟩
  clear h3
  go_wp2_with fail
  refine (lit_c h4).mono ?_
  rintro e w5 ⟨rfl, h5⟩
  clear h4
  go_wp2_with fail
  refine (new_one h5.bel).mono ?_
  rintro e w6 ⟨sb, bm, rfl, h6⟩
  clear h5
  go_wp2_with fail
  refine (ask_one h6 way mark time).mono ?_
  rintro e w7 ⟨rfl, h7⟩
  clear h6
  have hf := askF_range (ls := []) hb
  rw [hf, errV_f (by decide)]
  rw [askL_no (by rw [hf]; decide)] at h7
  go_wp2_with (go_at_call 9; refine (open_one h7).mono ?_; rintro e w8 ⟨rfl, h8⟩)
  go_ret
  exact ⟨by simp, h8.bel⟩
set_option maxRecDepth 100000 in
set_option maxHeartbeats 8000000 in
theorem here_yes (way mark time other late limit : Int) (w : World) (hH : Handle w) (hb : rightB way mark time = true) : Calls Tryd.prog 3 #[.int .i64 way, .int .i64 mark, .int .i64 time, .int .i64 other, .int .i64 late, .int .i64 limit] w fun e w' => e = .returned (.bool true) ∧ Below w.heap.size w w' := by
  have HB : Hid (rightB way mark time = true) := hb
  obtain ⟨⟨p0, p1⟩, ⟨n0, n1⟩, t0, t1⟩ := right_of hb
  clear hb
  go_enter Tryd.func3, Tryd.ntmps3
  go_wp2_with fail
  refine (new_one (Below.refl w.heap.size w)).mono ?_
  rintro e w1 ⟨sb1, bm1, rfl, h1⟩
  go_wp2_with fail
  refine (lit_ask h1).mono ?_
  rintro e w2 ⟨rfl, h2⟩
  clear h1
  go_wp2_with fail
  refine (lit_a h2).mono ?_
  rintro e w3 ⟨rfl, h3⟩
  clear h2
  go_wp2_with fail
  refine (lit_b h3).mono ?_
  rintro e w4 ⟨rfl, h4⟩
  clear h3
  go_wp2_with fail
  refine (lit_c h4).mono ?_
  rintro e w5 ⟨rfl, h5⟩
  clear h4
  go_wp2_with fail
  refine (new_one h5.bel).mono ?_
  rintro e w6 ⟨sb, bm, rfl, h6⟩
  clear h5
  go_wp2_with fail
  refine (ask_one h6 way mark time).mono ?_
  rintro e w7 ⟨rfl, h7⟩
  clear h6
  have hf := askF_yes (ls := []) HB.out rfl (by simp)
  rw [hf, errV_0]
  rw [askL_yes hf, List.nil_append] at h7
  clear hf
  go_upto_region 11 with fail
  go_cut [94] (fun s94 wx => s94 = .bool false ∧ One w wx sb bm [(way, mark, time)])
  case first =>
    cases hp : pathB other with
    | true =>
      have hf := x_ask HB.out hp
      have hcon := ask_one h7 other mark time
      rw [askL_no (by rw [hf]; decide), hf, errV_f (by decide)] at hcon
      clear h7 hf hp
      go_wp2_with fail
      refine hcon.mono ?_
      rintro e w8 ⟨rfl, h8⟩
      go_wp2_with fail
      refine (same_err 7 7 _ (hH.below h8.bel)).mono ?_
      rintro e w9 ⟨rfl, hb9⟩
      have h9 := h8.below hb9
      clear hb9 h8 hcon
      go_wp2_with fail
      go_meet
      exact ⟨rfl, h9⟩
    | false =>
      have hf := x_askF (way := way) (mark := mark) (time := time) hp
      have hcon := ask_one h7 other mark time
      rw [askL_no (by rw [hf]; decide), hf, errV_f (by decide)] at hcon
      have hq : other < 0 ∨ 3 < other := by have := of_decide_eq_false hp; omega
      clear h7 hf hp
      go_wp2_with fail
      refine hcon.mono ?_
      rintro e w8 ⟨rfl, h8⟩
      go_wp2_with fail
      refine (same_err 1 7 _ (hH.below h8.bel)).mono ?_
      rintro e w9 ⟨rfl, hb9⟩
      have h9 := h8.below hb9
      clear hb9 h8 hcon
      rcases hq with hq | hq
      · go_wp2_with fail
        go_meet
        exact ⟨by simp <;> omega, h9⟩
      · go_wp2_with fail
        go_meet
        exact ⟨by simp <;> omega, h9⟩
  case rest =>
  clear h7
  obtain ⟨rfl, h9⟩ := hcut
  go_upto_if 97 with fail
  go_cut [22] (fun s22 wx => One w wx sb bm [(way, mark, time)])
  case first =>
    by_cases q : other = way
    · subst q
      go_wp2_with fail
      go_meet
      exact h9
    · have hcon := ans_one h9 other mark late limit
      have hso := x_other HB.out q late limit
      rw [ansL_no hso, hso] at hcon
      clear hso h9
      rcases ansF_two other mark late limit with hf | hf
      · rw [hf, errV_0] at hcon
        clear hf
        go_wp2_with fail
        refine hcon.mono ?_
        rintro e w10 ⟨rfl, h10⟩
        clear hcon
        go_wp2_with fail
        refine (open_one h10).mono ?_
        rintro e w11 ⟨rfl, h11⟩
        clear h10
        go_wp2_with fail
        go_meet
        exact h11
      · rw [hf, errV_f (by decide)] at hcon
        clear hf
        go_wp2_with fail
        refine hcon.mono ?_
        rintro e w10 ⟨rfl, h10⟩
        clear hcon
        go_wp2_with fail
        refine (open_one h10).mono ?_
        rintro e w11 ⟨rfl, h11⟩
        clear h10
        go_wp2_with fail
        go_meet
        exact h11
  case rest =>
  clear h9
  have hcon := ans_one hcut way mark late limit
  rcases ansF_two way mark late limit with hf | hf
  · have HF : Hid (ansF way mark late limit = 0) := hf
    have hr : rightB way mark late = true ∧ timeB limit = true := by
      unfold ansF at hf
      split at hf
      · assumption
      · cases hf
    obtain ⟨_, _, l0, l1⟩ := right_of hr.1
    have hl : 0 ≤ limit ∧ limit ≤ 100000 := of_decide_eq_true hr.2
    have hso := ansB_eq (ls := [(way, mark, time)]) hf
    rw [x_so HB.out] at hso
    clear hr
    by_cases q1 : late < time
    · have e0 : ansB [(way, mark, time)] way mark late limit = false := by rw [hso]; exact decide_eq_false (fun e => by omega)
      rw [ansL_no e0, e0, hf, errV_0] at hcon
      clear hf hso hcut
      go_wp2_with fail
      refine hcon.mono ?_
      rintro e w12 ⟨rfl, h12⟩
      have hcon2 := ans_one h12 way mark late limit
      rw [ansL_no e0, e0, HF.out, errV_0] at hcon2
      clear hcon h12 e0
      go_wp2_with fail
      refine hcon2.mono ?_
      rintro e w13 ⟨rfl, h13⟩
      clear hcon2
      go_wp2_with (go_at_call 9; refine (open_one h13).mono ?_; rintro e w14 ⟨rfl, h14⟩)
      go_ret
      exact ⟨by simp, h14.bel⟩
    · by_cases q2 : late - time ≤ limit
      · have e0 : ansB [(way, mark, time)] way mark late limit = true := by rw [hso]; exact decide_eq_true ⟨rfl, by omega, q2⟩
        rw [ansL_yes e0, e0, hf, errV_0, x_gone] at hcon
        clear hf hso hcut
        go_wp2_with fail
        refine hcon.mono ?_
        rintro e w12 ⟨rfl, h12⟩
        have hcon2 := ans_one h12 way mark late limit
        have e1 : ansB [] way mark late limit = false := by simp [ansB, soB]
        rw [ansL_no e1, e1, HF.out, errV_0] at hcon2
        clear hcon h12 e0 e1
        go_wp2_with fail
        refine hcon2.mono ?_
        rintro e w13 ⟨rfl, h13⟩
        clear hcon2
        go_wp2_with (go_at_call 9; refine (open_one h13).mono ?_; rintro e w14 ⟨rfl, h14⟩)
        go_ret
        exact ⟨by simp, h14.bel⟩
      · have e0 : ansB [(way, mark, time)] way mark late limit = false := by rw [hso]; exact decide_eq_false (fun e => q2 e.2.2)
        rw [ansL_no e0, e0, hf, errV_0] at hcon
        clear hf hso hcut
        go_wp2_with fail
        refine hcon.mono ?_
        rintro e w12 ⟨rfl, h12⟩
        have hcon2 := ans_one h12 way mark late limit
        rw [ansL_no e0, e0, HF.out, errV_0] at hcon2
        clear hcon h12 e0
        go_wp2_with fail
        refine hcon2.mono ?_
        rintro e w13 ⟨rfl, h13⟩
        clear hcon2
        go_wp2_with (go_at_call 9; refine (open_one h13).mono ?_; rintro e w14 ⟨rfl, h14⟩)
        go_ret
        exact ⟨by simp, h14.bel⟩
  · have hq : late < 0 ∨ 100000 < late ∨ limit < 0 ∨ 100000 < limit := by
      by_cases e1 : 0 ≤ late ∧ late ≤ 100000
      · by_cases e2 : 0 ≤ limit ∧ limit ≤ 100000
        · have := ansF_yes (right_mk (p := way) (n := mark) (t := late) ⟨p0, p1⟩ ⟨n0, n1⟩ e1) (decide_eq_true e2)
          rw [hf] at this; cases this
        · omega
      · omega
    rw [hf, errV_f (by decide)] at hcon
    clear hf hcut
    go_wp2_with fail
    refine hcon.mono ?_
    rintro e w12 ⟨rfl, h12⟩
    have hd := h12.bel
    clear hcon h12
    by_cases r1 : late < 0
    · go_wp2_with fail
      go_ret
      exact ⟨by simp, hd⟩
    · by_cases r2 : 100000 < late
      · go_wp2_with fail
        go_ret
        exact ⟨by simp, hd⟩
      · by_cases r3 : limit < 0
        · go_wp2_with fail
          go_ret
          exact ⟨by simp, hd⟩
        · have r4 : 100000 < limit := by omega
          go_wp2_with fail
          go_ret
          exact ⟨by simp, hd⟩
theorem here_walk (way mark time other late limit : Int) (w : World) (hH : Handle w) : Calls Tryd.prog 3 #[.int .i64 way, .int .i64 mark, .int .i64 time, .int .i64 other, .int .i64 late, .int .i64 limit] w fun e w' => e = .returned (.bool true) ∧ Below w.heap.size w w' := by
  cases hb : rightB way mark time with
  | true => exact here_yes way mark time other late limit w hH hb
  | false => exact here_no way mark time other late limit w hH hb
end Go.Proofs.YtkfhfljoalbkkaaDoor
