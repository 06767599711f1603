/- Two Ends that talk, packet by packet: what was written is read, in order. No program stands here. -/
import Derived.Test.YtoabfilliiopmaaGreatDoorTB
namespace Go.Proofs.YtoabfilliiopmaaGreatDoor
open Go.RowKit Go.Lib Go.Sort
set_option linter.unusedVariables false
set_option linter.unusedSimpArgs false


open Sx (bat)
/-- x writes d, y reads: r bytes came, of these q were read. -/
structure Talk (n : Int) (d : ByteArray) (x y : En) (r q : Nat) : Prop where
  xi : EInv x
  yi : EInv y
  xd : x.d = d
  yd : y.d = nilB
  tr : x.t ≤ r
  qr : q ≤ r
  rd : r ≤ d.size
  lr : x.l ≤ y.c.lim
  yb : ∀ i, i < r → y.s.byt i = bat d i
  yc : ∀ i, y.s.cm i = decide (i < r)
  yk : y.s.tk = q
  cr : y.c.came = r
  ce : y.c.read = q
  cw : y.c.win = n
  ack : ∀ l ∈ x.ls, ∀ p : Int, (l.lo : Int) ≤ p → p ≤ l.hi → Mem y.cm p → l.b ≤ r
  top : r = 0 ∨ ∃ l ∈ x.ls, ∃ p : Int, (l.lo : Int) ≤ p ∧ p ≤ l.hi ∧ Mem y.cm p ∧ l.b = r
  lst : ∀ l, x.ls.getLast? = some l → l.hi + 1 = x.m
  lh : ∀ l ∈ x.ls, l.lo ≤ l.hi
  ym : nextN y ≤ x.m
  xm : nextN x ≤ y.m
  yn : x.k < nextN y
  xn : y.k < nextN x
  go : r = d.size ∨ (y.c.lim = q + n ∧ ((x.l = q ∧ r = q) ∨ (x.l = q + n ∧ (r = q ∨ (r : Int) = q + n))))
theorem Talk.new {n : Int} {d : ByteArray} (hn : Cx.winB n = true) (hd : d.size ≤ 60) : Talk n d (writeS (newE n) d) (newE n) 0 0 := by
  have h0 : ¬ 60 < (newE n).d.size + d.size := by
    have : (newE n).d.size = 0 := rfl
    omega
  have hw : writeS (newE n) d = { newE n with d := d } := by
    unfold writeS
    rw [if_neg h0]
    have : (newE n).d ++ d = d := nil_ba d
    rw [this]
  have hi := (EInv.new hn).write d
  rw [hw] at hi ⊢
  refine ⟨hi, EInv.new hn, rfl, rfl, Nat.le_refl _, Nat.le_refl _, Nat.zero_le _, Int.le_refl _, fun i hi => by omega, fun i => by simp [newE, Sx.newS], rfl, rfl, rfl, rfl, fun l hl => by simp [newE] at hl, .inl rfl, fun l hl => by simp [newE] at hl, fun l hl => by simp [newE] at hl, by simp [nextN, newE], by simp [nextN, newE], by simp [nextN, newE], by simp [nextN, newE], .inr ⟨by simp [newE, Cx.newS], .inr ⟨by simp [newE], .inl rfl⟩⟩⟩
/-- A packet of x that is lost. -/
theorem Talk.lose {n : Int} {d : ByteArray} {x y : En} {r q : Nat} (h : Talk n d x y r q) (hm : makeF x = 0) : Talk n d (makeS x) y r q := by
  have hi := h.xi.make
  rw [makeS_is hm] at hi ⊢
  refine ⟨hi, h.yi, h.xd, h.yd, h.tr, h.qr, h.rd, h.lr, h.yb, h.yc, h.yk, h.cr, h.ce, h.cw, fun l hl p p1 p2 hp => ?_, ?_, fun l hl => ?_, keepL_lo h.lh h.lst, by have := h.ym; simp only; omega, h.xm, h.yn, h.xn, h.go⟩
  · rcases keepL_cases hl with hl | ⟨e1, e2, e3⟩
    · exact h.ack l hl p p1 p2 hp
    · have h1 := mem_next h.yi hp
      have h2 := h.ym
      rcases e3 with e3 | ⟨l0, e4, e5, e6⟩
      · rw [e3] at p1; omega
      · have h3 := h.lst l0 e4
        have := h.ack l0 (last_mem e4) p (by rw [e5]; exact p1) (by omega) hp
        rw [e2, ← e6]
        exact this
  · rcases h.top with h0 | ⟨l, hl, p, p1, p2, hp, e⟩
    · exact .inl h0
    · obtain ⟨l', h1, h2, h3, h4⟩ := keepL_old (a := (pk x).1) (b := (pk x).2) h.lst hl
      exact .inr ⟨l', h1, p, by rw [h2]; exact p1, by omega, hp, by rw [h4]; exact e⟩
  · obtain ⟨l0, e1, e2, _⟩ := keepL_last (ls := x.ls) (m := x.m) (a := (pk x).1) (b := (pk x).2)
    simp only at hl
    rw [e1] at hl
    cases hl
    simp only
    omega
/-- What y makes changes nothing for x. -/
theorem Talk.makeY {n : Int} {d : ByteArray} {x y : En} {r q : Nat} (h : Talk n d x y r q) (hm : makeF y = 0) : Talk n d x (makeS y) r q := by
  have hi := h.yi.make
  rw [makeS_is hm] at hi ⊢
  exact ⟨h.xi, hi, h.xd, h.yd, h.tr, h.qr, h.rd, h.lr, h.yb, h.yc, h.yk, h.cr, h.ce, h.cw, h.ack, h.top, h.lst, h.lh, h.ym, by have := h.xm; simp only; omega, h.yn, h.xn, h.go⟩
theorem rdy_is {s : Sx.St} {r q : Nat} (hc : ∀ i, s.cm i = decide (i < r)) (hk : s.tk = q) (hq : q ≤ r) (hr : r ≤ 60) : Sx.rdy s = r - q := by
  unfold Sx.rdy
  rw [hk]
  by_cases h : r = 60
  · rw [Sx.run_all _ _ _ (fun i hi => by rw [hc]; exact decide_eq_true (by omega)), h]
  · exact Sx.run_stop _ _ _ _ (fun i hi => by rw [hc]; exact decide_eq_true (by omega)) (by omega) (by rw [hc]; exact decide_eq_false (by omega))
/-- y reads all that came. -/
theorem Talk.read {n : Int} {d : ByteArray} {x y : En} {r q : Nat} (h : Talk n d x y r q) : readF y 60 = 0 ∧ readB y 60 = d.extract q r ∧ Talk n d x (readS y 60) r r := by
  have h60 : d.size ≤ 60 := by have := h.xi.d60; rw [h.xd] at this; exact this
  have hr := rdy_is h.yc h.yk h.qr (Nat.le_trans h.rd h60)
  have hrd := h.rd
  have hqr := h.qr
  have ht : Sx.takeN y.s 60 = r - q := by
    unfold Sx.takeN
    rw [hr, show (60 : Int).toNat = 60 from rfl]
    omega
  have c1 := h.yi.c
  have hcr := h.cr
  have hce := h.ce
  have hcw := h.cw
  have w1 := c1.w1
  have w2 := c1.w2
  have l2 := c1.l2
  have l1 := c1.l1
  have hcast : ((r - q : Nat) : Int) = (r : Int) - (q : Int) := by omega
  have hmore : 0 ≤ Cx.moreL y.c ((r - q : Nat) : Int) ∧ Cx.moreL y.c ((r - q : Nat) : Int) ≤ 1073741823 ∧ y.c.lim ≤ Cx.moreL y.c ((r - q : Nat) : Int) := by
    unfold Cx.moreL
    split <;> omega
  have hg : Cx.getF y.c ((r - q : Nat) : Int) = 0 := Cx.getF_yes (by omega) (by rw [hcr, hce]; omega) (decide_eq_true ⟨hmore.1, hmore.2.1⟩)
  have hf : readF y 60 = 0 := by
    unfold readF
    rw [if_neg (by decide), ht]
    exact hg
  have hs : Cx.getS y.c ((r - q : Nat) : Int) = ⟨y.c.win, Cx.moreL y.c ((r - q : Nat) : Int), y.c.came, y.c.read + ((r - q : Nat) : Int)⟩ := by
    unfold Cx.getS
    rw [if_pos hg]
  have hi := h.yi.read 60
  refine ⟨hf, ?_, ?_⟩
  · unfold readB
    rw [if_pos hf, ← str_part (a := q) (b := r) (d := d) hrd]
    unfold Sx.takeL
    rw [ht, h.yk]
    congr 1
    apply List.map_congr_left
    intro i hi
    have := List.mem_range.1 hi
    exact h.yb (q + i) (by omega)
  · have hS : readS y 60 = { y with s := Sx.takeS y.s 60, c := Cx.getS y.c ((r - q : Nat) : Int) } := by
      unfold readS
      rw [if_pos hf, ht]
    rw [hS] at hi ⊢
    rw [hs] at hi ⊢
    refine ⟨h.xi, hi, h.xd, h.yd, h.tr, Nat.le_refl _, h.rd, ?_, h.yb, h.yc, ?_, hcr, ?_, hcw, h.ack, h.top, h.lst, h.lh, h.ym, h.xm, h.yn, h.xn, ?_⟩
    · have := h.lr; simp only; omega
    · show y.s.tk + Sx.takeN y.s 60 = r
      rw [ht, h.yk]; omega
    · simp only; omega
    · rcases h.go with g | ⟨g1, g2⟩
      · exact .inl g
      · right
        unfold Cx.moreL
        rcases g2 with ⟨g3, g4⟩ | ⟨g3, g4 | g4⟩
        · rw [if_neg (by omega)]
          exact ⟨by simp only; omega, .inl ⟨by omega, rfl⟩⟩
        · rw [if_neg (by omega)]
          exact ⟨by simp only; omega, .inr ⟨by omega, .inl rfl⟩⟩
        · rw [if_pos (by omega)]
          exact ⟨by simp only; omega, .inl ⟨by omega, rfl⟩⟩
theorem bat_part {d : ByteArray} {a b i : Nat} (h : i < b - a) (hb : b ≤ d.size) : bat (d.extract a b) i = bat d (a + i) := by
  rw [bat_ints, bat_ints, ints_extract, List.getElem?_take_of_lt h, List.getElem?_drop]
/-- The bytes of d up to r came. -/
structure Rcv (d : ByteArray) (s : Sx.St) (c : Cx.St) (r : Nat) : Prop where
  yb : ∀ i, i < r → s.byt i = bat d i
  yc : ∀ i, s.cm i = decide (i < r)
  cr : c.came = r
/-- The pieces from a on are taken. -/
theorem run_pcs {d : ByteArray} {b : Nat} (hb : b ≤ d.size) (h60 : d.size ≤ 60) : ∀ (k a r : Nat) (y : En), a ≤ r → (b : Int) ≤ y.c.lim → b ≤ a + 20 * k → Rcv d y.s y.c r →
    ∃ s c, runF ((pcs d b k a).map pfr) y = (0, { y with s := s, c := c }) ∧ Rcv d s c (max r b) ∧ s.tk = y.s.tk ∧ c.lim = y.c.lim ∧ c.win = y.c.win ∧ c.read = y.c.read := by
  intro k
  induction k with
  | zero =>
    intro a r y h1 h2 h3 hR
    have e : max r b = r := by omega
    rw [e]
    exact ⟨y.s, y.c, rfl, hR, rfl, rfl, rfl, rfl⟩
  | succ k ih =>
    intro a r y h1 h2 h3 hR
    simp only [pcs]
    by_cases hab : a < b
    · rw [if_pos hab, List.map_cons]
      have hsz : (d.extract a (min b (a + 20))).size = min b (a + 20) - a := by rw [ByteArray.size_extract]; omega
      have hT : Cx.takeF y.c ((a : Int) + (d.extract a (min b (a + 20))).size) = 0 := Cx.takeF_yes (decide_eq_true ⟨by omega, by omega⟩) (by omega)
      have hP : Sx.putF y.s (a : Int) (d.extract a (min b (a + 20))) = 0 := by
        refine Sx.putF_yes (decide_eq_true ⟨by omega, by omega⟩) (by omega) (Sx.clB_no fun i hi => ?_)
        unfold Sx.cl
        rw [show ((a : Int)).toNat = a from rfl, hR.yc]
        by_cases hir : a + i < r
        · rw [hR.yb _ hir, bat_part (by omega) (by omega)]
          simp
        · rw [decide_eq_false hir]
          rfl
      have hstp : stpE y (pfr (a, d.extract a (min b (a + 20)))) = (0, { y with s := Sx.upS y.s a (d.extract a (min b (a + 20))) (d.extract a (min b (a + 20))).size, c := Cx.upS y.c ((a : Int) + (d.extract a (min b (a + 20))).size) }) := by
        show stpE y (3, [(a : Int)], d.extract a (min b (a + 20))) = _
        unfold stpE
        rw [if_neg (show ¬ (3 : Int) = 2 by decide), if_neg (show ¬ (3 : Int) = 4 by decide), if_pos rfl]
        have ef : first [(a : Int)] = (a : Int) := rfl
        simp only [ef]
        rw [if_neg (by rw [hT]; decide), hP, Cx.takeS_yes hT, Sx.putS_yes hP]
        rfl
      rw [runF_one hstp]
      have hR' : Rcv d (Sx.upS y.s a (d.extract a (min b (a + 20))) (d.extract a (min b (a + 20))).size) (Cx.upS y.c ((a : Int) + (d.extract a (min b (a + 20))).size)) (max r (min b (a + 20))) := by
        rw [hsz]
        refine ⟨fun i hi => ?_, fun i => ?_, ?_⟩
        · simp only [Sx.upS]
          split
          · rename_i h4
            rw [bat_part (by omega) (by omega)]
            congr 1
            omega
          · rename_i h4
            exact hR.yb i (by omega)
        · simp only [Sx.upS]
          rw [hR.yc]
          by_cases h4 : a ≤ i ∧ i < a + (min b (a + 20) - a)
          · rw [decide_eq_true h4, Bool.true_or, decide_eq_true (show i < max r (min b (a + 20)) by omega)]
          · rw [decide_eq_false h4, Bool.false_or]
            by_cases h5 : i < r
            · rw [decide_eq_true h5, decide_eq_true (by omega)]
            · rw [decide_eq_false h5, decide_eq_false (by omega)]
        · simp only [Cx.upS]
          have := hR.cr
          split <;> omega
      obtain ⟨s, c, e1, e2, e3, e4, e5, e6⟩ := ih (min b (a + 20)) (max r (min b (a + 20))) { y with s := Sx.upS y.s a (d.extract a (min b (a + 20))) (d.extract a (min b (a + 20))).size, c := Cx.upS y.c ((a : Int) + (d.extract a (min b (a + 20))).size) } (by omega) h2 (by omega) hR'
      have e7 : max (max r (min b (a + 20))) b = max r b := by omega
      rw [e7] at e2
      exact ⟨s, c, e1, e2, e3, e4, e5, e6⟩
    · rw [if_neg hab]
      have e : max r b = r := by omega
      rw [e]
      exact ⟨y.s, y.c, rfl, hR, rfl, rfl, rfl, rfl⟩
theorem first_unr {r : R} {rs : List R} : first (unr (r :: rs)) = r.2 := rfl
/-- What an Ack and the Credit of who sends them leave. -/
theorem run_head {e y : En} (hy : nextN e ≤ y.m) : ∃ k t, runF ((if e.cm = [] then [] else [(2, unr e.cm, nilB)]) ++ [(4, [e.c.lim], nilB)]) y = (0, { y with k := k, t := t, l := max y.l e.c.lim }) ∧ ((e.cm = [] ∧ k = y.k ∧ t = y.t) ∨ (e.cm ≠ [] ∧ k = max y.k (nextN e - 1) ∧ t = tells y.ls y.t e.cm)) := by
  have h4 : ∀ z : En, stpE z (4, [e.c.lim], nilB) = (0, { z with l := max z.l e.c.lim }) := fun z => rfl
  by_cases h0 : e.cm = []
  · rw [if_pos h0, List.nil_append, runF_one (h4 y)]
    exact ⟨y.k, y.t, rfl, .inl ⟨h0, rfl, rfl⟩⟩
  · rw [if_neg h0]
    obtain ⟨r, rs, hc⟩ : ∃ r rs, e.cm = r :: rs := by
      cases hc : e.cm with
      | nil => exact absurd hc h0
      | cons r rs => exact ⟨r, rs, rfl⟩
    have hn : nextN e = r.2 + 1 := by unfold nextN; rw [hc]
    have h2 : stpE y (2, unr e.cm, nilB) = (0, { y with k := max y.k (nextN e - 1), t := tells y.ls y.t e.cm }) := by
      unfold stpE
      rw [if_pos rfl]
      have ef : first (unr e.cm) = nextN e - 1 := by rw [hc, first_unr, hn]; omega
      simp only [ef]
      rw [if_neg (by omega), rgs_unr]
    rw [List.singleton_append, runF_one h2, runF_one (h4 _)]
    exact ⟨_, _, rfl, .inr ⟨h0, rfl, rfl⟩⟩
end Go.Proofs.YtoabfilliiopmaaGreatDoor
