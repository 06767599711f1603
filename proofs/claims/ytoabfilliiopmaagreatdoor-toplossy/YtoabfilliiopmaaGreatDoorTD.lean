/- Two Ends that talk: what a packet that comes leaves, and one that comes back; how far they get. No program stands here. -/
import Derived.Test.YtoabfilliiopmaaGreatDoorTC
namespace Go.Proofs.YtoabfilliiopmaaGreatDoor
open Go.RowKit Go.Lib Go.Sort
set_option linter.unusedVariables false
set_option linter.unusedSimpArgs false


open Sx (bat)
theorem frs_split (e : En) : frs e = ((if e.cm = [] then [] else [(2, unr e.cm, nilB)]) ++ [(4, [e.c.lim], nilB)]) ++ (pieces e).map pfr := by
  unfold frs
  rw [List.append_assoc]
  rfl
theorem come_full {e : En} {n : Int} {fs : List F} (h0 : memB e.cm n = false) (h1 : (runF fs e).1 = 0) (h2 : 12 < (addL e.cm n).length) : come e n fs = (4, e) := by
  unfold come
  rw [if_neg (by rw [h0]; decide), if_neg (by rw [h1]; decide), if_pos h2]
theorem come_fits {e e' : En} {n : Int} {fs : List F} (h0 : memB e.cm n = false) (h1 : runF fs e = (0, e')) (h2 : (addL e.cm n).length ≤ 12) : come e n fs = (0, { e' with cm := addL e.cm n }) := by
  unfold come
  rw [if_neg (by rw [h0]; decide), h1, if_neg (show ¬ (0 : Int) ≠ 0 by decide), if_neg (by omega)]
theorem not_mem_next {e : En} {m : Nat} (h : EInv e) (hm : nextN e ≤ m) : memB e.cm m = false := (memB_no _ _).2 fun hp => by
  have := mem_next h hp
  omega
/-- A packet of x that comes. -/
theorem Talk.send {n : Int} {d : ByteArray} {x y : En} {r : Nat} (h : Talk n d x y r r) (hm : makeF x = 0) :
    (12 < (addL y.cm x.m).length → come y x.m (frs x) = (4, y)) ∧ ((addL y.cm x.m).length ≤ 12 → ∃ y', come y x.m (frs x) = (0, y') ∧ Talk n d (makeS x) y' (max r (en x)) r ∧ y'.cm = addL y.cm x.m ∧ y'.m = y.m) := by
  have h60 : d.size ≤ 60 := by have := h.xi.d60; rw [h.xd] at this; exact this
  have hmem := not_mem_next h.yi h.ym
  have hnum := makeF_m hm
  obtain ⟨k, t, e1, e2⟩ := run_head (e := x) (y := y) h.xm
  have hen : en x ≤ d.size := by have := en_le x; rw [h.xd] at this; exact this
  have hel : (en x : Int) ≤ y.c.lim := by
    have := h.lr
    have := h.xi.l0
    unfold en
    omega
  obtain ⟨s, c, f1, f2, f3, f4, f5, f6⟩ := run_pcs (d := d) (b := en x) hen h60 3 x.t r { y with k := k, t := t, l := max y.l x.c.lim } h.tr hel (by have := h.xi.en60; omega) ⟨h.yb, h.yc, h.cr⟩
  have hrun : runF (frs x) y = (0, { y with k := k, t := t, l := max y.l x.c.lim, s := s, c := c }) := by
    rw [frs_split, runF_append _ _ _ (by rw [e1]), e1]
    have : pieces x = pcs d (en x) 3 x.t := by unfold pieces; rw [h.xd]
    rw [this]
    exact f1
  refine ⟨fun hl => come_full hmem (by rw [hrun]) hl, fun hl => ?_⟩
  have hc := come_fits hmem hrun hl
  have hi := h.yi.come (n := x.m) ((isN_iff _).2 ⟨by omega, by omega⟩) (fs := frs x) (frs_good h.xi)
  rw [hc] at hi
  have hxi := h.xi.make
  have hnx := add_next h.yi h.ym
  rw [makeS_is hm] at hxi ⊢
  have hpk := pk_ok h.xi
  refine ⟨_, hc, ⟨hxi, hi, h.xd, h.yd, by have := h.tr; simp only; omega, by omega, by have := h.rd; omega, by simp only; rw [f4]; exact h.lr, f2.yb, f2.yc, f3.trans h.yk, f2.cr, f6.trans h.ce, f5.trans h.cw, fun l hl p p1 p2 hp => ?_, ?_, fun l hl => ?_, keepL_lo h.lh h.lst, ?_, h.xm, ?_, ?_, ?_⟩, rfl, rfl⟩
  · rcases keepL_cases hl with hl | ⟨g1, g2, _⟩
    · have h1 := (h.xi.ls l hl).1
      rcases ((addL_ok h.yi.cm).2 p).1 hp with hp | rfl
      · have := h.ack l hl p p1 p2 hp
        omega
      · omega
    · rw [g2]
      have := hpk.2.2
      omega
  · by_cases hg : r < en x
    · right
      obtain ⟨l0, g1, g2, g3⟩ := keepL_last (ls := x.ls) (m := x.m) (a := (pk x).1) (b := (pk x).2)
      have hpe : (pk x).2 = en x := by
        unfold pk
        rw [if_pos (by have := h.tr; omega)]
      have hlo := keepL_lo h.lh h.lst l0 (last_mem g1)
      refine ⟨l0, last_mem g1, x.m, by omega, by omega, ((addL_ok h.yi.cm).2 _).2 (.inr rfl), ?_⟩
      rw [g3, hpe]
      omega
    · have er : max r (en x) = r := by omega
      rw [er]
      rcases h.top with h0 | ⟨l, hl, p, p1, p2, hp, e⟩
      · exact .inl h0
      · obtain ⟨l', h1, h2, h3, h4⟩ := keepL_old (a := (pk x).1) (b := (pk x).2) h.lst hl
        exact .inr ⟨l', h1, p, by rw [h2]; exact p1, by omega, ((addL_ok h.yi.cm).2 _).2 (.inl hp), by rw [h4]; exact e⟩
  · obtain ⟨l0, g1, g2, _⟩ := keepL_last (ls := x.ls) (m := x.m) (a := (pk x).1) (b := (pk x).2)
    simp only at hl
    rw [g1] at hl
    cases hl
    simp only
    omega
  · have := hnx.1
    show nextN { y with cm := addL y.cm x.m } ≤ _
    rw [this]
    simp only
    omega
  · have := hnx.1
    show x.k < nextN { y with cm := addL y.cm x.m }
    rw [this]
    have := h.xi.k1
    omega
  · show k < nextN x
    have := h.xn
    rcases e2 with ⟨_, e3, _⟩ | ⟨_, e3, _⟩
    · omega
    · omega
  · show max r (en x) = d.size ∨ (c.lim = r + n ∧ ((x.l = r ∧ max r (en x) = r) ∨ (x.l = r + n ∧ (max r (en x) = r ∨ ((max r (en x) : Nat) : Int) = r + n))))
    rw [f4]
    have hrd := h.rd
    have l0 := h.xi.l0
    have w1 := h.yi.c.w1
    rw [h.cw] at w1
    have een : en x = min d.size x.l.toNat := by unfold en; rw [h.xd]
    rcases h.go with g | ⟨g1, g2⟩
    · left; omega
    · rcases g2 with ⟨g3, _⟩ | ⟨g3, _⟩
      · right
        exact ⟨g1, .inl ⟨g3, by omega⟩⟩
      · by_cases g5 : (d.size : Int) ≤ r + n
        · left; omega
        · right
          exact ⟨g1, .inr ⟨g3, .inr (by omega)⟩⟩
theorem pieces_none {e : En} (h : e.d = nilB) : pieces e = [] := by
  unfold pieces en
  rw [h]
  rfl
/-- A packet of y that comes back. -/
theorem Talk.back {n : Int} {d : ByteArray} {x y : En} {r : Nat} (h : Talk n d x y r r) (hm : makeF y = 0) :
    (12 < (addL x.cm y.m).length → come x y.m (frs y) = (4, x)) ∧ ((addL x.cm y.m).length ≤ 12 → ∃ x', come x y.m (frs y) = (0, x') ∧ Talk n d x' (makeS y) r r ∧ x'.cm = addL x.cm y.m ∧ x'.m = x.m ∧ x'.l = y.c.lim ∧ x'.t = r) := by
  have hmem := not_mem_next h.xi h.xm
  have hnum := makeF_m hm
  obtain ⟨k, t, e1, e2⟩ := run_head (e := y) (y := x) h.ym
  have hrun : runF (frs y) x = (0, { x with k := k, t := t, l := max x.l y.c.lim }) := by
    rw [frs_split, pieces_none h.yd, List.map_nil, List.append_nil]
    exact e1
  refine ⟨fun hl => come_full hmem (by rw [hrun]) hl, fun hl => ?_⟩
  have hc := come_fits hmem hrun hl
  have hi := h.xi.come (n := y.m) ((isN_iff _).2 ⟨by omega, by omega⟩) (fs := frs y) (frs_good h.yi)
  rw [hc] at hi
  have hyi := h.yi.make
  have hnx := add_next h.xi h.xm
  have hn := (chk_ok y.cm).1 h.yi.cm
  have ht : t = r := by
    rcases e2 with ⟨h0, _, e3⟩ | ⟨h0, _, e3⟩
    · have hr0 : r = 0 := by
        rcases h.top with g | ⟨l, hl, p, _, _, hp, _⟩
        · exact g
        · rw [h0] at hp
          exact absurd hp (mem_nil p)
      have := h.tr
      omega
    · have hup := (tells_up (ls := x.ls) (b := r) y.cm (fun l hl rg hrg ho => by
        have h1 := h.lh l hl
        have h2 := norm_le hn.2.2 rg hrg
        exact h.ack l hl (max (l.lo : Int) rg.1) (by omega) (by omega) ⟨rg, hrg, by omega, by omega⟩) x.t h.tr).2
      have hlo : r ≤ tells x.ls x.t y.cm := by
        rcases h.top with g | ⟨l, hl, p, p1, p2, ⟨rg, hrg, q1, q2⟩, g⟩
        · omega
        · rw [← g]
          exact tells_ge hl (fun z hz => (h.xi.ls z hz).2.2.2) y.cm rg hrg (by omega) x.t h.xi.t1
      omega
  have hml : max x.l y.c.lim = y.c.lim := by have := h.lr; omega
  rw [hml, ht] at hi hc
  rw [makeS_is hm] at hyi ⊢
  refine ⟨_, hc, ⟨hi, hyi, h.xd, h.yd, Nat.le_refl _, Nat.le_refl _, h.rd, Int.le_refl _, h.yb, h.yc, h.yk, h.cr, h.ce, h.cw, h.ack, h.top, h.lst, h.lh, h.ym, ?_, ?_, ?_, ?_⟩, rfl, rfl, rfl, rfl⟩
  · have := hnx.1
    show nextN { x with cm := addL x.cm y.m } ≤ _
    rw [this]
    simp only
    omega
  · show k < nextN y
    have := h.yn
    rcases e2 with ⟨_, e3, _⟩ | ⟨_, e3, _⟩
    · omega
    · omega
  · have := hnx.1
    show y.k < nextN { x with cm := addL x.cm y.m }
    rw [this]
    have := h.xn
    have := h.xm
    omega
  · show r = d.size ∨ (y.c.lim = r + n ∧ ((y.c.lim = r ∧ r = r) ∨ (y.c.lim = r + n ∧ (r = r ∨ (r : Int) = r + n))))
    rcases h.go with g | ⟨g1, _⟩
    · exact .inl g
    · exact .inr ⟨g1, .inr ⟨g1, .inl rfl⟩⟩
/-- How far they got: behind j rounds in which both packets came. -/
def Prog (d : ByteArray) (x : En) (r j : Nat) : Prop := r = d.size ∨ (10 * j ≤ r ∧ 10 * ((j : Int) + 1) ≤ x.l)
theorem prog_new {n : Int} {d : ByteArray} (hn : 10 ≤ n) : Prog d (writeS (newE n) d) 0 0 := by
  right
  refine ⟨Nat.le_refl _, ?_⟩
  have : (writeS (newE n) d).l = n := by unfold writeS; split <;> rfl
  rw [this]
  omega
theorem prog_send {n : Int} {d : ByteArray} {x y : En} {r q j : Nat} (h : Talk n d x y r q) (hp : Prog d x r j) : max r (en x) = d.size ∨ 10 * (j + 1) ≤ max r (en x) := by
  have hrd := h.rd
  have l0 := h.xi.l0
  have een : en x = min d.size x.l.toNat := by unfold en; rw [h.xd]
  rcases hp with g | ⟨g1, g2⟩
  · left; omega
  · by_cases g3 : max r (en x) = d.size
    · exact .inl g3
    · right; omega
theorem prog_keep {d : ByteArray} {x x' : En} {r r' j : Nat} (hp : Prog d x r j) (hr : r ≤ r') (hd : r' ≤ d.size) (hl : x.l ≤ x'.l) : Prog d x' r' j := by
  rcases hp with g | ⟨g1, g2⟩
  · left; omega
  · right; omega
theorem prog_both {n : Int} {d : ByteArray} {x y x' : En} {r j : Nat} (hn : 10 ≤ n) (h : Talk n d x y r r) (hp : r = d.size ∨ 10 * (j + 1) ≤ r) (hl : x'.l = y.c.lim) : Prog d x' r (j + 1) := by
  rcases h.go with g | ⟨g1, _⟩
  · exact .inl g
  · rcases hp with g | g
    · exact .inl g
    · right; omega
theorem prog_done {n : Int} {d : ByteArray} {x y : En} {r q j : Nat} (h : Talk n d x y r q) (hp : Prog d x r j) (hj : 6 ≤ j) : r = d.size := by
  have hrd := h.rd
  have h60 : d.size ≤ 60 := by have := h.xi.d60; rw [h.xd] at this; exact this
  rcases hp with g | ⟨g1, _⟩
  · exact g
  · omega
/-- How many ranges those that came are, where so many were lost. -/
def Few (e : En) (m lost : Nat) : Prop := e.cm.length ≤ lost + 1 ∧ (nextN e ≠ m → e.cm.length ≤ lost)
theorem few_take {e e' : En} {m lost : Nat} (h : EInv e) (hm : nextN e ≤ m) (hf : Few e m lost) (hc : e'.cm = addL e.cm m) : (addL e.cm m).length ≤ lost + 1 ∧ Few e' (m + 1) lost := by
  have ha := add_next h hm
  have hl : (addL e.cm m).length ≤ lost + 1 := by
    by_cases h0 : nextN e = m
    · by_cases h1 : 1 ≤ e.cm.length
      · rw [ha.2.2 h0 h1]
        exact hf.1
      · have := ha.2.1
        omega
    · have := hf.2 h0
      have := ha.2.1
      omega
  refine ⟨hl, ?_, fun hn => ?_⟩
  · rw [hc]; exact hl
  · exfalso
    apply hn
    have e1 : nextN e' = nextN { e with cm := addL e.cm m } := by unfold nextN; rw [hc]
    rw [e1, ha.1]
    omega
theorem few_lose {e : En} {m lost : Nat} (hf : Few e m lost) : Few e (m + 1) (lost + 1) := ⟨by have := hf.1; omega, fun _ => hf.1⟩
theorem few_mono {e : En} {m lost lost' : Nat} (hf : Few e m lost) (h : lost ≤ lost') : Few e m lost' := ⟨by have := hf.1; omega, fun hn => by have := hf.2 hn; omega⟩
end Go.Proofs.YtoabfilliiopmaaGreatDoor
