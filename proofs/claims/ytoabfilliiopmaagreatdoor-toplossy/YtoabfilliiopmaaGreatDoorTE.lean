/- What EndTwice works with: a packet that comes again; one End and a slice of what came. -/
import Derived.Test.YtoabfilliiopmaaGreatDoorTD
import Derived.Test.YtoabfilliiopmaaGreatDoorGW
namespace Go.Proofs.YtoabfilliiopmaaGreatDoor
open Go.RowKit Go.Lib Go.Sort
set_option linter.unusedVariables false
set_option linter.unusedSimpArgs false


open Sx (bat)
def abB : ByteArray := { data := #[97, 98] }
def abX : En := writeS (newE 20) abB
def abP : ByteArray := makeB abX
def abY : En := (takeP (newE 20) abP).2
theorem ab_win : Cx.winB 20 = true := by decide
theorem ab_write : writeF (newE 20) abB = 0 := by kernel_rfl
theorem ab_frs : frs abX = [(4, [20], nilB), (3, [0], abB)] := by kernel_rfl
theorem ab_make : makeF abX = 0 := by kernel_rfl
theorem ab_rd : rdP abP 0 = some (0, [(4, [20], nilB), (3, [0], abB)]) := by
  have h := rdP_back (n := 0) (k := -1) (more := -1) (l := frs abX) ab_make (by omega) (by omega)
  have e : abP = pkS 0 (-1) (frs abX) := by unfold abP makeB; rw [if_pos ab_make]; rfl
  rw [show (-1 : Int) + 1 = 0 from rfl, ← e, ab_frs] at h
  exact h
theorem ab_size : abP.size ≤ 200 := by
  have e : abP = pkS 0 (-1) (frs abX) := by unfold abP makeB; rw [if_pos ab_make]; rfl
  rw [e]
  exact (pkF_ok ab_make).2.2.2.2
theorem ab_take : takeP (newE 20) abP = come (newE 20) 0 [(4, [20], nilB), (3, [0], abB)] := by
  have h1 : opF abP (nextN (newE 20)) = 0 := opF_zero (by decide) ab_size ab_rd
  exact takeP_yes h1 ab_rd
theorem ab_took : (takeP (newE 20) abP).1 = 0 := by rw [ab_take]; kernel_rfl
theorem ab_readF : readF abY 9 = 0 := by unfold abY; rw [ab_take]; kernel_rfl
theorem ab_readB : readB abY 9 = abB := by unfold abY; rw [ab_take]; kernel_rfl
/-- The first packet, read by who has it. -/
theorem rdP_again {l : List F} (h : pkF 0 (-1) l = 0) : rdP (pkS 0 (-1) l) 1 = some (0, l) := by
  obtain ⟨hp, hl1, hl2, hf, hs⟩ := pkF_ok h
  have hneed : U.need 0 (-1) = 1 := by decide
  have hi : V.ints (pkS 0 (-1) l) = 1 :: ([0] ++ V.ints (fsS l)) := by
    unfold pkS
    rw [V.ints_app, ints_pkN, hneed]; rfl
  have e1 : rdN (pkS 0 (-1) l) 1 = some (0, 2) := by
    unfold rdN
    rw [hi]
    simp only [show (1 : Int).toNat = 1 from rfl, show (([0] ++ V.ints (fsS l) : List Int)).take 1 = [0] from rfl]
    rw [if_neg (fun hh => by
      rcases hh with e | e
      · cases e
      · rw [List.length_append] at e; simp only [List.length_cons, List.length_nil] at e; omega), if_neg (by decide)]
    rfl
  have e2 : (pkS 0 (-1) l).extract 2 (pkS 0 (-1) l).size = fsS l := by
    have hsz : (pkS 0 (-1) l).size = 2 + (fsS l).size := by
      rw [← ints_length, hi, List.length_cons, List.length_append, ints_length]
      simp only [List.length_cons, List.length_nil]
      omega
    apply ints_inj
    rw [ints_drop _ _ (by omega), hi]
    rfl
  unfold rdP
  rw [e1, Option.bind_some, e2, rdL_back l hf, fin_some hl1 hl2]
  rfl
theorem takeP_err {e : En} {b : ByteArray} (h : (takeP e b).1 ≠ 0) : (takeP e b).2 = e := by
  unfold takeP at h ⊢
  split
  · rfl
  · rename_i h0
    rw [if_neg h0] at h
    split
    · rfl
    · rename_i n fs hr
      rw [hr] at h
      simp only at h
      unfold come at h ⊢
      split
      · rfl
      · rename_i h1
        rw [if_neg h1] at h
        split
        · rfl
        · rename_i h2
          rw [if_neg h2] at h
          split
          · rfl
          · rename_i h3
            rw [if_neg h3] at h
            exact absurd rfl h
theorem write_zero {n : Int} {d : ByteArray} (h : d.size ≤ 60) : writeF (newE n) d = 0 := by
  unfold writeF
  rw [if_neg (by have : (newE n).d.size = 0 := rfl; omega)]
theorem write_four {n : Int} {d : ByteArray} (h : 60 < d.size) : writeF (newE n) d = 4 := by
  unfold writeF
  rw [if_pos (by have : (newE n).d.size = 0 := rfl; omega)]
theorem write_m (n : Int) (d : ByteArray) : (writeS (newE n) d).m = 0 ∧ (writeS (newE n) d).k = -1 ∧ (writeS (newE n) d).cm = [] := by
  unfold writeS
  split <;> exact ⟨rfl, rfl, rfl⟩
/-- What comes, and comes again. -/
theorem once_again {n : Int} {d : ByteArray} (hn : Cx.winB n = true) (hd : d.size ≤ 60) : makeF (writeS (newE n) d) = 0 ∧ ∃ y1, takeP (newE n) (makeB (writeS (newE n) d)) = (0, y1) ∧ takeP y1 (makeB (writeS (newE n) d)) = (0, y1) := by
  have hT := Talk.new (d := d) hn hd
  obtain ⟨m0, k0, c0⟩ := write_m n d
  have hm : makeF (writeS (newE n) d) = 0 := makeF_zero hT.xi (by omega)
  refine ⟨hm, ?_⟩
  obtain ⟨y1, e1, hT1, e2, _⟩ := (hT.send hm).2 (by rw [m0]; show (addL [] ((0 : Nat) : Int)).length ≤ 12; decide)
  have hz : ((writeS (newE n) d).m : Int) = 0 := by rw [m0]; rfl
  rw [hz] at e1 e2
  have hc : y1.cm = [(0, 0)] := e2.trans rfl
  have hnx : nextN y1 = 1 := by unfold nextN; rw [hc]; rfl
  have hmb := makeB_is hm
  rw [hz, k0] at hmb
  have hp : pkF 0 (-1) (frs (writeS (newE n) d)) = 0 := by
    have := hm
    unfold makeF at this
    rwa [hz, k0] at this
  refine ⟨y1, ?_, ?_⟩
  · rw [takeP_made hm (EInv.new hn) (by rw [k0]; show (-1 : Int) < 0; decide) (by rw [m0]; show (0 : Int) ≤ 0; decide), hz]
    exact e1
  · have hr : rdP (makeB (writeS (newE n) d)) (nextN y1) = some (0, frs (writeS (newE n) d)) := by
      rw [hnx, hmb]
      exact rdP_again hp
    rw [takeP_yes (opF_zero (by rw [hnx]; decide) (makeB_size hm) hr) hr]
    unfold come
    rw [if_pos ((memB_iff _ _).2 ⟨(0, 0), by rw [hc]; simp, by simp, by simp⟩)]
theorem readS_cm (e : En) (n : Int) : (readS e n).cm = e.cm ∧ (readS e n).m = e.m := by
  unfold readS
  split <;> exact ⟨rfl, rfl⟩
theorem makeS_cm (e : En) : (makeS e).cm = e.cm := by
  unfold makeS
  split <;> rfl
theorem nextN_cm {e e' : En} (h : e.cm = e'.cm) : nextN e = nextN e' := by
  unfold nextN
  rw [h]
/-- A round in which both packets come. -/
theorem round_both {n : Int} {d : ByteArray} {z y : En} {r i : Nat} (h : Talk n d z y r r) (hz : z.m = i) (hy : y.m = i) (hi : i ≤ 1000) (fy : Few y z.m 0) (fz : Few z y.m 0) :
    makeF z = 0 ∧ ∃ y1, takeP y (makeB z) = (0, y1) ∧ readF y1 60 = 0 ∧ makeF (readS y1 60) = 0 ∧ ∃ z', takeP (makeS z) (makeB (readS y1 60)) = (0, z') ∧ ∃ r', Talk n d z' (makeS (readS y1 60)) r' r' ∧ z'.m = i + 1 ∧ (makeS (readS y1 60)).m = i + 1 ∧ Few (makeS (readS y1 60)) z'.m 0 ∧ Few z' (makeS (readS y1 60)).m 0 ∧ z'.t = r' ∧ (10 ≤ n → ∀ j, Prog d z r j → Prog d z' r' (j + 1)) := by
  have hm := makeF_zero h.xi (by omega)
  have f1 := few_take (e' := { y with cm := addL y.cm z.m }) h.yi h.ym fy rfl
  obtain ⟨y1, e1, t1, c1, m1⟩ := (h.send hm).2 (by omega)
  obtain ⟨rf, _, t2⟩ := t1.read
  obtain ⟨rc, rm⟩ := readS_cm y1 60
  have hm2 := makeF_zero t2.yi (by omega)
  have fz2 : Few (makeS z) (readS y1 60).m 0 := by
    unfold Few
    rw [makeS_cm, nextN_cm (makeS_cm z), rm, m1]
    exact fz
  have f2 := few_take (e' := { makeS z with cm := addL (makeS z).cm (readS y1 60).m }) t2.xi t2.xm fz2 rfl
  obtain ⟨z', e3, t3, c3, m3, l3, tt3⟩ := (t2.back hm2).2 (by omega)
  have hzm : (makeS z).m = i + 1 := by rw [makeS_is hm]; simp only; omega
  have hym : (makeS (readS y1 60)).m = (readS y1 60).m + 1 := by rw [makeS_is hm2]
  refine ⟨hm, y1, (takeP_made hm h.yi h.yn h.ym).trans e1, rf, hm2, z', (takeP_made hm2 t2.xi t2.xn t2.xm).trans e3, _, t3, m3.trans hzm, by omega, ?_, ?_, tt3, fun hn j hp => prog_both hn t2 (prog_send h hp) l3⟩
  · have := (few_take (e' := makeS (readS y1 60)) h.yi h.ym fy (by rw [makeS_cm, rc]; exact c1)).2
    rw [m3, hzm, ← hz]
    exact this
  · have := (few_take (e' := z') t2.xi t2.xm fz2 c3).2
    rw [hym]
    exact this
theorem pieces_told {e : En} (h : en e ≤ e.t) : pieces e = [] := by
  unfold pieces pcs
  rw [if_neg (by omega)]
theorem frs_kinds {e : En} (h : pieces e = []) : ∀ f ∈ frs e, f.1 ≠ 3 := by
  intro f hf
  unfold frs at hf
  rw [h] at hf
  rcases List.mem_append.1 hf with hf | hf
  · split at hf
    · simp at hf
    · simp at hf
      subst hf
      show (2 : Int) ≠ 3
      decide
  · simp at hf
    subst hf
    show (4 : Int) ≠ 3
    decide
/-- One End, and a slice of ranges that is the law's own. -/
def Sol (w0 wr : World) (yb : Nat) (ey : En) (v : Value) (cm : List R) : Prop :=
  ∃ yl yc, EO wr w0.heap.size yb yl yc ey ∧ wr.ownsRow w0.heap.size 82 2 v cm.length (flat cm) ∧ (∀ k, v.ownBlock = some k → ¬ OwnE yb yl yc k) ∧ Below w0.heap.size w0 wr
section
variable {w0 wr wx : World} {xb yb : Nat} {ex ey : En} {v : Value} {cm : List R}
theorem Sol.bel (h : Sol w0 wr yb ey v cm) : Below w0.heap.size w0 wr := by
  obtain ⟨_, _, _, _, _, h4⟩ := h
  exact h4
theorem Sol.row (h : Sol w0 wr yb ey v cm) (hl : cm.length ≤ 12) : Row wr v cm := by
  obtain ⟨_, _, _, h2, _⟩ := h
  exact row_of_own h2 (by omega)
theorem Sol.below (h : Sol w0 wr yb ey v cm) (hb : Below wr.heap.size wr wx) : Sol w0 wx yb ey v cm := by
  obtain ⟨yl, yc, h1, h2, h3, h4⟩ := h
  exact ⟨yl, yc, h1.below hb, own_below h2 hb, h3, h4.trans (hb.mono h4.size)⟩
theorem sol_start (h : Duo w0 wr xb yb ex ey) : Calls Tryz.prog 14 #[.pointer (some ⟨yb, 0, none⟩)] wr fun e w' => ∃ v a c, e = .returned v ∧ v = .slice a ey.cm.length c ∧ Sol w0 w' yb ey v ey.cm := by
  obtain ⟨xl, xc, yl, yc, h1, h2, h3, h4⟩ := h
  refine (acked_calls h2).mono ?_
  rintro e w' ⟨v, rfl, o, t⟩
  obtain ⟨a, c, hv⟩ := own_sh o
  refine ⟨v, a, c, rfl, hv, yl, yc, h2.below t, own_mono o h4.size, fun k hk hy => ?_, h4.trans (t.mono h4.size)⟩
  have := (o.lt k hk).1
  have := (h2.own_lt hy).2
  omega
theorem sol_take (h : Sol w0 wr yb ey v cm) (b : ByteArray) (hl : b.size ≤ 9223372036854775807) (hV : V.Forms w0 ∧ Cnts w0) : Calls Tryz.prog 10 #[.pointer (some ⟨yb, 0, none⟩), .string b] wr fun e w' => e = .returned (errV (takeP ey b).1) ∧ Sol w0 w' yb (takeP ey b).2 v cm := by
  obtain ⟨yl, yc, h1, h2, h3, h4⟩ := h
  refine (etake_calls h1 b hl (hV.1.below h4) (hV.2.below h4) (fun n fs hr => rdP_ack hr)).mono ?_
  rintro e w' ⟨a, t⟩
  obtain ⟨yl', yc', o, f, own⟩ := t
  refine ⟨a, yl', yc', o, f.row h2 h3, fun k hk hy => ?_, h4.trans (f.below (fun k hk => (h1.own_lt hk).1) h1.le)⟩
  rcases own k hy with hy | hy
  · exact h3 k hk hy
  · have := (h2.lt k hk).2
    omega
theorem sol_ready (h : Sol w0 wr yb ey v cm) : Calls Tryz.prog 13 #[.pointer (some ⟨yb, 0, none⟩)] wr fun e w' => e = .returned (.int .i64 (Sx.rdy ey.s : Int)) ∧ Sol w0 w' yb ey v cm := by
  have h' := h
  obtain ⟨yl, yc, h1, h2, h3, h4⟩ := h
  exact (ready_calls h1).mono fun e w' ⟨a, t⟩ => ⟨a, h'.below t⟩
/-- What came is asked again, and held against the slice. -/
theorem sol_acked (h : Sol w0 wr yb ey v cm) : Calls Tryz.prog 14 #[.pointer (some ⟨yb, 0, none⟩)] wr fun e w' => ∃ u a c, e = .returned u ∧ u = .slice a ey.cm.length c ∧ Row w' u ey.cm ∧ Sol w0 w' yb ey v cm := by
  have h' := h
  obtain ⟨yl, yc, h1, h2, h3, h4⟩ := h
  refine (acked_calls h1).mono ?_
  rintro e w' ⟨u, rfl, o, t⟩
  obtain ⟨a, c, hu⟩ := own_sh o
  have := ((chk_ok ey.cm).1 h1.inv.cm).1
  exact ⟨u, a, c, rfl, hu, row_of_own o (by omega), h'.below t⟩
theorem Sol.inv (h : Sol w0 wr yb ey v cm) : EInv ey := by
  obtain ⟨_, _, h1, _⟩ := h
  exact h1.inv
end
end Go.Proofs.YtoabfilliiopmaaGreatDoor
