/- TopLossy: which packets come, how many rounds are enough, what a round leaves. No program stands here. -/
import Derived.Test.YtoabfilliiopmaaGreatDoorTE
namespace Go.Proofs.YtoabfilliiopmaaGreatDoor
open Go.RowKit Go.Lib Go.Sort
set_option linter.unusedVariables false
set_option linter.unusedSimpArgs false


open Sx (bat)
/-- Rounds in which both packets come, among the first k. -/
def both2 (a b : Nat) : Nat → Nat
  | 0 => 0
  | k + 1 => both2 a b k + (if (k + 1) % a ≠ 0 ∧ (k + 1) % b ≠ 0 then 1 else 0)
theorem both2_mono (a b : Nat) {j k : Nat} (h : j ≤ k) : both2 a b j ≤ both2 a b k := by
  induction k with
  | zero => rw [show j = 0 by omega]; exact Nat.le_refl _
  | succ k ih =>
    by_cases e : j = k + 1
    · rw [e]; exact Nat.le_refl _
    · have := ih (by omega)
      simp only [both2]
      omega
theorem both2_cap (a b : Nat) : ∀ k, k ≤ 24 → both2 a b k = both2 (min a 25) (min b 25) k
  | 0, _ => rfl
  | k + 1, h => by
    have key : ∀ a : Nat, ((k + 1) % a ≠ 0) ↔ ((k + 1) % (min a 25) ≠ 0) := fun a => by
      by_cases e : a ≤ 25
      · rw [Nat.min_eq_left e]
      · rw [Nat.min_eq_right (by omega), Nat.mod_eq_of_lt (show k + 1 < a by omega), Nat.mod_eq_of_lt (show k + 1 < 25 by omega)]
    simp only [both2]
    rw [both2_cap a b k (by omega)]
    have ek := and_congr (key a) (key b)
    by_cases hp : (k + 1) % a ≠ 0 ∧ (k + 1) % b ≠ 0
    · rw [if_pos hp, if_pos (ek.1 hp)]
    · rw [if_neg hp, if_neg (fun h => hp (ek.2 h))]
theorem both2_small : ∀ a, a < 26 → ∀ b, b < 26 → 2 ≤ a → 2 ≤ b → 6 ≤ both2 a b 24 := by decide +kernel
/-- Six rounds among twenty-four. -/
theorem both2_six {a b k : Nat} (ha : 2 ≤ a) (hb : 2 ≤ b) (hk : 24 ≤ k) : 6 ≤ both2 a b k := by
  have h1 := both2_small (min a 25) (by omega) (min b 25) (by omega) (by omega) (by omega)
  rw [← both2_cap a b 24 (Nat.le_refl _)] at h1
  exact Nat.le_trans h1 (both2_mono a b hk)
theorem lost_step {a k : Nat} (ha : 2 ≤ a) (h : (k + 1) % a = 0) : (k + 1) / a = k / a + 1 := Nat.succ_div_of_dvd (Nat.dvd_of_mod_eq_zero h)
theorem lost_same {a k : Nat} (h : (k + 1) % a ≠ 0) : (k + 1) / a = k / a := Nat.succ_div_of_not_dvd fun hd => h (Nat.mod_eq_zero_of_dvd hd)
theorem lost_many {a k : Nat} (ha : 2 ≤ a) (h : 12 ≤ k / a) : 24 ≤ k := by
  have h1 := Nat.div_mul_le_self k a
  have h2 : 12 * 2 ≤ k / a * a := Nat.mul_le_mul h ha
  omega
/-- Behind k rounds. -/
structure Lossy (n : Int) (d : ByteArray) (a b : Nat) (x y : En) (r k : Nat) : Prop where
  t : Talk n d x y r r
  xm : x.m = k
  ym : y.m = k
  fy : Few y k (k / a)
  fx : Few x k (k / b)
  p : Prog d x r (both2 a b k)
theorem Lossy.done {n : Int} {d : ByteArray} {a b : Nat} {x y : En} {r k : Nat} (h : Lossy n d a b x y r k) (ha : 2 ≤ a) (hb : 2 ≤ b) (hk : 24 ≤ k) : r = d.size := prog_done h.t h.p (both2_six ha hb hk)
/-- In a round, behind what was read. -/
structure Mid (n : Int) (d : ByteArray) (a b : Nat) (x y : En) (r k : Nat) : Prop where
  t : Talk n d x y r r
  xm : x.m = k + 1
  ym : y.m = k
  fy : Few y (k + 1) ((k + 1) / a)
  fx : Few x k (k / b)
  pp : (k + 1) % a ≠ 0 → r = d.size ∨ 10 * (both2 a b k + 1) ≤ r
  p : Prog d x r (both2 a b k)
theorem few_cm {e e' : En} {m l : Nat} (h : Few e m l) (hc : e'.cm = e.cm) : Few e' m l := by
  unfold Few
  rw [hc, nextN_cm hc]
  exact h
section
variable {n : Int} {d : ByteArray} {a b : Nat} {x y : En} {r k : Nat}
/-- x's packet comes, and y reads. -/
theorem Lossy.sendx (h : Lossy n d a b x y r k) (ha : 2 ≤ a) (hb : 2 ≤ b) (hk : k ≤ 60) (px : (k + 1) % a ≠ 0) : makeF x = 0 ∧ ((takeP y (makeB x) = (4, y) ∧ r = d.size) ∨ ∃ y1 r1, takeP y (makeB x) = (0, y1) ∧ readF y1 60 = 0 ∧ readB y1 60 = d.extract r r1 ∧ r ≤ r1 ∧ r1 ≤ d.size ∧ Mid n d a b (makeS x) (readS y1 60) r1 k) := by
  have hxm := h.xm
  have hm := makeF_zero h.t.xi (by omega)
  have fy : Few y x.m (k / a) := by rw [hxm]; exact h.fy
  have f1 := few_take (e' := { y with cm := addL y.cm x.m }) h.t.yi h.t.ym fy rfl
  have hs := h.t.send hm
  have htk := takeP_made hm h.t.yi h.t.yn h.t.ym
  refine ⟨hm, ?_⟩
  by_cases hl : 12 < (addL y.cm x.m).length
  · exact .inl ⟨htk.trans (hs.1 hl), h.done ha hb (lost_many ha (by omega))⟩
  · obtain ⟨y1, e1, t1, c1, m1⟩ := hs.2 (by omega)
    obtain ⟨rf, rb, t2⟩ := t1.read
    obtain ⟨rc, rm⟩ := readS_cm y1 60
    have hl2 : (makeS x).l = x.l := by rw [makeS_is hm]
    refine .inr ⟨y1, _, htk.trans e1, rf, rb, by omega, t1.rd, t2, by rw [makeS_is hm]; simp only; omega, by rw [rm, m1]; exact h.ym, ?_, few_cm h.fx (makeS_cm x), fun _ => prog_send h.t h.p, prog_keep h.p (by omega) t1.rd (by rw [hl2]; exact Int.le_refl _)⟩
    have := (few_take (e' := readS y1 60) h.t.yi h.t.ym fy (by rw [rc]; exact c1)).2
    rw [hxm] at this
    rw [lost_same px]
    exact this
/-- x's packet is lost, and y reads. -/
theorem Lossy.losex (h : Lossy n d a b x y r k) (ha : 2 ≤ a) (hk : k ≤ 60) (px : (k + 1) % a = 0) : makeF x = 0 ∧ readF y 60 = 0 ∧ readB y 60 = d.extract r r ∧ Mid n d a b (makeS x) (readS y 60) r k := by
  have hxm := h.xm
  have hm := makeF_zero h.t.xi (by omega)
  obtain ⟨rf, rb, t2⟩ := (h.t.lose hm).read
  obtain ⟨rc, rm⟩ := readS_cm y 60
  have hl2 : (makeS x).l = x.l := by rw [makeS_is hm]
  refine ⟨hm, rf, rb, t2, by rw [makeS_is hm]; simp only; omega, by rw [rm]; exact h.ym, ?_, few_cm h.fx (makeS_cm x), fun hp => absurd px hp, prog_keep h.p (Nat.le_refl _) h.t.rd (by rw [hl2]; exact Int.le_refl _)⟩
  rw [lost_step ha px]
  exact few_cm (few_lose h.fy) rc
/-- y's packet comes. -/
theorem Mid.back (h : Mid n d a b x y r k) (hn : 10 ≤ n) (ha : 2 ≤ a) (hb : 2 ≤ b) (hk : k ≤ 60) (py : (k + 1) % b ≠ 0) : makeF y = 0 ∧ ((takeP x (makeB y) = (4, x) ∧ r = d.size) ∨ ∃ x', takeP x (makeB y) = (0, x') ∧ Lossy n d a b x' (makeS y) r (k + 1)) := by
  have hym := h.ym
  have hm := makeF_zero h.t.yi (by omega)
  have fx : Few x y.m (k / b) := by rw [hym]; exact h.fx
  have f1 := few_take (e' := { x with cm := addL x.cm y.m }) h.t.xi h.t.xm fx rfl
  have hs := h.t.back hm
  have htk := takeP_made hm h.t.xi h.t.xn h.t.xm
  refine ⟨hm, ?_⟩
  by_cases hl : 12 < (addL x.cm y.m).length
  · exact .inl ⟨htk.trans (hs.1 hl), prog_done h.t h.p (both2_six ha hb (lost_many hb (by omega)))⟩
  · obtain ⟨x', e1, t1, c1, m1, l1, _⟩ := hs.2 (by omega)
    refine .inr ⟨x', htk.trans e1, t1, by rw [m1]; exact h.xm, by rw [makeS_is hm]; simp only; omega, few_cm h.fy (makeS_cm y), ?_, ?_⟩
    · have := (few_take (e' := x') h.t.xi h.t.xm fx c1).2
      rw [hym] at this
      rw [lost_same py]
      exact this
    · simp only [both2]
      by_cases px : (k + 1) % a ≠ 0
      · rw [if_pos ⟨px, py⟩]
        exact prog_both hn h.t (h.pp px) l1
      · rw [if_neg (fun hh => px hh.1)]
        exact prog_keep h.p (Nat.le_refl _) h.t.rd (by rw [l1]; exact h.t.lr)
/-- y's packet is lost. -/
theorem Mid.lose (h : Mid n d a b x y r k) (hb : 2 ≤ b) (hk : k ≤ 60) (py : (k + 1) % b = 0) : makeF y = 0 ∧ Lossy n d a b x (makeS y) r (k + 1) := by
  have hym := h.ym
  have hm := makeF_zero h.t.yi (by omega)
  refine ⟨hm, h.t.makeY hm, h.xm, by rw [makeS_is hm]; simp only; omega, few_cm h.fy (makeS_cm y), by rw [lost_step hb py]; exact few_lose h.fx, ?_⟩
  simp only [both2]
  rw [if_neg (fun hh => hh.2 py)]
  exact h.p
end
theorem Lossy.new {n : Int} {d : ByteArray} {a b : Nat} (hn : Cx.winB n = true) (h10 : 10 ≤ n) (hd : d.size ≤ 60) : Lossy n d a b (writeS (newE n) d) (newE n) 0 0 :=
  ⟨Talk.new hn hd, (write_m n d).1, rfl, ⟨by simp [newE], fun _ => by simp [newE]⟩, ⟨by rw [(write_m n d).2.2]; simp, fun _ => by rw [(write_m n d).2.2]; simp⟩, prog_new h10⟩
theorem ex_join {d : ByteArray} {r s : Nat} (h : r ≤ s) (hs : s ≤ d.size) : d.extract 0 r ++ d.extract r s = d.extract 0 s := by
  apply ints_inj
  rw [V.ints_app, ints_extract, ints_extract, ints_extract]
  simp only [List.drop_zero, Nat.sub_zero]
  rw [← List.take_add, Nat.add_sub_cancel' h]
end Go.Proofs.YtoabfilliiopmaaGreatDoor
