/- TopSeen, as numbers: a ping's packet, and what a Log tells of a number that is above all that came. -/
import Derived.Test.YtegelodkopommaaGreatDoorLG
import Derived.Test.YtegelodkopommaaGreatDoorEW
import Derived.Test.YtegelodkopommaaGreatDoorGQ
namespace Go.Proofs.YtegelodkopommaaGreatDoor
open Go.RowKit Go.Lib Go.Sort
set_option linter.unusedVariables false
set_option linter.unusedSimpArgs false
def pingF : List F := [(1, [], { data := #[] })]
theorem ping_one : frF 1 [] { data := #[] } = 0 := by
  exact frF_zero (by decide) (by decide) (fun _ => rfl) (fun z hz => by simp at hz) (by decide) (fun e => by cases e)
theorem ping_bytes : frS 1 [] { data := #[] } = { data := #[1] } := by
  simp [frS, mid, strOfNums]; rfl
theorem ping_fsS : fsS pingF = { data := #[1] } := by
  show frS 1 [] { data := #[] } ++ ({ data := #[] } : ByteArray) = _
  rw [ba_nil, ping_bytes]
theorem ping_fsF : fsF pingF = 0 := by
  have : fF (1, [], { data := #[] }) = 0 := ping_one
  simp [pingF, fsF, this]
theorem lit_row (W : World) : FRow (W.alloc (.cells #[.int .i64 1, .slice none 0 0, .string { data := #[] }] 32)) (.slice (some ⟨W.heap.size, 0, none⟩) 1 1) pingF := by
  refine ⟨_, 1, rfl, by simp [pingF], by simp [pingF], .inr ⟨_, 0, rfl, by simp, fun j hj => ?_⟩⟩
  have : j = 0 := by simp [pingF] at hj; exact hj
  subst this
  exact ⟨.slice none 0 0, by simp [pingF, fat], by simp, by simp [pingF, fat], IRow.nil _, by simp [pingF, fat]; unfold maxLen; decide⟩
theorem pkN_size {n k : Int} (h : U.pairB n k = true) : (pkN n k).size ≤ 5 := by
  have h1 := congrArg List.length (ints_pkN n k)
  rw [ints_length] at h1
  rw [h1, List.length_cons]
  unfold numB
  split
  · simp
  · split
    · simp
    · split <;> simp

open Lo
theorem ping_pk2 {n k : Int} (h : U.pairB n k = true) : pkF n k pingF = 0 := by
  rw [pkF_eq n k pingF h]
  have e : pfF pingF = 0 := ping_fsF
  have h2 := pkN_size h
  rw [if_neg (by simp [e]), if_neg (by unfold pkS; rw [ping_fsS, ByteArray.size_append]; have : ({ data := #[1] } : ByteArray).size = 1 := rfl; omega)]
theorem ping_sz2 {n k : Int} (h : U.pairB n k = true) : (pkS n k pingF).size ≤ 200 := (pkF_ok (ping_pk2 h)).2.2.2.2
/-- A slice of integers that came in. -/
def Ia (w : World) (ao : Option Addr) (l : Nat) (f : Nat → Int) : Prop := l ≤ 9223372036854775807 ∧ (l = 0 ∨ ∃ b off, ao = some ⟨b, off, none⟩ ∧ b < w.heap.size ∧ ∀ j, j < l → w.cell? ⟨b, off + j, none⟩ = some (.int .i64 (f j)))
theorem Ia.at {w : World} {ao : Option Addr} {l : Nat} {f : Nat → Int} (h : Ia w ao l f) {j : Nat} (hj : j < l) : ∃ b off, ao = some ⟨b, off, none⟩ ∧ b < w.heap.size ∧ ∀ X, Below w.heap.size w X → X.cell? ⟨b, off + j, none⟩ = some (.int .i64 (f j)) := by
  rcases h.2 with e | ⟨b, off, e, hb, hc⟩
  · omega
  · exact ⟨b, off, e, hb, fun X hX => (hX.cell (p := ⟨b, off + j, none⟩) hb).trans (hc j hj)⟩
theorem fit_cnt {ns : List Int} (h : Fit ns) : ∀ k, k ≤ ns.length → cnt (rgN (ns.take k)) = (k : Int)
  | 0, _ => by simp only [List.take_zero]; rfl
  | k + 1, hk => by
    have i := fit_cnt h k (by omega)
    have hc := h.chks k (by omega)
    have hc1 := h.chks (k + 1) hk
    obtain ⟨a, b, c⟩ := h k (by omega)
    have ha := (isN_iff _).1 a
    rw [take_snoc (by omega), rgN_snoc] at hc1 ⊢
    have g0 := (chk_ok _).1 hc
    have g1 := (chk_ok _).1 hc1
    rw [cnt_new g0.2.2 g1.2.2 g0.2.1 g1.2.1 (nth ns k) ha.1 ha.2 (addL_ok hc).2 ((memB_no _ _).1 b), i]
    omega
theorem fit_all {ns : List Int} (h : Fit ns) : cnt (rgN ns) = (ns.length : Int) := by
  have := fit_cnt h ns.length (Nat.le_refl _)
  rwa [List.take_length] at this
def Abv (s : Lg) (nx : Nat) : Prop := ∀ k, Mem (rgN s.ns) k → k < (nx : Int)
theorem Abv.new (s : Lg) (h : s.ns = []) : Abv s 0 := fun k hk => by
  rw [h] at hk
  exact (mem_nil k hk).elim
theorem Abv.mem {s : Lg} {nx : Nat} (h : Abv s nx) {n : Int} (hn : (nx : Int) ≤ n) : memB (rgN s.ns) n = false := (memB_no _ _).2 fun hk => by have := h n hk; omega
theorem Abv.same {s s' : Lg} {nx : Nat} (h : Abv s nx) (e : s'.ns = s.ns) : Abv s' nx := fun k hk => h k (by rw [← e]; exact hk)
theorem Abv.more {s s' : Lg} {nx m : Nat} (h : Abv s nx) (hi : LInv s) (hm : nx ≤ m) (e : s'.ns = s.ns ++ [(m : Int)]) : Abv s' (m + 1) := fun k hk => by
  rw [e, rgN_snoc] at hk
  rcases ((addL_ok hi.fit.chk).2 k).1 hk with hk | hk
  · have := h k hk; omega
  · omega
theorem seen_cases {s : Lg} (hi : LInv s) {n : Int} (hn : isN n = true) (hm : memB (rgN s.ns) n = false) :
    ((caS s n).ns = s.ns ∧ ∃ f, errV (caF s n) = .iface 55 (.int .i64 f)) ∨ (errV (caF s n) = .nilIface ∧ caB s n = true ∧ (caS s n).ns = s.ns ++ [n] ∧ caB (caS s n) n = false ∧ errV (caF (caS s n) n) = .nilIface ∧ caS (caS s n) n = caS s n) := by
  cases h0 : s.st with
  | true =>
    have r : rdy s n = false := by simp [rdy, h0]
    exact .inl ⟨by rw [caS, r]; rfl, 6, by rw [caF, if_pos h0]; exact errV_f (by decide)⟩
  | false =>
    have q0 : ¬ s.st = true := by rw [h0]; decide
    by_cases h2 : 12 < (addL (rgN s.ns) n).length
    · have h2' : ¬ (addL (rgN s.ns) n).length ≤ 12 := by omega
      have r : rdy s n = false := by simp [rdy, h2']
      exact .inl ⟨by rw [caS, r]; rfl, 4, by rw [caF, if_neg q0, if_pos hn, if_pos h2]; exact errV_f (by decide)⟩
    · have h2' : (addL (rgN s.ns) n).length ≤ 12 := by omega
      have r : rdy s n = true := by simp [rdy, h0, hn, h2', hm]
      by_cases h4 : s.ah = 0
      · exact .inl ⟨by rw [caS, if_pos r, if_pos h4], 6, by rw [caF, if_neg q0, if_pos hn, if_neg h2, if_pos ⟨r, h4⟩]; exact errV_f (by decide)⟩
      · have es : caS s n = { s with ns := s.ns ++ [n], ah := dn s.ah } := by rw [caS, if_pos r, if_neg h4]
        have hc1 : chk (addL (rgN s.ns) n) = 0 := addL_chk hi.fit.chk hn h2'
        have hm1 : memB (addL (rgN s.ns) n) n = true := (memB_iff _ _).2 (((addL_ok hi.fit.chk).2 n).2 (.inr rfl))
        have e1 : rgN (caS s n).ns = addL (rgN s.ns) n := by rw [es]; exact rgN_snoc _ _
        have r1 : rdy (caS s n) n = false := by rw [rdy, e1, hm1]; simp
        have q1 : ¬ (caS s n).st = true := by rw [es]; show ¬ s.st = true; exact q0
        refine .inr ⟨?_, by rw [caB, r, decide_eq_true h4]; rfl, by rw [es], by rw [caB, r1]; rfl, ?_, by rw [caS, r1]; rfl⟩
        · rw [caF, if_neg q0, if_pos hn, if_neg h2, if_neg (fun e => h4 e.2)]; rfl
        · rw [caF, if_neg q1, if_pos hn, e1, addL_same hc1 hm1, if_neg h2, if_neg (fun e => by rw [r1] at e; exact Bool.noConfusion e.1)]; rfl
theorem sy_ns (s : Lg) : (syS s).ns = s.ns := by
  unfold syS
  split
  · rfl
  · split <;> rfl
theorem sy_err (s : Lg) : errV (syF s) = .nilIface ∨ errV (syF s) = .iface 55 (.int .i64 6) := by
  unfold syF
  split
  · exact .inr (errV_f (by decide))
  · split
    · exact .inr (errV_f (by decide))
    · exact .inl rfl
theorem cr_cnt {s : Lg} (hi : LInv s) (n : Int) : cnt (rgN (crS s n).ns) ≤ (s.ns.length : Int) := by
  rw [fit_all (hi.crash n).fit]
  show ((s.ns.take _).length : Int) ≤ _
  rw [List.length_take]
  omega
end Go.Proofs.YtegelodkopommaaGreatDoor
