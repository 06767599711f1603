/- What the laws of package run need. -/
import Derived.Test.YtdokgalidhmbbaaGreatDoorHT
import Derived.Test.YtdokgalidhmbbaaGreatDoorHG
import Derived.Test.YtdokgalidhmbbaaGreatDoorHLK
set_option linter.unusedVariables false
set_option linter.unusedSimpArgs false
set_option maxRecDepth 100000
set_option maxHeartbeats 8000000
namespace Go.Proofs.YtdokgalidhmbbaaGreatDoor
open Go.RowKit Go.Lib Go.Sort


open Sx (bat)
theorem rdL_good : ∀ (k : Nat) (s : ByteArray) (l : List F), s.size ≤ k → rdL s = some l → ∀ f ∈ l, fF f = 0 := by
  intro k
  induction k with
  | zero =>
    intro s l hs h f hf
    rw [rdL_nil (by omega)] at h
    cases h
    simp at hf
  | succ k ih =>
    intro s l hs h f hf
    by_cases h0 : s.size = 0
    · rw [rdL_nil h0] at h
      cases h
      simp at hf
    · cases h1 : rdF s with
      | none => rw [rdL_none h0 h1] at h; cases h
      | some fn =>
        obtain ⟨g, n⟩ := fn
        obtain ⟨g0, g1, g2⟩ := rdLA_good (L := []) h1
        rw [rdL_some h0 h1] at h
        cases h2 : rdL (s.extract n s.size) with
        | none => rw [h2] at h; cases h
        | some l' =>
          rw [h2] at h
          simp only [Option.map_some, Option.some.injEq] at h
          subst h
          rcases List.mem_cons.1 hf with rfl | hf
          · exact g0
          · exact ih (s.extract n s.size) l' (by rw [ByteArray.size_extract]; omega) h2 f hf
theorem rdP_ok {s : ByteArray} {next n : Int} {l : List F} (h : rdP s next = some (n, l)) : ∀ f ∈ l, fF f = 0 := by
  obtain ⟨c, _, h2⟩ := rdP_yes h
  unfold fin at h2
  cases h3 : rdL (s.extract c s.size) with
  | none => rw [h3] at h2; cases h2
  | some l' =>
    rw [h3] at h2
    simp only [Option.bind_some] at h2
    split at h2
    · cases h2
    · cases h2
      exact rdL_good _ _ _ (Nat.le_refl _) h3
theorem rdP_ack {s : ByteArray} {next n : Int} {l : List F} (h : rdP s next = some (n, l)) : ∀ f ∈ l, f.1 = 2 → AckC f.2.1 := by
  intro f hf h2
  have h0 := rdP_ok h f hf
  obtain ⟨k, ns, d⟩ := f
  simp only at h2
  subst h2
  obtain ⟨_, _, h3, _⟩ := frF_ok h0
  have hd : d = nilB := by
    have := h3 (show (2 : Int) ≠ 3 by decide)
    apply ByteArray.ext
    exact Array.eq_empty_of_size_eq_zero this
  subst hd
  exact ackC_all h0
theorem fS_size {f : F} (h : fF f = 0) : (fS f).size = 1 + (mid f.1 f.2.1 f.2.2).length + f.2.2.size := by
  have h1 := congrArg List.length (ints_frS (k := f.1) (ns := f.2.1) (d := f.2.2) h)
  rw [ints_length] at h1
  unfold fS
  rw [h1]
  unfold frB
  rw [List.cons_append, List.length_cons, List.length_append, ints_length]
  omega
theorem may_num {n : Int} (h0 : 0 ≤ n) (h1 : n ≤ 1073741823) : Mays [n] := fun z hz => by
  simp at hz
  subst hz
  exact ⟨h0, by omega⟩
theorem ack_good {cm : List R} (h : chk cm = 0) (h0 : cm ≠ []) : fF (2, unr cm, nilB) = 0 ∧ (fS (2, unr cm, nilB)).size ≤ 98 := by
  have hg := (chk_ok cm).1 h
  have hl : 1 ≤ cm.length := by
    cases cm with
    | nil => exact absurd rfl h0
    | cons a b => simp
  have hf : fF (2, unr cm, nilB) = 0 := frF_zero (show kindB 2 = true by decide) (by
    show cntB 2 (unr cm).length = true
    unfold cntB
    rw [if_pos rfl, unr_length]
    exact decide_eq_true ⟨by omega, by omega, by have := hg.1; omega⟩) (fun _ => rfl) (unr_mays hg) (show 0 ≤ 20 by omega) (fun _ => by rw [rgs_unr]; exact hg)
  refine ⟨hf, ?_⟩
  rw [fS_size hf]
  have e1 : mid 2 (unr cm) nilB = enc cm := by unfold mid; rw [if_pos rfl, rgs_unr]
  have := enc_length hg h0
  have := hg.1
  show 1 + (mid 2 (unr cm) nilB).length + nilB.size ≤ 98
  rw [e1]
  have : nilB.size = 0 := rfl
  omega
theorem credit_good {n : Int} (h0 : 0 ≤ n) (h1 : n ≤ 1073741823) : fF (4, [n], nilB) = 0 ∧ (fS (4, [n], nilB)).size ≤ 5 := by
  have hf : fF (4, [n], nilB) = 0 := frF_zero (show kindB 4 = true by decide) (show cntB 4 1 = true by decide) (fun _ => rfl) (may_num h0 h1) (show 0 ≤ 20 by omega) (fun e => by cases e)
  refine ⟨hf, ?_⟩
  rw [fS_size hf]
  show 1 + ([n].flatMap V.nums).length + 0 ≤ 5
  have := flat_le [n]
  simp only [List.length_cons, List.length_nil] at this
  omega
theorem piece_good {p : Nat × ByteArray} (h0 : p.1 ≤ 60) (h1 : p.2.size ≤ 20) : fF (pfr p) = 0 ∧ (fS (pfr p)).size ≤ 29 := by
  have hf : fF (pfr p) = 0 := frF_zero (by show kindB 3 = true; decide) (by show cntB 3 1 = true; decide) (fun e => absurd rfl e) (may_num (by omega) (by omega)) h1 (fun e => by cases e)
  refine ⟨hf, ?_⟩
  rw [fS_size hf]
  show 1 + (([(p.1 : Int)] ++ [(p.2.size : Int)]).flatMap V.nums).length + p.2.size ≤ 29
  have := flat_le ([(p.1 : Int)] ++ [(p.2.size : Int)])
  simp only [List.length_append, List.length_cons, List.length_nil] at this
  omega
theorem fsF_of : ∀ {l : List F}, (∀ f ∈ l, fF f = 0) → fsF l = 0 := fun {l} h => fsF_ok l fun j hj => h _ (fat_mem hj)
theorem fsS_le : ∀ (l : List F) (b : Nat), (∀ f ∈ l, (fS f).size ≤ b) → (fsS l).size ≤ b * l.length
  | [], b, _ => Nat.zero_le _
  | f :: l, b, h => by
    have h1 := fsS_le l b fun g hg => h g (List.mem_cons_of_mem _ hg)
    have h2 := h f List.mem_cons_self
    simp only [fsS, ByteArray.size_append, List.length_cons, Nat.mul_add, Nat.mul_one]
    omega
theorem pkN_size {n k : Int} (h : U.pairB n k = true) : (pkN n k).size ≤ 5 := by
  have h1 := congrArg List.length (ints_pkN n k)
  rw [ints_length] at h1
  rw [h1, List.length_cons]
  unfold numB
  split
  · simp
  · split
    · simp
    · split <;> simp
theorem pieces_good {e : En} (h : EInv e) : ∀ f ∈ (pieces e).map pfr, fF f = 0 ∧ (fS f).size ≤ 29 := by
  intro f hf
  obtain ⟨p, hp, rfl⟩ := List.mem_map.1 hf
  have := pcs_each e.d (en e) (en_le e) 3 e.t p hp
  have := h.en60
  exact piece_good (by omega) (by omega)
theorem frs_good {e : En} (h : EInv e) : ∀ f ∈ frs e, fF f = 0 := by
  intro f hf
  unfold frs at hf
  rcases List.mem_append.1 hf with hf | hf
  · split at hf
    · simp at hf
    · rename_i h0
      simp at hf
      subst hf
      exact (ack_good h.cm h0).1
  · rcases List.mem_cons.1 hf with rfl | hf
    · have := h.c.l1
      have := h.c.w1
      exact (credit_good (by omega) h.c.l2).1
    · exact (pieces_good h f hf).1
theorem frs_size {e : En} (h : EInv e) : (fsS (frs e)).size ≤ 190 := by
  unfold frs
  rw [fsS_append]
  have hp := fsS_le ((pieces e).map pfr) 29 fun f hf => (pieces_good h f hf).2
  have hl : ((pieces e).map pfr).length ≤ 3 := by rw [List.length_map]; exact pcs_length _ _ _ _
  have h4 := h.c.l1
  have h5 := h.c.w1
  have hc := (credit_good (n := e.c.lim) (by omega) h.c.l2).2
  have ha : (fsS (if e.cm = [] then [] else [(2, unr e.cm, nilB)])).size ≤ 98 := by
    split
    · exact Nat.zero_le _
    · rename_i h0
      rw [fsS_one]
      exact (ack_good h.cm h0).2
  simp only [ByteArray.size_append, fsS]
  omega
theorem frs_length {e : En} : 1 ≤ (frs e).length ∧ (frs e).length ≤ 5 := by
  have hl : ((pieces e).map pfr).length ≤ 3 := by rw [List.length_map]; exact pcs_length _ _ _ _
  unfold frs
  rw [List.length_append, List.length_cons]
  split
  · simp only [List.length_nil]; omega
  · simp only [List.length_cons, List.length_nil]; omega
/-- Every packet but one whose number is too great is made. -/
theorem makeF_zero {e : En} (h : EInv e) (hm : e.m ≤ 1073741823) : makeF e = 0 := by
  have hk0 := h.k0
  have hk1 := h.k1
  have hp : U.pairB e.m e.k = true := decide_eq_true ⟨by omega, by omega, hk0, hk1⟩
  have hl := frs_length (e := e)
  have hs := frs_size h
  have hn := pkN_size hp
  unfold makeF pkF
  rw [if_neg (by rw [hp]; decide), if_neg (by omega), if_neg (by omega), fsF_of (frs_good h), if_neg (by decide), if_neg (by unfold pkS; rw [ByteArray.size_append]; omega)]
theorem makeB_is {e : En} (h : makeF e = 0) : makeB e = pkS e.m e.k (frs e) := by unfold makeB; rw [if_pos h]
end Go.Proofs.YtdokgalidhmbbaaGreatDoor
namespace Go.Proofs.YtdokgalidhmbbaaGreatDoor
open Go.RowKit Go.Lib Go.Sort


/-- The one, the other one, and the letters on their way. -/
structure Tt where
  a : En
  b : En
  ls : List Lk.LR
def Tt.who (s : Tt) (w : Int) : En := if w = 0 then s.a else s.b
def Tt.set (s : Tt) (w : Int) (e : En) : Tt := if w = 0 then { s with a := e } else { s with b := e }
theorem end_cases {w : Int} (h : Lk.endB w = true) : w = 0 ∨ w = 1 := of_decide_eq_true h
def newT (n : Int) : Tt := ⟨newE n, newE n, []⟩
def tWriteF (s : Tt) (w : Int) (d : ByteArray) : Int := if Lk.endB w = true then writeF (s.who w) d else 1
def tWriteS (s : Tt) (w : Int) (d : ByteArray) : Tt := if Lk.endB w = true then s.set w (writeS (s.who w) d) else s
def tReadF (s : Tt) (w n : Int) : Int := if Lk.endB w = true then readF (s.who w) n else 1
def tReadB (s : Tt) (w n : Int) : ByteArray := if Lk.endB w = true then readB (s.who w) n else nilB
def tReadS (s : Tt) (w n : Int) : Tt := if Lk.endB w = true then s.set w (readS (s.who w) n) else s
def tSendF (s : Tt) (w : Int) : Int := if Lk.endB w = true then (if 40 ≤ s.ls.length then 4 else 0) else 1
def tSendS (s : Tt) (w : Int) : Tt := if tSendF s w = 0 then { s.set w (makeS (s.who w)) with ls := s.ls ++ [(1 - w, makeB (s.who w))] } else s
def tComeF (s : Tt) (i : Int) : Int := if Lk.onB s.ls i = true then (takeP (s.who (Lk.at' s.ls i.toNat).1) (Lk.at' s.ls i.toNat).2).1 else 1
def tComeS (s : Tt) (i : Int) : Tt := if Lk.onB s.ls i = true then { s.set (Lk.at' s.ls i.toNat).1 (takeP (s.who (Lk.at' s.ls i.toNat).1) (Lk.at' s.ls i.toNat).2).2 with ls := Lk.cut1 s.ls i.toNat } else s
def tLoseS (s : Tt) (i : Int) : Tt := { s with ls := Lk.giveS s.ls i }
def tTwiceS (s : Tt) (i : Int) : Tt := { s with ls := Lk.twS s.ls i }
theorem read_same (e : En) (m : Int) : (readS e m).m = e.m ∧ (readS e m).d = e.d := by unfold readS; split <;> exact ⟨rfl, rfl⟩
theorem make_size {e : En} (h : makeF e = 0) : (makeB e).size ≤ 200 := by
  rw [makeB_is h]
  exact (pkF_ok h).2.2.2.2
end Go.Proofs.YtdokgalidhmbbaaGreatDoor
