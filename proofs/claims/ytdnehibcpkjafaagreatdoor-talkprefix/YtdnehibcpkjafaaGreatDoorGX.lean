/- Every packet that Make makes is right; every Ack that is read can be taken. A packet is read as it was by who expects a number near its own, behind it too. No program stands here. Two Ends that talk: one writes, the other reads. What each knows of the other behind every packet. No program stands here. Two Ends that talk, packet by packet: what was written is read, in order. No program stands here. Two Ends that talk: what a packet that comes leaves, and one that comes back; how far they get. No program stands here. Two Ends that talk over a link that loses, doubles and turns round: what is there stays a beginning of what was written. No program stands here. Two Ends and the letters between them: what each call leaves; and when each packet comes at once, all comes. No program stands here. Two Ends and the letters between them, as a Talk has them: what each call answers, and leaves. No program stands here. A packet comes at once, and all is read, whatever was left unread before; rounds of such, both ways. No program stands here. -/
import Derived.Test.YtdnehibcpkjafaaGreatDoorGT
import Derived.Test.YtdnehibcpkjafaaGreatDoorGG
import Derived.Test.YtdnehibcpkjafaaGreatDoorGU
import Derived.Test.YtdnehibcpkjafaaGreatDoorLK
namespace Go.Proofs.YtdnehibcpkjafaaGreatDoor
open Go.RowKit Go.Lib Go.Sort
set_option linter.unusedVariables false
set_option linter.unusedSimpArgs false


open Sx (bat)
theorem rdL_good : ∀ (k : Nat) (s : ByteArray) (l : List F), s.size ≤ k → rdL s = some l → ∀ f ∈ l, fF f = 0 := by
  intro k
  induction k with
  | zero =>
    intro s l hs h f hf
    rw [rdL_nil (by omega)] at h
    cases h
    simp at hf
  | succ k ih =>
    intro s l hs h f hf
    by_cases h0 : s.size = 0
    · rw [rdL_nil h0] at h
      cases h
      simp at hf
    · cases h1 : rdF s with
      | none => rw [rdL_none h0 h1] at h; cases h
      | some fn =>
        obtain ⟨g, n⟩ := fn
        obtain ⟨g0, g1, g2⟩ := rdLA_good (L := []) h1
        rw [rdL_some h0 h1] at h
        cases h2 : rdL (s.extract n s.size) with
        | none => rw [h2] at h; cases h
        | some l' =>
          rw [h2] at h
          simp only [Option.map_some, Option.some.injEq] at h
          subst h
          rcases List.mem_cons.1 hf with rfl | hf
          · exact g0
          · exact ih (s.extract n s.size) l' (by rw [ByteArray.size_extract]; omega) h2 f hf
theorem rdP_ok {s : ByteArray} {next n : Int} {l : List F} (h : rdP s next = some (n, l)) : ∀ f ∈ l, fF f = 0 := by
  obtain ⟨c, _, h2⟩ := rdP_yes h
  unfold fin at h2
  cases h3 : rdL (s.extract c s.size) with
  | none => rw [h3] at h2; cases h2
  | some l' =>
    rw [h3] at h2
    simp only [Option.bind_some] at h2
    split at h2
    · cases h2
    · cases h2
      exact rdL_good _ _ _ (Nat.le_refl _) h3
theorem rdP_ack {s : ByteArray} {next n : Int} {l : List F} (h : rdP s next = some (n, l)) : ∀ f ∈ l, f.1 = 2 → AckC f.2.1 := by
  intro f hf h2
  have h0 := rdP_ok h f hf
  obtain ⟨k, ns, d⟩ := f
  simp only at h2
  subst h2
  obtain ⟨_, _, h3, _⟩ := frF_ok h0
  have hd : d = nilB := by
    have := h3 (show (2 : Int) ≠ 3 by decide)
    apply ByteArray.ext
    exact Array.eq_empty_of_size_eq_zero this
  subst hd
  exact ackC_all h0
theorem fS_size {f : F} (h : fF f = 0) : (fS f).size = 1 + (mid f.1 f.2.1 f.2.2).length + f.2.2.size := by
  have h1 := congrArg List.length (ints_frS (k := f.1) (ns := f.2.1) (d := f.2.2) h)
  rw [ints_length] at h1
  unfold fS
  rw [h1]
  unfold frB
  rw [List.cons_append, List.length_cons, List.length_append, ints_length]
  omega
theorem may_num {n : Int} (h0 : 0 ≤ n) (h1 : n ≤ 1073741823) : Mays [n] := fun z hz => by
  simp at hz
  subst hz
  exact ⟨h0, by omega⟩
theorem ack_good {cm : List R} (h : chk cm = 0) (h0 : cm ≠ []) : fF (2, unr cm, nilB) = 0 ∧ (fS (2, unr cm, nilB)).size ≤ 98 := by
  have hg := (chk_ok cm).1 h
  have hl : 1 ≤ cm.length := by
    cases cm with
    | nil => exact absurd rfl h0
    | cons a b => simp
  have hf : fF (2, unr cm, nilB) = 0 := frF_zero (show kindB 2 = true by decide) (by
    show cntB 2 (unr cm).length = true
    unfold cntB
    rw [if_pos rfl, unr_length]
    exact decide_eq_true ⟨by omega, by omega, by have := hg.1; omega⟩) (fun _ => rfl) (unr_mays hg) (show 0 ≤ 20 by omega) (fun _ => by rw [rgs_unr]; exact hg)
  refine ⟨hf, ?_⟩
  rw [fS_size hf]
  have e1 : mid 2 (unr cm) nilB = enc cm := by unfold mid; rw [if_pos rfl, rgs_unr]
  have := enc_length hg h0
  have := hg.1
  show 1 + (mid 2 (unr cm) nilB).length + nilB.size ≤ 98
  rw [e1]
  have : nilB.size = 0 := rfl
  omega
theorem credit_good {n : Int} (h0 : 0 ≤ n) (h1 : n ≤ 1073741823) : fF (4, [n], nilB) = 0 ∧ (fS (4, [n], nilB)).size ≤ 5 := by
  have hf : fF (4, [n], nilB) = 0 := frF_zero (show kindB 4 = true by decide) (show cntB 4 1 = true by decide) (fun _ => rfl) (may_num h0 h1) (show 0 ≤ 20 by omega) (fun e => by cases e)
  refine ⟨hf, ?_⟩
  rw [fS_size hf]
  show 1 + ([n].flatMap V.nums).length + 0 ≤ 5
  have := flat_le [n]
  simp only [List.length_cons, List.length_nil] at this
  omega
theorem piece_good {p : Nat × ByteArray} (h0 : p.1 ≤ 60) (h1 : p.2.size ≤ 20) : fF (pfr p) = 0 ∧ (fS (pfr p)).size ≤ 29 := by
  have hf : fF (pfr p) = 0 := frF_zero (by show kindB 3 = true; decide) (by show cntB 3 1 = true; decide) (fun e => absurd rfl e) (may_num (by omega) (by omega)) h1 (fun e => by cases e)
  refine ⟨hf, ?_⟩
  rw [fS_size hf]
  show 1 + (([(p.1 : Int)] ++ [(p.2.size : Int)]).flatMap V.nums).length + p.2.size ≤ 29
  have := flat_le ([(p.1 : Int)] ++ [(p.2.size : Int)])
  simp only [List.length_append, List.length_cons, List.length_nil] at this
  omega
theorem fsF_of : ∀ {l : List F}, (∀ f ∈ l, fF f = 0) → fsF l = 0 := fun {l} h => fsF_ok l fun j hj => h _ (fat_mem hj)
theorem fsS_le : ∀ (l : List F) (b : Nat), (∀ f ∈ l, (fS f).size ≤ b) → (fsS l).size ≤ b * l.length
  | [], b, _ => Nat.zero_le _
  | f :: l, b, h => by
    have h1 := fsS_le l b fun g hg => h g (List.mem_cons_of_mem _ hg)
    have h2 := h f List.mem_cons_self
    simp only [fsS, ByteArray.size_append, List.length_cons, Nat.mul_add, Nat.mul_one]
    omega
theorem pkN_size {n k : Int} (h : U.pairB n k = true) : (pkN n k).size ≤ 5 := by
  have h1 := congrArg List.length (ints_pkN n k)
  rw [ints_length] at h1
  rw [h1, List.length_cons]
  unfold numB
  split
  · simp
  · split
    · simp
    · split <;> simp
theorem pieces_good {e : En} (h : EInv e) : ∀ f ∈ (pieces e).map pfr, fF f = 0 ∧ (fS f).size ≤ 29 := by
  intro f hf
  obtain ⟨p, hp, rfl⟩ := List.mem_map.1 hf
  have := pcs_each e.d (en e) (en_le e) 3 e.t p hp
  have := h.en60
  exact piece_good (by omega) (by omega)
theorem frs_good {e : En} (h : EInv e) : ∀ f ∈ frs e, fF f = 0 := by
  intro f hf
  unfold frs at hf
  rcases List.mem_append.1 hf with hf | hf
  · split at hf
    · simp at hf
    · rename_i h0
      simp at hf
      subst hf
      exact (ack_good h.cm h0).1
  · rcases List.mem_cons.1 hf with rfl | hf
    · have := h.c.l1
      have := h.c.w1
      exact (credit_good (by omega) h.c.l2).1
    · exact (pieces_good h f hf).1
theorem frs_size {e : En} (h : EInv e) : (fsS (frs e)).size ≤ 190 := by
  unfold frs
  rw [fsS_append]
  have hp := fsS_le ((pieces e).map pfr) 29 fun f hf => (pieces_good h f hf).2
  have hl : ((pieces e).map pfr).length ≤ 3 := by rw [List.length_map]; exact pcs_length _ _ _ _
  have h4 := h.c.l1
  have h5 := h.c.w1
  have hc := (credit_good (n := e.c.lim) (by omega) h.c.l2).2
  have ha : (fsS (if e.cm = [] then [] else [(2, unr e.cm, nilB)])).size ≤ 98 := by
    split
    · exact Nat.zero_le _
    · rename_i h0
      rw [fsS_one]
      exact (ack_good h.cm h0).2
  simp only [ByteArray.size_append, fsS]
  omega
theorem frs_length {e : En} : 1 ≤ (frs e).length ∧ (frs e).length ≤ 5 := by
  have hl : ((pieces e).map pfr).length ≤ 3 := by rw [List.length_map]; exact pcs_length _ _ _ _
  unfold frs
  rw [List.length_append, List.length_cons]
  split
  · simp only [List.length_nil]; omega
  · simp only [List.length_cons, List.length_nil]; omega
/-- Every packet but one whose number is too great is made. -/
theorem makeF_zero {e : En} (h : EInv e) (hm : e.m ≤ 1073741823) : makeF e = 0 := by
  have hk0 := h.k0
  have hk1 := h.k1
  have hp : U.pairB e.m e.k = true := decide_eq_true ⟨by omega, by omega, hk0, hk1⟩
  have hl := frs_length (e := e)
  have hs := frs_size h
  have hn := pkN_size hp
  unfold makeF pkF
  rw [if_neg (by rw [hp]; decide), if_neg (by omega), if_neg (by omega), fsF_of (frs_good h), if_neg (by decide), if_neg (by unfold pkS; rw [ByteArray.size_append]; omega)]
theorem makeB_is {e : En} (h : makeF e = 0) : makeB e = pkS e.m e.k (frs e) := by unfold makeB; rw [if_pos h]
theorem makeS_is {e : En} (h : makeF e = 0) : makeS e = { e with ls := keepL e.ls e.m (pk e).1 (pk e).2, m := e.m + 1 } := by unfold makeS; rw [if_pos h]
theorem makeB_size {e : En} (h : makeF e = 0) : (makeB e).size ≤ 200 := by rw [makeB_is h]; exact (pkF_ok h).2.2.2.2
/-- A packet that was made is taken by who knows as much. -/
theorem takeP_made {x y : En} (hx : makeF x = 0) (hy : EInv y) (h0 : x.k < nextN y) (h1 : nextN y ≤ x.m) : takeP y (makeB x) = come y x.m (frs x) := by
  have hr := rdP_back (n := x.m) (k := x.k) (more := nextN y - 1) (l := frs x) hx (by omega) (by omega)
  rw [show nextN y - 1 + 1 = nextN y by omega, ← makeB_is hx] at hr
  have hm := makeF_m hx
  have h2 : 0 ≤ nextN y := by
    unfold nextN
    cases hc : y.cm with
    | nil => simp
    | cons r rs =>
      have hg := (chk_ok y.cm).1 hy.cm
      rw [hc] at hg
      have := hg.2.1 r List.mem_cons_self
      have := norm_le hg.2.2 r List.mem_cons_self
      simp only
      omega
  exact takeP_yes (opF_zero (decide_eq_true ⟨h2, by omega⟩) (makeB_size hx) hr) hr
end Go.Proofs.YtdnehibcpkjafaaGreatDoor

namespace Go.Proofs.YtdnehibcpkjafaaGreatDoor
open Go.RowKit Go.Lib Go.Sort
set_option linter.unusedVariables false
set_option linter.unusedSimpArgs false


/-- The number that is nearest to what is expected is the packet's own, if that is nearer than half a round. -/
theorem near_at {n b next : Int} (hb : U.lenB b = true) (h0 : 0 ≤ n) (h1 : n ≤ 1073741823) (hnx : U.mayB next = true) (hd : 2 * (n - next) < U.rnd b) (hd2 : 2 * (next - n) < U.rnd b) : U.wholeB (n % U.rnd b) b next = true ∧ U.near (n % U.rnd b) (U.rnd b) next = n := by
  have hr := U.rnd_bd b
  have hw : U.wholeB (n % U.rnd b) b next = true := by
    have e1 := Int.emod_nonneg n (show U.rnd b ≠ 0 by omega)
    have e2 := Int.emod_lt_of_pos n (show 0 < U.rnd b by omega)
    have e3 : n % U.rnd b ≤ n := by rcases U.lenB_rnd hb with e | e | e | e <;> rw [e] <;> omega
    rw [U.wholeB_iff]
    exact ⟨⟨⟨hnx, hb⟩, (U.mayB_iff _).2 ⟨e1, by omega⟩⟩, e2⟩
  refine ⟨hw, ?_⟩
  obtain ⟨⟨a0, a1⟩, a2, a3, a4⟩ := U.near_spec _ _ _ hw
  generalize U.near (n % U.rnd b) (U.rnd b) next = y at *
  unfold U.far at a3 a4
  rcases U.lenB_rnd hb with e | e | e | e
  all_goals (rw [e] at a2 a3 a4 hd hd2; (repeat' split at a3) <;> (repeat' split at a4) <;> omega)
theorem rdP_at {n k next : Int} {l : List F} (h : pkF n k l = 0) (hnx : U.mayB next = true) (hd : 2 * (n - next) < U.rnd (U.need n k)) (hd2 : 2 * (next - n) < U.rnd (U.need n k)) : rdP (pkS n k l) next = some (n, l) := by
  obtain ⟨hp, hl1, hl2, hf, hs⟩ := pkF_ok h
  obtain ⟨n0, n1, _⟩ := U.pairB_yes hp
  have hlen := U.need_len n k
  obtain ⟨hw, hn⟩ := near_at hlen n0 n1 hnx hd hd2
  have hnl := numB_length (n := n) hlen
  have hi : V.ints (pkS n k l) = U.need n k :: (numB n (U.need n k) ++ V.ints (fsS l)) := by
    unfold pkS
    rw [V.ints_app, ints_pkN]; rfl
  have ht : (numB n (U.need n k) ++ V.ints (fsS l)).take (U.need n k).toNat = numB n (U.need n k) := by
    rw [show (U.need n k).toNat = (numB n (U.need n k)).length by omega, List.take_left]
  have e1 : rdN (pkS n k l) next = some (n, 1 + (U.need n k).toNat) := by
    unfold rdN
    rw [hi]
    simp only [ht, big_numB n0 hlen]
    rw [if_neg (fun hh => by
      rcases hh with e | e
      · rw [hlen] at e; cases e
      · rw [List.length_append] at e; omega), if_neg (by rw [hw]; decide), hn]
  have e2 : (pkS n k l).extract (1 + (U.need n k).toNat) (pkS n k l).size = fsS l := by
    have hsz : (pkS n k l).size = 1 + (U.need n k).toNat + (fsS l).size := by
      rw [← ints_length, hi, List.length_cons, List.length_append, ints_length]; omega
    apply ints_inj
    rw [ints_drop _ _ (by omega), hi, show 1 + (U.need n k).toNat = (numB n (U.need n k)).length + 1 by omega, List.drop_succ_cons, List.drop_left]
  unfold rdP
  rw [e1, Option.bind_some, e2, rdL_back l hf, fin_some hl1 hl2]
  rfl
theorem ext_grow {d b : ByteArray} {f u : Nat} (h : u ≤ d.size) : (d ++ b).extract f u = d.extract f u := by
  apply ints_inj
  rw [ints_extract, ints_extract, V.ints_app]
  by_cases hf : f ≤ u
  · rw [List.drop_append_of_le_length (by rw [ints_length]; omega), List.take_append_of_le_length (by rw [List.length_drop, ints_length]; omega)]
  · rw [show u - f = 0 by omega, List.take_zero, List.take_zero]
theorem pcs_grow {d b : ByteArray} {n : Nat} (h : n ≤ d.size) : ∀ (k a : Nat), pcs (d ++ b) n k a = pcs d n k a
  | 0, _ => rfl
  | k + 1, a => by
    simp only [pcs]
    rw [pcs_grow h k, ext_grow (by omega)]
theorem pieces_nil {e : En} (h : en e ≤ e.t) : pieces e = [] := by
  unfold pieces
  simp only [pcs]
  rw [if_neg (by omega)]
theorem pk_pieces (e : En) : pieces e = pcs e.d (pk e).2 3 (pk e).1 := by
  unfold pk
  split
  · rfl
  · rename_i h
    rw [pieces_nil (by omega)]
    rfl
end Go.Proofs.YtdnehibcpkjafaaGreatDoor

namespace Go.Proofs.YtdnehibcpkjafaaGreatDoor
open Go.RowKit Go.Lib Go.Sort
set_option linter.unusedVariables false
set_option linter.unusedSimpArgs false


open Sx (bat)
theorem runF_append : ∀ (a b : List F) (e : En), (runF a e).1 = 0 → runF (a ++ b) e = runF b (runF a e).2
  | [], b, e, _ => rfl
  | f :: a, b, e, h => by
    simp only [List.cons_append, runF] at h ⊢
    by_cases h0 : (stpE e f).1 ≠ 0
    · rw [if_pos h0] at h
      exact absurd h h0
    · rw [if_neg h0] at h ⊢
      rw [if_neg h0]
      exact runF_append a b _ h
theorem runF_one {f : F} {l : List F} {e e' : En} (h : stpE e f = (0, e')) : runF (f :: l) e = runF l e' := by
  simp only [runF, h]
  rw [if_neg (by simp)]
theorem mem_next {e : En} (h : EInv e) {p : Int} (hp : Mem e.cm p) : p < nextN e := by
  obtain ⟨_, _, hn⟩ := (chk_ok e.cm).1 h.cm
  unfold nextN
  cases hc : e.cm with
  | nil => rw [hc] at hp; exact absurd hp (mem_nil p)
  | cons r rs =>
    rw [hc] at hp hn
    obtain ⟨s, hs, h1, h2⟩ := hp
    rcases List.mem_cons.1 hs with rfl | hs
    · simp only; omega
    · have := hn.2.1 s hs
      have := hn.1
      simp only; omega
theorem next_pos {e : En} (h : EInv e) : 0 ≤ nextN e := by
  obtain ⟨_, h2, hn⟩ := (chk_ok e.cm).1 h.cm
  unfold nextN
  cases hc : e.cm with
  | nil => simp
  | cons r rs =>
    rw [hc] at hn h2
    have := h2 r List.mem_cons_self
    have := hn.1
    simp only; omega
def abv (m : Int) : List R → List R
  | [] => [(m, m)]
  | r :: rs => if r.2 + 1 = m then (r.1, m) :: rs else (m, m) :: r :: rs
/-- What a number above all others makes of those that came. -/
theorem addL_new {cm : List R} {m : Int} (h : chk cm = 0) : (∀ r rs, cm = r :: rs → r.2 < m) → addL cm m = abv m cm := by
  intro hm
  obtain ⟨_, _, hn⟩ := (chk_ok cm).1 h
  cases cm with
  | nil => rfl
  | cons r rs =>
    have h1 := hm r rs rfl
    have h2 := hn.1
    have h3 := hn.2.1
    simp only [addL, withF, abv]
    rw [if_neg (by omega)]
    by_cases h4 : r.2 + 1 = m
    · rw [if_neg (by omega), if_pos h4, if_pos (by omega), if_neg (by omega)]
      cases rs with
      | nil => rfl
      | cons s ss =>
        have h5 := h3 s List.mem_cons_self
        rw [withF, if_neg (by have := hn.2.2.1; simp only; omega), if_pos (by simp only; omega), if_neg (by decide), with_true ss (r.1, m) (by simp only; omega) (fun u hu => by
          have := hn.2.2.2.1 u hu
          have := hn.2.2.1
          refine ⟨norm_le hn.2.2.2.2 u hu, ?_⟩
          simp only; omega)]
    · rw [if_pos (by omega), if_neg h4, if_neg (by decide), with_true rs (m, m) (by simp) (fun u hu => by
        have := h3 u hu
        exact ⟨norm_le hn.2.2 u hu, by simp only; omega⟩)]
theorem add_next {e : En} {m : Nat} (h : EInv e) (hm : nextN e ≤ m) : nextN { e with cm := addL e.cm m } = m + 1 ∧ (addL e.cm m).length ≤ e.cm.length + 1 ∧ (nextN e = m → 1 ≤ e.cm.length → (addL e.cm m).length = e.cm.length) := by
  have ha := addL_new (m := (m : Int)) h.cm (fun r rs hc => by
    unfold nextN at hm
    rw [hc] at hm
    simp only at hm
    omega)
  unfold nextN at hm ⊢
  simp only
  rw [ha]
  cases hc : e.cm with
  | nil => simp [abv]
  | cons r rs =>
    simp only [abv]
    by_cases h4 : r.2 + 1 = (m : Int)
    · rw [if_pos h4]
      simp
    · rw [if_neg h4]
      simp [h4]
/-- What was kept ahead is kept still. -/
theorem keepL_old {ls : List Ld} {m a b : Nat} (hl : ∀ l, ls.getLast? = some l → l.hi + 1 = m) {l : Ld} (h : l ∈ ls) : ∃ l' ∈ keepL ls m a b, l'.lo = l.lo ∧ l.hi ≤ l'.hi ∧ l'.b = l.b := by
  unfold keepL
  split
  · rename_i h0
    rw [List.getLast?_eq_none_iff] at h0
    subst h0
    simp at h
  · rename_i x h0
    have hx := hl x h0
    split
    · rename_i h1
      obtain ⟨front, rfl⟩ : ∃ front, ls = front ++ [x] := by
        have := List.getLast?_eq_some_iff.1 h0
        exact this
      rw [List.dropLast_concat]
      rcases List.mem_append.1 h with h | h
      · exact ⟨l, List.mem_append_left _ h, rfl, Nat.le_refl _, rfl⟩
      · simp at h
        subst h
        exact ⟨⟨l.lo, m, a, b⟩, by simp, rfl, by simp only; omega, h1.2.symm⟩
    · exact ⟨l, List.mem_append_left _ h, rfl, Nat.le_refl _, rfl⟩
theorem keepL_last {ls : List Ld} {m a b : Nat} : ∃ l, (keepL ls m a b).getLast? = some l ∧ l.hi = m ∧ l.b = b := by
  unfold keepL
  split
  · exact ⟨_, rfl, rfl, rfl⟩
  · split
    · exact ⟨_, List.getLast?_concat .., rfl, rfl⟩
    · exact ⟨_, List.getLast?_concat .., rfl, rfl⟩
theorem keepL_lo {ls : List Ld} {m a b : Nat} (hh : ∀ l ∈ ls, l.lo ≤ l.hi) (hl : ∀ l, ls.getLast? = some l → l.hi + 1 = m) : ∀ l ∈ keepL ls m a b, l.lo ≤ l.hi := by
  intro l h
  unfold keepL at h
  split at h
  · simp at h; subst h; exact Nat.le_refl _
  · rename_i x h0
    have hx := hl x h0
    have hm : x ∈ ls := by obtain ⟨front, rfl⟩ := List.getLast?_eq_some_iff.1 h0; simp
    split at h
    · rcases List.mem_append.1 h with h | h
      · exact hh l (List.dropLast_subset _ h)
      · simp at h; subst h; have := hh x hm; simp only; omega
    · rcases List.mem_append.1 h with h | h
      · exact hh l h
      · simp at h; subst h; exact Nat.le_refl _
/-- A load is an old one, or the last one with one packet more, or this packet's alone. -/
theorem keepL_cases {ls : List Ld} {m a b : Nat} {l : Ld} (h : l ∈ keepL ls m a b) : l ∈ ls ∨ (l.hi = m ∧ l.b = b ∧ (l.lo = m ∨ ∃ l0, ls.getLast? = some l0 ∧ l0.lo = l.lo ∧ l0.b = b)) := by
  unfold keepL at h
  split at h
  · simp at h; subst h; exact .inr ⟨rfl, rfl, .inl rfl⟩
  · rename_i x h0
    split at h
    · rename_i h1
      rcases List.mem_append.1 h with h | h
      · exact .inl (List.dropLast_subset _ h)
      · simp at h; subst h; exact .inr ⟨rfl, rfl, .inr ⟨x, h0, rfl, h1.2⟩⟩
    · rcases List.mem_append.1 h with h | h
      · exact .inl h
      · simp at h; subst h; exact .inr ⟨rfl, rfl, .inl rfl⟩
theorem last_mem {ls : List Ld} {l : Ld} (h : ls.getLast? = some l) : l ∈ ls := by obtain ⟨front, rfl⟩ := List.getLast?_eq_some_iff.1 h; simp
theorem tell1_up {ls : List Ld} {r : R} {b : Nat} (hb : ∀ l ∈ ls, ¬ ((l.hi : Int) < r.1 ∨ r.2 < (l.lo : Int)) → l.b ≤ b) : ∀ t, t ≤ b → t ≤ tell1 ls t r ∧ tell1 ls t r ≤ b := by
  unfold tell1
  induction ls with
  | nil => intro t h; exact ⟨Nat.le_refl _, h⟩
  | cons y ls ih =>
    intro t h
    simp only [List.foldl_cons]
    have ih' := ih fun l hl => hb l (List.mem_cons_of_mem _ hl)
    split
    · exact ih' t h
    · rename_i h0
      have := hb y List.mem_cons_self h0
      have := ih' (max t y.b) (by omega)
      omega
theorem tells_up {ls : List Ld} {b : Nat} : ∀ (rs : List R), (∀ l ∈ ls, ∀ r ∈ rs, ¬ ((l.hi : Int) < r.1 ∨ r.2 < (l.lo : Int)) → l.b ≤ b) → ∀ t, t ≤ b → t ≤ tells ls t rs ∧ tells ls t rs ≤ b := by
  intro rs
  unfold tells
  induction rs with
  | nil => intro _ t h; exact ⟨Nat.le_refl _, h⟩
  | cons r rs ih =>
    intro hb t h
    simp only [List.foldl_cons]
    have h1 := tell1_up (fun l hl => hb l hl r List.mem_cons_self) t h
    have h2 := ih (fun l hl s hs => hb l hl s (List.mem_cons_of_mem _ hs)) (tell1 ls t r) h1.2
    omega
end Go.Proofs.YtdnehibcpkjafaaGreatDoor

namespace Go.Proofs.YtdnehibcpkjafaaGreatDoor
open Go.RowKit Go.Lib Go.Sort
set_option linter.unusedVariables false
set_option linter.unusedSimpArgs false


open Sx (bat)
/-- x writes d, y reads: r bytes came, of these q were read. -/
structure Talk (n : Int) (d : ByteArray) (x y : En) (r q : Nat) : Prop where
  xi : EInv x
  yi : EInv y
  xd : x.d = d
  yd : y.d = nilB
  tr : x.t ≤ r
  qr : q ≤ r
  rd : r ≤ d.size
  lr : x.l ≤ y.c.lim
  yb : ∀ i, i < r → y.s.byt i = bat d i
  yc : ∀ i, y.s.cm i = decide (i < r)
  yk : y.s.tk = q
  cr : y.c.came = r
  ce : y.c.read = q
  cw : y.c.win = n
  ack : ∀ l ∈ x.ls, ∀ p : Int, (l.lo : Int) ≤ p → p ≤ l.hi → Mem y.cm p → l.b ≤ r
  top : r = 0 ∨ ∃ l ∈ x.ls, ∃ p : Int, (l.lo : Int) ≤ p ∧ p ≤ l.hi ∧ Mem y.cm p ∧ l.b = r
  lst : ∀ l, x.ls.getLast? = some l → l.hi + 1 = x.m
  lh : ∀ l ∈ x.ls, l.lo ≤ l.hi
  ym : nextN y ≤ x.m
  xm : nextN x ≤ y.m
  yn : x.k < nextN y
  xn : y.k < nextN x
  go : r = d.size ∨ (y.c.lim = q + n ∧ ((x.l = q ∧ r = q) ∨ (x.l = q + n ∧ (r = q ∨ (r : Int) = q + n))))
theorem Talk.new {n : Int} {d : ByteArray} (hn : Cx.winB n = true) (hd : d.size ≤ 60) : Talk n d (writeS (newE n) d) (newE n) 0 0 := by
  have h0 : ¬ 60 < (newE n).d.size + d.size := by
    have : (newE n).d.size = 0 := rfl
    omega
  have hw : writeS (newE n) d = { newE n with d := d } := by
    unfold writeS
    rw [if_neg h0]
    have : (newE n).d ++ d = d := nil_ba d
    rw [this]
  have hi := (EInv.new hn).write d
  rw [hw] at hi ⊢
  refine ⟨hi, EInv.new hn, rfl, rfl, Nat.le_refl _, Nat.le_refl _, Nat.zero_le _, Int.le_refl _, fun i hi => by omega, fun i => by simp [newE, Sx.newS], rfl, rfl, rfl, rfl, fun l hl => by simp [newE] at hl, .inl rfl, fun l hl => by simp [newE] at hl, fun l hl => by simp [newE] at hl, by simp [nextN, newE], by simp [nextN, newE], by simp [nextN, newE], by simp [nextN, newE], .inr ⟨by simp [newE, Cx.newS], .inr ⟨by simp [newE], .inl rfl⟩⟩⟩
/-- A packet of x that is lost. -/
theorem Talk.lose {n : Int} {d : ByteArray} {x y : En} {r q : Nat} (h : Talk n d x y r q) (hm : makeF x = 0) : Talk n d (makeS x) y r q := by
  have hi := h.xi.make
  rw [makeS_is hm] at hi ⊢
  refine ⟨hi, h.yi, h.xd, h.yd, h.tr, h.qr, h.rd, h.lr, h.yb, h.yc, h.yk, h.cr, h.ce, h.cw, fun l hl p p1 p2 hp => ?_, ?_, fun l hl => ?_, keepL_lo h.lh h.lst, by have := h.ym; simp only; omega, h.xm, h.yn, h.xn, h.go⟩
  · rcases keepL_cases hl with hl | ⟨e1, e2, e3⟩
    · exact h.ack l hl p p1 p2 hp
    · have h1 := mem_next h.yi hp
      have h2 := h.ym
      rcases e3 with e3 | ⟨l0, e4, e5, e6⟩
      · rw [e3] at p1; omega
      · have h3 := h.lst l0 e4
        have := h.ack l0 (last_mem e4) p (by rw [e5]; exact p1) (by omega) hp
        rw [e2, ← e6]
        exact this
  · rcases h.top with h0 | ⟨l, hl, p, p1, p2, hp, e⟩
    · exact .inl h0
    · obtain ⟨l', h1, h2, h3, h4⟩ := keepL_old (a := (pk x).1) (b := (pk x).2) h.lst hl
      exact .inr ⟨l', h1, p, by rw [h2]; exact p1, by omega, hp, by rw [h4]; exact e⟩
  · obtain ⟨l0, e1, e2, _⟩ := keepL_last (ls := x.ls) (m := x.m) (a := (pk x).1) (b := (pk x).2)
    simp only at hl
    rw [e1] at hl
    cases hl
    simp only
    omega
theorem rdy_is {s : Sx.St} {r q : Nat} (hc : ∀ i, s.cm i = decide (i < r)) (hk : s.tk = q) (hq : q ≤ r) (hr : r ≤ 60) : Sx.rdy s = r - q := by
  unfold Sx.rdy
  rw [hk]
  by_cases h : r = 60
  · rw [Sx.run_all _ _ _ (fun i hi => by rw [hc]; exact decide_eq_true (by omega)), h]
  · exact Sx.run_stop _ _ _ _ (fun i hi => by rw [hc]; exact decide_eq_true (by omega)) (by omega) (by rw [hc]; exact decide_eq_false (by omega))
/-- y reads all that came. -/
theorem Talk.read {n : Int} {d : ByteArray} {x y : En} {r q : Nat} (h : Talk n d x y r q) : readF y 60 = 0 ∧ readB y 60 = d.extract q r ∧ Talk n d x (readS y 60) r r := by
  have h60 : d.size ≤ 60 := by have := h.xi.d60; rw [h.xd] at this; exact this
  have hr := rdy_is h.yc h.yk h.qr (Nat.le_trans h.rd h60)
  have hrd := h.rd
  have hqr := h.qr
  have ht : Sx.takeN y.s 60 = r - q := by
    unfold Sx.takeN
    rw [hr, show (60 : Int).toNat = 60 from rfl]
    omega
  have c1 := h.yi.c
  have hcr := h.cr
  have hce := h.ce
  have hcw := h.cw
  have w1 := c1.w1
  have w2 := c1.w2
  have l2 := c1.l2
  have l1 := c1.l1
  have hcast : ((r - q : Nat) : Int) = (r : Int) - (q : Int) := by omega
  have hmore : 0 ≤ Cx.moreL y.c ((r - q : Nat) : Int) ∧ Cx.moreL y.c ((r - q : Nat) : Int) ≤ 1073741823 ∧ y.c.lim ≤ Cx.moreL y.c ((r - q : Nat) : Int) := by
    unfold Cx.moreL
    split <;> omega
  have hg : Cx.getF y.c ((r - q : Nat) : Int) = 0 := Cx.getF_yes (by omega) (by rw [hcr, hce]; omega) (decide_eq_true ⟨hmore.1, hmore.2.1⟩)
  have hf : readF y 60 = 0 := by
    unfold readF
    rw [if_neg (by decide), ht]
    exact hg
  have hs : Cx.getS y.c ((r - q : Nat) : Int) = ⟨y.c.win, Cx.moreL y.c ((r - q : Nat) : Int), y.c.came, y.c.read + ((r - q : Nat) : Int)⟩ := by
    unfold Cx.getS
    rw [if_pos hg]
  have hi := h.yi.read 60
  refine ⟨hf, ?_, ?_⟩
  · unfold readB
    rw [if_pos hf, ← str_part (a := q) (b := r) (d := d) hrd]
    unfold Sx.takeL
    rw [ht, h.yk]
    congr 1
    apply List.map_congr_left
    intro i hi
    have := List.mem_range.1 hi
    exact h.yb (q + i) (by omega)
  · have hS : readS y 60 = { y with s := Sx.takeS y.s 60, c := Cx.getS y.c ((r - q : Nat) : Int) } := by
      unfold readS
      rw [if_pos hf, ht]
    rw [hS] at hi ⊢
    rw [hs] at hi ⊢
    refine ⟨h.xi, hi, h.xd, h.yd, h.tr, Nat.le_refl _, h.rd, ?_, h.yb, h.yc, ?_, hcr, ?_, hcw, h.ack, h.top, h.lst, h.lh, h.ym, h.xm, h.yn, h.xn, ?_⟩
    · have := h.lr; simp only; omega
    · show y.s.tk + Sx.takeN y.s 60 = r
      rw [ht, h.yk]; omega
    · simp only; omega
    · rcases h.go with g | ⟨g1, g2⟩
      · exact .inl g
      · right
        unfold Cx.moreL
        rcases g2 with ⟨g3, g4⟩ | ⟨g3, g4 | g4⟩
        · rw [if_neg (by omega)]
          exact ⟨by simp only; omega, .inl ⟨by omega, rfl⟩⟩
        · rw [if_neg (by omega)]
          exact ⟨by simp only; omega, .inr ⟨by omega, .inl rfl⟩⟩
        · rw [if_pos (by omega)]
          exact ⟨by simp only; omega, .inl ⟨by omega, rfl⟩⟩
theorem bat_part {d : ByteArray} {a b i : Nat} (h : i < b - a) (hb : b ≤ d.size) : bat (d.extract a b) i = bat d (a + i) := by
  rw [bat_ints, bat_ints, ints_extract, List.getElem?_take_of_lt h, List.getElem?_drop]
/-- The bytes of d up to r came. -/
structure Rcv (d : ByteArray) (s : Sx.St) (c : Cx.St) (r : Nat) : Prop where
  yb : ∀ i, i < r → s.byt i = bat d i
  yc : ∀ i, s.cm i = decide (i < r)
  cr : c.came = r
/-- The pieces from a on are taken. -/
theorem run_pcs {d : ByteArray} {b : Nat} (hb : b ≤ d.size) (h60 : d.size ≤ 60) : ∀ (k a r : Nat) (y : En), a ≤ r → (b : Int) ≤ y.c.lim → b ≤ a + 20 * k → Rcv d y.s y.c r →
    ∃ s c, runF ((pcs d b k a).map pfr) y = (0, { y with s := s, c := c }) ∧ Rcv d s c (max r b) ∧ s.tk = y.s.tk ∧ c.lim = y.c.lim ∧ c.win = y.c.win ∧ c.read = y.c.read := by
  intro k
  induction k with
  | zero =>
    intro a r y h1 h2 h3 hR
    have e : max r b = r := by omega
    rw [e]
    exact ⟨y.s, y.c, rfl, hR, rfl, rfl, rfl, rfl⟩
  | succ k ih =>
    intro a r y h1 h2 h3 hR
    simp only [pcs]
    by_cases hab : a < b
    · rw [if_pos hab, List.map_cons]
      have hsz : (d.extract a (min b (a + 20))).size = min b (a + 20) - a := by rw [ByteArray.size_extract]; omega
      have hT : Cx.takeF y.c ((a : Int) + (d.extract a (min b (a + 20))).size) = 0 := Cx.takeF_yes (decide_eq_true ⟨by omega, by omega⟩) (by omega)
      have hP : Sx.putF y.s (a : Int) (d.extract a (min b (a + 20))) = 0 := by
        refine Sx.putF_yes (decide_eq_true ⟨by omega, by omega⟩) (by omega) (Sx.clB_no fun i hi => ?_)
        unfold Sx.cl
        rw [show ((a : Int)).toNat = a from rfl, hR.yc]
        by_cases hir : a + i < r
        · rw [hR.yb _ hir, bat_part (by omega) (by omega)]
          simp
        · rw [decide_eq_false hir]
          rfl
      have hstp : stpE y (pfr (a, d.extract a (min b (a + 20)))) = (0, { y with s := Sx.upS y.s a (d.extract a (min b (a + 20))) (d.extract a (min b (a + 20))).size, c := Cx.upS y.c ((a : Int) + (d.extract a (min b (a + 20))).size) }) := by
        show stpE y (3, [(a : Int)], d.extract a (min b (a + 20))) = _
        unfold stpE
        rw [if_neg (show ¬ (3 : Int) = 2 by decide), if_neg (show ¬ (3 : Int) = 4 by decide), if_pos rfl]
        have ef : first [(a : Int)] = (a : Int) := rfl
        simp only [ef]
        rw [if_neg (by rw [hT]; decide), hP, Cx.takeS_yes hT, Sx.putS_yes hP]
        rfl
      rw [runF_one hstp]
      have hR' : Rcv d (Sx.upS y.s a (d.extract a (min b (a + 20))) (d.extract a (min b (a + 20))).size) (Cx.upS y.c ((a : Int) + (d.extract a (min b (a + 20))).size)) (max r (min b (a + 20))) := by
        rw [hsz]
        refine ⟨fun i hi => ?_, fun i => ?_, ?_⟩
        · simp only [Sx.upS]
          split
          · rename_i h4
            rw [bat_part (by omega) (by omega)]
            congr 1
            omega
          · rename_i h4
            exact hR.yb i (by omega)
        · simp only [Sx.upS]
          rw [hR.yc]
          by_cases h4 : a ≤ i ∧ i < a + (min b (a + 20) - a)
          · rw [decide_eq_true h4, Bool.true_or, decide_eq_true (show i < max r (min b (a + 20)) by omega)]
          · rw [decide_eq_false h4, Bool.false_or]
            by_cases h5 : i < r
            · rw [decide_eq_true h5, decide_eq_true (by omega)]
            · rw [decide_eq_false h5, decide_eq_false (by omega)]
        · simp only [Cx.upS]
          have := hR.cr
          split <;> omega
      obtain ⟨s, c, e1, e2, e3, e4, e5, e6⟩ := ih (min b (a + 20)) (max r (min b (a + 20))) { y with s := Sx.upS y.s a (d.extract a (min b (a + 20))) (d.extract a (min b (a + 20))).size, c := Cx.upS y.c ((a : Int) + (d.extract a (min b (a + 20))).size) } (by omega) h2 (by omega) hR'
      have e7 : max (max r (min b (a + 20))) b = max r b := by omega
      rw [e7] at e2
      exact ⟨s, c, e1, e2, e3, e4, e5, e6⟩
    · rw [if_neg hab]
      have e : max r b = r := by omega
      rw [e]
      exact ⟨y.s, y.c, rfl, hR, rfl, rfl, rfl, rfl⟩
theorem first_unr {r : R} {rs : List R} : first (unr (r :: rs)) = r.2 := rfl
/-- What an Ack and the Credit of who sends them leave. -/
theorem run_head {e y : En} (hy : nextN e ≤ y.m) : ∃ k t, runF ((if e.cm = [] then [] else [(2, unr e.cm, nilB)]) ++ [(4, [e.c.lim], nilB)]) y = (0, { y with k := k, t := t, l := max y.l e.c.lim }) ∧ ((e.cm = [] ∧ k = y.k ∧ t = y.t) ∨ (e.cm ≠ [] ∧ k = max y.k (nextN e - 1) ∧ t = tells y.ls y.t e.cm)) := by
  have h4 : ∀ z : En, stpE z (4, [e.c.lim], nilB) = (0, { z with l := max z.l e.c.lim }) := fun z => rfl
  by_cases h0 : e.cm = []
  · rw [if_pos h0, List.nil_append, runF_one (h4 y)]
    exact ⟨y.k, y.t, rfl, .inl ⟨h0, rfl, rfl⟩⟩
  · rw [if_neg h0]
    obtain ⟨r, rs, hc⟩ : ∃ r rs, e.cm = r :: rs := by
      cases hc : e.cm with
      | nil => exact absurd hc h0
      | cons r rs => exact ⟨r, rs, rfl⟩
    have hn : nextN e = r.2 + 1 := by unfold nextN; rw [hc]
    have h2 : stpE y (2, unr e.cm, nilB) = (0, { y with k := max y.k (nextN e - 1), t := tells y.ls y.t e.cm }) := by
      unfold stpE
      rw [if_pos rfl]
      have ef : first (unr e.cm) = nextN e - 1 := by rw [hc, first_unr, hn]; omega
      simp only [ef]
      rw [if_neg (by omega), rgs_unr]
    rw [List.singleton_append, runF_one h2, runF_one (h4 _)]
    exact ⟨_, _, rfl, .inr ⟨h0, rfl, rfl⟩⟩
end Go.Proofs.YtdnehibcpkjafaaGreatDoor

namespace Go.Proofs.YtdnehibcpkjafaaGreatDoor
open Go.RowKit Go.Lib Go.Sort
set_option linter.unusedVariables false
set_option linter.unusedSimpArgs false


open Sx (bat)
theorem frs_split (e : En) : frs e = ((if e.cm = [] then [] else [(2, unr e.cm, nilB)]) ++ [(4, [e.c.lim], nilB)]) ++ (pieces e).map pfr := by
  unfold frs
  rw [List.append_assoc]
  rfl
theorem come_full {e : En} {n : Int} {fs : List F} (h0 : memB e.cm n = false) (h1 : (runF fs e).1 = 0) (h2 : 12 < (addL e.cm n).length) : come e n fs = (4, e) := by
  unfold come
  rw [if_neg (by rw [h0]; decide), if_neg (by rw [h1]; decide), if_pos h2]
theorem come_fits {e e' : En} {n : Int} {fs : List F} (h0 : memB e.cm n = false) (h1 : runF fs e = (0, e')) (h2 : (addL e.cm n).length ≤ 12) : come e n fs = (0, { e' with cm := addL e.cm n }) := by
  unfold come
  rw [if_neg (by rw [h0]; decide), h1, if_neg (show ¬ (0 : Int) ≠ 0 by decide), if_neg (by omega)]
theorem not_mem_next {e : En} {m : Nat} (h : EInv e) (hm : nextN e ≤ m) : memB e.cm m = false := (memB_no _ _).2 fun hp => by
  have := mem_next h hp
  omega
/-- A packet of x that comes. -/
theorem Talk.send {n : Int} {d : ByteArray} {x y : En} {r : Nat} (h : Talk n d x y r r) (hm : makeF x = 0) :
    (12 < (addL y.cm x.m).length → come y x.m (frs x) = (4, y)) ∧ ((addL y.cm x.m).length ≤ 12 → ∃ y', come y x.m (frs x) = (0, y') ∧ Talk n d (makeS x) y' (max r (en x)) r ∧ y'.cm = addL y.cm x.m ∧ y'.m = y.m) := by
  have h60 : d.size ≤ 60 := by have := h.xi.d60; rw [h.xd] at this; exact this
  have hmem := not_mem_next h.yi h.ym
  have hnum := makeF_m hm
  obtain ⟨k, t, e1, e2⟩ := run_head (e := x) (y := y) h.xm
  have hen : en x ≤ d.size := by have := en_le x; rw [h.xd] at this; exact this
  have hel : (en x : Int) ≤ y.c.lim := by
    have := h.lr
    have := h.xi.l0
    unfold en
    omega
  obtain ⟨s, c, f1, f2, f3, f4, f5, f6⟩ := run_pcs (d := d) (b := en x) hen h60 3 x.t r { y with k := k, t := t, l := max y.l x.c.lim } h.tr hel (by have := h.xi.en60; omega) ⟨h.yb, h.yc, h.cr⟩
  have hrun : runF (frs x) y = (0, { y with k := k, t := t, l := max y.l x.c.lim, s := s, c := c }) := by
    rw [frs_split, runF_append _ _ _ (by rw [e1]), e1]
    have : pieces x = pcs d (en x) 3 x.t := by unfold pieces; rw [h.xd]
    rw [this]
    exact f1
  refine ⟨fun hl => come_full hmem (by rw [hrun]) hl, fun hl => ?_⟩
  have hc := come_fits hmem hrun hl
  have hi := h.yi.come (n := x.m) ((isN_iff _).2 ⟨by omega, by omega⟩) (fs := frs x) (frs_good h.xi)
  rw [hc] at hi
  have hxi := h.xi.make
  have hnx := add_next h.yi h.ym
  rw [makeS_is hm] at hxi ⊢
  have hpk := pk_ok h.xi
  refine ⟨_, hc, ⟨hxi, hi, h.xd, h.yd, by have := h.tr; simp only; omega, by omega, by have := h.rd; omega, by simp only; rw [f4]; exact h.lr, f2.yb, f2.yc, f3.trans h.yk, f2.cr, f6.trans h.ce, f5.trans h.cw, fun l hl p p1 p2 hp => ?_, ?_, fun l hl => ?_, keepL_lo h.lh h.lst, ?_, h.xm, ?_, ?_, ?_⟩, rfl, rfl⟩
  · rcases keepL_cases hl with hl | ⟨g1, g2, _⟩
    · have h1 := (h.xi.ls l hl).1
      rcases ((addL_ok h.yi.cm).2 p).1 hp with hp | rfl
      · have := h.ack l hl p p1 p2 hp
        omega
      · omega
    · rw [g2]
      have := hpk.2.2
      omega
  · by_cases hg : r < en x
    · right
      obtain ⟨l0, g1, g2, g3⟩ := keepL_last (ls := x.ls) (m := x.m) (a := (pk x).1) (b := (pk x).2)
      have hpe : (pk x).2 = en x := by
        unfold pk
        rw [if_pos (by have := h.tr; omega)]
      have hlo := keepL_lo h.lh h.lst l0 (last_mem g1)
      refine ⟨l0, last_mem g1, x.m, by omega, by omega, ((addL_ok h.yi.cm).2 _).2 (.inr rfl), ?_⟩
      rw [g3, hpe]
      omega
    · have er : max r (en x) = r := by omega
      rw [er]
      rcases h.top with h0 | ⟨l, hl, p, p1, p2, hp, e⟩
      · exact .inl h0
      · obtain ⟨l', h1, h2, h3, h4⟩ := keepL_old (a := (pk x).1) (b := (pk x).2) h.lst hl
        exact .inr ⟨l', h1, p, by rw [h2]; exact p1, by omega, ((addL_ok h.yi.cm).2 _).2 (.inl hp), by rw [h4]; exact e⟩
  · obtain ⟨l0, g1, g2, _⟩ := keepL_last (ls := x.ls) (m := x.m) (a := (pk x).1) (b := (pk x).2)
    simp only at hl
    rw [g1] at hl
    cases hl
    simp only
    omega
  · have := hnx.1
    show nextN { y with cm := addL y.cm x.m } ≤ _
    rw [this]
    simp only
    omega
  · have := hnx.1
    show x.k < nextN { y with cm := addL y.cm x.m }
    rw [this]
    have := h.xi.k1
    omega
  · show k < nextN x
    have := h.xn
    rcases e2 with ⟨_, e3, _⟩ | ⟨_, e3, _⟩
    · omega
    · omega
  · show max r (en x) = d.size ∨ (c.lim = r + n ∧ ((x.l = r ∧ max r (en x) = r) ∨ (x.l = r + n ∧ (max r (en x) = r ∨ ((max r (en x) : Nat) : Int) = r + n))))
    rw [f4]
    have hrd := h.rd
    have l0 := h.xi.l0
    have w1 := h.yi.c.w1
    rw [h.cw] at w1
    have een : en x = min d.size x.l.toNat := by unfold en; rw [h.xd]
    rcases h.go with g | ⟨g1, g2⟩
    · left; omega
    · rcases g2 with ⟨g3, _⟩ | ⟨g3, _⟩
      · right
        exact ⟨g1, .inl ⟨g3, by omega⟩⟩
      · by_cases g5 : (d.size : Int) ≤ r + n
        · left; omega
        · right
          exact ⟨g1, .inr ⟨g3, .inr (by omega)⟩⟩
end Go.Proofs.YtdnehibcpkjafaaGreatDoor

namespace Go.Proofs.YtdnehibcpkjafaaGreatDoor
open Go.RowKit Go.Lib Go.Sort
set_option linter.unusedVariables false
set_option linter.unusedSimpArgs false


open Sx (bat)
/-- Bytes of x, as y has them: r came, of these q were read. -/
structure Dirn (n : Int) (x y : En) (r q : Nat) : Prop where
  tr : x.t ≤ r
  qr : q ≤ r
  rd : r ≤ x.d.size
  lr : x.l ≤ y.c.lim
  yb : ∀ i, i < r → y.s.byt i = bat x.d i
  yc : ∀ i, y.s.cm i = decide (i < r)
  yk : y.s.tk = q
  cr : y.c.came = r
  ce : y.c.read = q
  cw : y.c.win = n
  ack : ∀ l ∈ x.ls, ∀ p : Int, (l.lo : Int) ≤ p → p ≤ l.hi → Mem y.cm p → l.b ≤ r
  ym : nextN y ≤ x.m
  lst : ∀ l, x.ls.getLast? = some l → l.hi + 1 = x.m
  lh : ∀ l ∈ x.ls, l.lo ≤ l.hi
  kn : x.k < nextN y
/-- The frames that a packet begins with. -/
def hdF (cm : List R) (lim : Int) : List F := (if cm = [] then [] else [(2, unr cm, nilB)]) ++ [(4, [lim], nilB)]
/-- A letter that x made: its number, which came till then, how far bytes were let, and its pieces. -/
structure Ltr (x : En) (p : Nat) (fs : List F) (cm : List R) (lim : Int) (a b : Nat) : Prop where
  pm : p < x.m
  ld : ∀ l ∈ x.ls, l.lo ≤ p → p ≤ l.hi → l.b = b
  at' : a ≤ x.t
  ab : b ≤ a + 60
  bd : b ≤ x.d.size
  bl : (b : Int) ≤ x.l
  ch : chk cm = 0
  sub : ∀ q, Mem cm q → Mem x.cm q
  lm : lim ≤ x.c.lim
  fs : fs = hdF cm lim ++ (pcs x.d b 3 a).map pfr
theorem next_le {e : En} {M : Nat} (h : EInv e) (hm : ∀ q, Mem e.cm q → q < M) : nextN e ≤ M := by
  unfold nextN
  cases hc : e.cm with
  | nil => simp
  | cons r rs =>
    have hn := ((chk_ok e.cm).1 h.cm).2.2
    rw [hc] at hn hm
    have := hm r.2 ⟨r, List.mem_cons_self, hn.1, Int.le_refl _⟩
    simp only
    omega
theorem next_mono {e e' : En} (h : EInv e) (h' : EInv e') (hm : ∀ z, Mem e.cm z → Mem e'.cm z) : nextN e ≤ nextN e' := by
  have h0 := next_pos h'
  unfold nextN
  cases hc : e.cm with
  | nil => exact h0
  | cons r rs =>
    have hn := ((chk_ok e.cm).1 h.cm).2.2
    rw [hc] at hn hm
    have := mem_next h' (hm r.2 ⟨r, List.mem_cons_self, hn.1, Int.le_refl _⟩)
    show r.2 + 1 ≤ nextN e'
    omega
theorem run_hd {cm : List R} {lim : Int} {y : En} (hy : ∀ r rs, cm = r :: rs → r.2 < y.m) : ∃ k t, runF (hdF cm lim) y = (0, { y with k := k, t := t, l := max y.l lim }) ∧ ((cm = [] ∧ k = y.k ∧ t = y.t) ∨ ∃ r rs, cm = r :: rs ∧ k = max y.k r.2 ∧ t = tells y.ls y.t cm) := by
  have := run_head (e := { y with cm := cm, c := { y.c with lim := lim } }) (y := y) (by
    unfold nextN
    cases hc : cm with
    | nil => simp
    | cons r rs => have := hy r rs hc; simp only; omega)
  obtain ⟨k, t, e1, e2⟩ := this
  refine ⟨k, t, e1, ?_⟩
  rcases e2 with ⟨a, b, c⟩ | ⟨a, b, c⟩
  · exact .inl ⟨a, b, c⟩
  · right
    cases hc : cm with
    | nil => exact absurd hc a
    | cons r rs =>
      refine ⟨r, rs, rfl, ?_, by rw [c, ← hc]⟩
      rw [b]
      have : nextN { y with cm := cm, c := { y.c with lim := lim } } = r.2 + 1 := by unfold nextN; rw [hc]
      rw [this]
      congr 1
      omega
section
variable {n : Int} {x y : En} {r q r' q' : Nat}
/-- A letter of x comes to y: nothing, or no room, or it is taken; and both ways hold on. -/
theorem Dirn.take (h : Dirn n x y r q) (g : Dirn n y x r' q') (hx : EInv x) (hy : EInv y) {p : Nat} {fs : List F} {cm : List R} {lim : Int} {a b : Nat} (hl : Ltr x p fs cm lim a b) (hfs : ∀ f ∈ fs, fF f = 0) (hp : p ≤ 1073741823) :
    (memB y.cm p = true ∧ come y p fs = (0, y)) ∨ (come y p fs = (4, y) ∧ 12 < (addL y.cm p).length) ∨ ∃ y2, come y p fs = (0, y2) ∧ EInv y2 ∧ Dirn n x y2 (max r b) q ∧ Dirn n y2 x r' q' ∧ y2.d = y.d ∧ y2.m = y.m ∧ y2.ls = y.ls ∧ y.t ≤ y2.t ∧ y.l ≤ y2.l ∧ lim ≤ y2.l ∧ y2.c.lim = y.c.lim ∧ (∀ z, Mem y2.cm z ↔ Mem y.cm z ∨ z = p) ∧ y2.cm = addL y.cm p := by
  by_cases hmem : memB y.cm p = true
  · left
    refine ⟨hmem, ?_⟩
    unfold come
    rw [if_pos hmem]
  · right
    have hmem : memB y.cm p = false := by simpa using hmem
    have hcn := (chk_ok cm).1 hl.ch
    have hsub : ∀ z, Mem cm z → z < y.m := fun z hz => by
      have h1 := mem_next hx (hl.sub z hz)
      have h2 := g.ym
      omega
    obtain ⟨k, t, e1, e2⟩ := run_hd (cm := cm) (lim := lim) (y := y) (fun r0 rs hc => by
      rw [hc] at hsub hcn
      exact hsub r0.2 ⟨r0, List.mem_cons_self, hcn.2.2.1, Int.le_refl _⟩)
    have ht : y.t ≤ t ∧ t ≤ r' := by
      rcases e2 with ⟨_, _, e3⟩ | ⟨_, _, _, _, e3⟩
      · have := g.tr; omega
      · rw [e3]
        exact tells_up cm (fun l hl2 rg hrg ho => by
          have h1 := g.lh l hl2
          have h2 := norm_le hcn.2.2 rg hrg
          exact g.ack l hl2 (max (l.lo : Int) rg.1) (by omega) (by omega) (hl.sub _ ⟨rg, hrg, by omega, by omega⟩)) y.t g.tr
    obtain ⟨s, c, f1, f2, f3, f4, f5, f6⟩ := run_pcs (d := x.d) (b := b) hl.bd hx.d60 3 a r { y with k := k, t := t, l := max y.l lim } (by have := hl.at'; have := h.tr; omega) (by have := hl.bl; have := h.lr; show (b : Int) ≤ y.c.lim; omega) (by have := hl.ab; omega) ⟨h.yb, h.yc, h.cr⟩
    have hrun : runF fs y = (0, { y with k := k, t := t, l := max y.l lim, s := s, c := c }) := by
      rw [hl.fs, runF_append _ _ _ (by rw [e1]), e1]
      exact f1
    by_cases hlen : 12 < (addL y.cm p).length
    · left
      exact ⟨come_full hmem (by rw [hrun]) hlen, hlen⟩
    · right
      have hc := come_fits hmem hrun (by omega)
      have hi := hy.come (n := p) ((isN_iff _).2 ⟨by omega, by omega⟩) (fs := fs) hfs
      rw [hc] at hi
      have hadd := (addL_ok (n := (p : Int)) hy.cm).2
      refine ⟨_, hc, hi, ⟨by have := h.tr; omega, by have := h.qr; omega, by have := h.rd; have := hl.bd; omega, by show x.l ≤ c.lim; rw [f4]; exact h.lr, f2.yb, f2.yc, f3.trans h.yk, f2.cr, f6.trans h.ce, f5.trans h.cw, fun l hl2 z z1 z2 hz => ?_, ?_, h.lst, h.lh, ?_⟩, ⟨ht.2, g.qr, g.rd, ?_, g.yb, g.yc, g.yk, g.cr, g.ce, g.cw, g.ack, g.ym, g.lst, g.lh, ?_⟩, rfl, rfl, rfl, ht.1, by show y.l ≤ max y.l lim; omega, by show lim ≤ max y.l lim; omega, f4, hadd, rfl⟩
      · rcases (hadd z).1 hz with hz | rfl
        · have := h.ack l hl2 z z1 z2 hz; omega
        · have := hl.ld l hl2 (by omega) (by omega); omega
      · refine next_le hi fun z hz => ?_
        rcases (hadd z).1 hz with hz | rfl
        · have := mem_next hy hz; have := h.ym; omega
        · have := hl.pm; omega
      · exact Int.lt_of_lt_of_le h.kn (next_mono hy hi (fun z hz => (hadd z).2 (.inl hz)))
      · show max y.l lim ≤ x.c.lim
        have := g.lr; have := hl.lm; omega
      · show k < nextN x
        have hk := g.kn
        rcases e2 with ⟨_, e3, _⟩ | ⟨r0, rs, hc0, e3, _⟩
        · omega
        · have := mem_next hx (hl.sub r0.2 ⟨r0, by rw [hc0]; exact List.mem_cons_self, by rw [hc0] at hcn; exact hcn.2.2.1, Int.le_refl _⟩)
          omega
/-- More is written. -/
theorem Dirn.write (h : Dirn n x y r q) (b : ByteArray) : Dirn n (writeS x b) y r q := by
  unfold writeS
  split
  · exact h
  · exact ⟨h.tr, h.qr, by have := h.rd; simp only [ByteArray.size_append]; omega, h.lr, fun i hi => by
      rw [h.yb i hi]
      have e : i < x.d.size := by have := h.rd; omega
      have := bat_part (d := x.d ++ b) (a := 0) (b := x.d.size) (i := i) (by omega) (by rw [ByteArray.size_append]; omega)
      rw [ext_grow (Nat.le_refl _), Nat.zero_add] at this
      rw [← this, bat_part (by omega) (Nat.le_refl _), Nat.zero_add], h.yc, h.yk, h.cr, h.ce, h.cw, h.ack, h.ym, h.lst, h.lh, h.kn⟩
theorem Dirn.write' (h : Dirn n y x r q) (b : ByteArray) : Dirn n y (writeS x b) r q := by
  unfold writeS
  split
  · exact h
  · exact ⟨h.tr, h.qr, h.rd, h.lr, h.yb, h.yc, h.yk, h.cr, h.ce, h.cw, h.ack, h.ym, h.lst, h.lh, h.kn⟩
theorem Ltr.write {p : Nat} {fs : List F} {cm : List R} {lim : Int} {a b : Nat} (h : Ltr x p fs cm lim a b) (d : ByteArray) : Ltr (writeS x d) p fs cm lim a b := by
  unfold writeS
  split
  · exact h
  · exact ⟨h.pm, h.ld, h.at', h.ab, by have := h.bd; simp only [ByteArray.size_append]; omega, h.bl, h.ch, h.sub, h.lm, by rw [h.fs, pcs_grow h.bd]⟩
/-- y reads. -/
theorem Dirn.read (h : Dirn n x y r q) (hx : EInv x) (hy : EInv y) (m : Int) (hm : 0 ≤ m) : readF y m = 0 ∧ ∃ q2, readB y m = x.d.extract q q2 ∧ q ≤ q2 ∧ q2 ≤ r ∧ Dirn n x (readS y m) r q2 ∧ y.c.lim ≤ (readS y m).c.lim ∧ (60 ≤ m → q2 = r) := by
  have h60 := hx.d60
  have hr := rdy_is h.yc h.yk h.qr (Nat.le_trans h.rd h60)
  have hrd := h.rd
  have hqr := h.qr
  obtain ⟨u, hu⟩ : ∃ u, u = Sx.takeN y.s m := ⟨_, rfl⟩
  have hur : u ≤ r - q := by rw [hu]; unfold Sx.takeN; rw [hr]; omega
  have hall : 60 ≤ m → u = r - q := fun hm6 => by rw [hu]; unfold Sx.takeN; rw [hr]; omega
  have hcr := h.cr
  have hce := h.ce
  have hcw := h.cw
  have w1 := hy.c.w1
  have w2 := hy.c.w2
  have l2 := hy.c.l2
  have l1 := hy.c.l1
  have r1 := hy.c.r1
  have r2 := hy.c.r2
  have hmore : 0 ≤ Cx.moreL y.c (u : Int) ∧ Cx.moreL y.c (u : Int) ≤ 1073741823 ∧ y.c.lim ≤ Cx.moreL y.c (u : Int) := by
    unfold Cx.moreL
    split <;> omega
  have hg : Cx.getF y.c (u : Int) = 0 := Cx.getF_yes (by omega) (by rw [hcr, hce]; omega) (decide_eq_true ⟨hmore.1, hmore.2.1⟩)
  have hf : readF y m = 0 := by
    unfold readF
    rw [if_neg (by omega), ← hu]
    exact hg
  have hs : Cx.getS y.c (u : Int) = ⟨y.c.win, Cx.moreL y.c (u : Int), y.c.came, y.c.read + (u : Int)⟩ := by
    unfold Cx.getS
    rw [if_pos hg]
  have hS : readS y m = { y with s := Sx.takeS y.s m, c := Cx.getS y.c (u : Int) } := by
    unfold readS
    rw [if_pos hf, ← hu]
  refine ⟨hf, q + u, ?_, by omega, by omega, ?_, ?_, fun hm6 => by have := hall hm6; omega⟩
  · unfold readB
    rw [if_pos hf, ← str_part (a := q) (b := q + u) (d := x.d) (by omega), show q + u - q = u by omega]
    unfold Sx.takeL
    rw [← hu, h.yk]
    congr 1
    apply List.map_congr_left
    intro i hi
    have := List.mem_range.1 hi
    exact h.yb (q + i) (by omega)
  · rw [hS, hs]
    exact ⟨h.tr, by omega, h.rd, by have := h.lr; simp only; omega, h.yb, h.yc, by show y.s.tk + Sx.takeN y.s m = q + u; rw [h.yk, ← hu], hcr, by simp only; omega, hcw, h.ack, h.ym, h.lst, h.lh, h.kn⟩
  · rw [hS, hs]
    exact hmore.2.2
theorem Dirn.read' (h : Dirn n y x r q) (m : Int) : Dirn n (readS y m) x r q := by
  unfold readS
  split
  · exact ⟨h.tr, h.qr, h.rd, h.lr, h.yb, h.yc, h.yk, h.cr, h.ce, h.cw, h.ack, h.ym, h.lst, h.lh, h.kn⟩
  · exact h
theorem Ltr.read {p : Nat} {fs : List F} {cm : List R} {lim : Int} {a b : Nat} (h : Ltr y p fs cm lim a b) (m : Int) (hl : y.c.lim ≤ (readS y m).c.lim) : Ltr (readS y m) p fs cm lim a b := by
  have hlm : lim ≤ (readS y m).c.lim := by have := h.lm; omega
  revert hlm
  unfold readS
  split
  · exact fun hlm => ⟨h.pm, h.ld, h.at', h.ab, h.bd, h.bl, h.ch, h.sub, hlm, h.fs⟩
  · exact fun _ => h
/-- x makes a packet. -/
theorem Dirn.make (h : Dirn n x y r q) (hx : EInv x) (hy : EInv y) (hm : makeF x = 0) : Dirn n (makeS x) y r q := by
  rw [makeS_is hm]
  refine ⟨h.tr, h.qr, h.rd, h.lr, h.yb, h.yc, h.yk, h.cr, h.ce, h.cw, fun l hl p p1 p2 hp => ?_, by have := h.ym; simp only; omega, fun l hl => ?_, keepL_lo h.lh h.lst, h.kn⟩
  · rcases keepL_cases hl with hl | ⟨e1, e2, e3⟩
    · exact h.ack l hl p p1 p2 hp
    · have h1 := mem_next hy hp
      have h2 := h.ym
      rcases e3 with e3 | ⟨l0, e4, e5, e6⟩
      · rw [e3] at p1; omega
      · have h3 := h.lst l0 e4
        have := h.ack l0 (last_mem e4) p (by rw [e5]; exact p1) (by omega) hp
        rw [e2, ← e6]
        exact this
  · obtain ⟨l0, e1, e2, _⟩ := keepL_last (ls := x.ls) (m := x.m) (a := (pk x).1) (b := (pk x).2)
    simp only at hl
    rw [e1] at hl
    cases hl
    simp only
    omega
theorem Dirn.make' (h : Dirn n y x r q) (hm : makeF x = 0) : Dirn n y (makeS x) r q := by
  rw [makeS_is hm]
  exact ⟨h.tr, h.qr, h.rd, h.lr, h.yb, h.yc, h.yk, h.cr, h.ce, h.cw, h.ack, h.ym, h.lst, h.lh, h.kn⟩
theorem Ltr.make {p : Nat} {fs : List F} {cm : List R} {lim : Int} {a b : Nat} (h : Ltr x p fs cm lim a b) (g : Dirn n x y r q) (hm : makeF x = 0) : Ltr (makeS x) p fs cm lim a b := by
  have hpm := h.pm
  rw [makeS_is hm]
  refine ⟨by simp only; omega, fun l hl h1 h2 => ?_, h.at', h.ab, h.bd, h.bl, h.ch, h.sub, h.lm, h.fs⟩
  rcases keepL_cases hl with hl | ⟨e1, e2, e3⟩
  · exact h.ld l hl h1 h2
  · rcases e3 with e3 | ⟨l0, e4, e5, e6⟩
    · omega
    · have h3 := g.lst l0 e4
      rw [e2, ← e6]
      exact h.ld l0 (last_mem e4) (by omega) (by omega)
/-- The packet that x makes is such a letter. -/
theorem Ltr.new (g : Dirn n x y r q) (hx : EInv x) (hm : makeF x = 0) : Ltr (makeS x) x.m (frs x) x.cm x.c.lim (pk x).1 (pk x).2 := by
  have hp := pk_ok hx
  have hen := en_le x
  have h60 := hx.en60
  have l0 := hx.l0
  rw [makeS_is hm]
  refine ⟨by simp only; omega, fun l hl h1 h2 => ?_, hp.2.1, by omega, by simp only; omega, ?_, hx.cm, fun z hz => hz, Int.le_refl _, ?_⟩
  · rcases keepL_cases hl with hl | ⟨_, e2, _⟩
    · have := (hx.ls l hl).1; omega
    · exact e2
  · have := hp.2.2
    have : (en x : Int) ≤ x.l := by unfold en; omega
    simp only
    omega
  · rw [frs_split, pk_pieces x]
    rfl
/-- What y made holds on when y takes a letter. -/
theorem Ltr.take {p : Nat} {fs : List F} {cm : List R} {lim : Int} {a b z : Nat} {y2 : En} (h : Ltr y p fs cm lim a b) (h1 : y2.d = y.d) (h2 : y2.m = y.m) (h3 : y2.ls = y.ls) (h4 : y.t ≤ y2.t) (h5 : y.l ≤ y2.l) (h6 : y2.c.lim = y.c.lim) (h7 : ∀ v, Mem y2.cm v ↔ Mem y.cm v ∨ v = z) : Ltr y2 p fs cm lim a b :=
  ⟨by rw [h2]; exact h.pm, by rw [h3]; exact h.ld, Nat.le_trans h.at' h4, h.ab, by rw [h1]; exact h.bd, Int.le_trans h.bl h5, h.ch, fun v hv => (h7 v).2 (.inl (h.sub v hv)), by rw [h6]; exact h.lm, by rw [h1]; exact h.fs⟩
end
/-- At first. -/
theorem Dirn.new {n : Int} (hn : Cx.winB n = true) : Dirn n (newE n) (newE n) 0 0 :=
  ⟨Nat.le_refl _, Nat.le_refl _, Nat.zero_le _, Int.le_refl _, fun i hi => by omega, fun i => by simp [newE, Sx.newS], rfl, rfl, rfl, rfl, fun l hl => by simp [newE] at hl, by simp [nextN, newE], fun l hl => by simp [newE] at hl, fun l hl => by simp [newE] at hl, by simp [nextN, newE]⟩
end Go.Proofs.YtdnehibcpkjafaaGreatDoor

namespace Go.Proofs.YtdnehibcpkjafaaGreatDoor
open Go.RowKit Go.Lib Go.Sort
set_option linter.unusedVariables false
set_option linter.unusedSimpArgs false


/-- Bytes that x made as a packet. -/
def LtOk (x : En) (bs : ByteArray) : Prop := ∃ (p : Nat) (k : Int) (fs : List F) (cm : List R) (lim : Int) (a b : Nat), Ltr x p fs cm lim a b ∧ pkF (p : Int) k fs = 0 ∧ bs = pkS (p : Int) k fs
/-- Two Ends that talk: r bytes of x came to y, q of them were read; r' and q' the other way. -/
structure Tk (n : Int) (x y : En) (r q r' q' : Nat) : Prop where
  xi : EInv x
  yi : EInv y
  f : Dirn n x y r q
  g : Dirn n y x r' q'
theorem pk_good {n k : Int} {fs : List F} (h : pkF n k fs = 0) : ∀ f ∈ fs, fF f = 0 := fun f hf => by
  obtain ⟨_, _, _, h3, _⟩ := pkF_ok h
  obtain ⟨j, hj, e⟩ := List.getElem_of_mem hf
  have := fsF_all fs h3 j hj
  rw [fat_get hj, e] at this
  exact this
section
variable {n : Int} {x y : En} {r q r' q' : Nat}
theorem Tk.swap (h : Tk n x y r q r' q') : Tk n y x r' q' r q := ⟨h.yi, h.xi, h.g, h.f⟩
theorem Tk.take (h : Tk n x y r q r' q') {bs : ByteArray} (hl : LtOk x bs) (hM : x.m ≤ 120) : bs.size ≤ 200 ∧ (takeP y bs = (0, y) ∨ takeP y bs = (4, y) ∨ ∃ y2 r2, takeP y bs = (0, y2) ∧ r ≤ r2 ∧ Tk n x y2 r2 q r' q' ∧ (∀ b, LtOk y b → LtOk y2 b) ∧ y2.m = y.m ∧ y2.d = y.d) := by
  obtain ⟨p, k, fs, cm, lim, a, b, h1, h2, rfl⟩ := hl
  have hs := (pkF_ok h2).2.2.2.2
  have hnx0 := next_pos h.yi
  have hym := h.f.ym
  have hpm := h1.pm
  have hrn := (U.rnd_bd (U.need (p : Int) k)).1
  have hmay : U.mayB (nextN y) = true := (U.mayB_iff _).2 ⟨hnx0, by omega⟩
  have hrd := rdP_at (next := nextN y) h2 hmay (by omega) (by omega)
  have ht : takeP y (pkS (p : Int) k fs) = come y p fs := takeP_yes (opF_zero hmay hs hrd) hrd
  refine ⟨hs, ?_⟩
  rw [ht]
  rcases h.f.take h.g h.xi h.yi h1 (pk_good h2) (by omega) with ⟨_, e⟩ | ⟨e, _⟩ | ⟨y2, e1, e2, e3, e4, e5, e6, e7, e8, e9, _, e10, e11, _⟩
  · exact .inl e
  · exact .inr (.inl e)
  · refine .inr (.inr ⟨y2, _, e1, Nat.le_max_left _ _, ⟨h.xi, e2, e3, e4⟩, fun bs hb => ?_, e6, e5⟩)
    obtain ⟨p', k', fs', cm', lim', a', b', g1, g2, g3⟩ := hb
    exact ⟨p', k', fs', cm', lim', a', b', g1.take e5 e6 e7 e8 e9 e10 e11, g2, g3⟩
theorem Tk.write (h : Tk n x y r q r' q') (d : ByteArray) : Tk n (writeS x d) y r q r' q' ∧ (∀ b, LtOk x b → LtOk (writeS x d) b) :=
  ⟨⟨h.xi.write d, h.yi, h.f.write d, h.g.write' d⟩, fun bs ⟨p, k, fs, cm, lim, a, b, g1, g2, g3⟩ => ⟨p, k, fs, cm, lim, a, b, g1.write d, g2, g3⟩⟩
theorem Tk.read (h : Tk n x y r q r' q') (m : Int) (hm : 0 ≤ m) : readF y m = 0 ∧ ∃ q2, readB y m = x.d.extract q q2 ∧ q ≤ q2 ∧ q2 ≤ r ∧ Tk n x (readS y m) r q2 r' q' ∧ (∀ b, LtOk y b → LtOk (readS y m) b) ∧ (60 ≤ m → q2 = r) := by
  obtain ⟨h1, q2, h2, h3, h4, h5, h6, h7⟩ := h.f.read h.xi h.yi m hm
  exact ⟨h1, q2, h2, h3, h4, ⟨h.xi, h.yi.read m, h5, h.g.read' m⟩, fun bs ⟨p, k, fs, cm, lim, a, b, g1, g2, g3⟩ => ⟨p, k, fs, cm, lim, a, b, g1.read m h6, g2, g3⟩, h7⟩
theorem Tk.make (h : Tk n x y r q r' q') (hm : makeF x = 0) : Tk n (makeS x) y r q r' q' ∧ (∀ b, LtOk x b → LtOk (makeS x) b) ∧ LtOk (makeS x) (makeB x) :=
  ⟨⟨h.xi.make, h.yi, h.f.make h.xi h.yi hm, h.g.make' hm⟩, fun bs ⟨p, k, fs, cm, lim, a, b, g1, g2, g3⟩ => ⟨p, k, fs, cm, lim, a, b, g1.make h.f hm, g2, g3⟩, ⟨x.m, x.k, frs x, x.cm, x.c.lim, (pk x).1, (pk x).2, Ltr.new h.f h.xi hm, hm, makeB_is hm⟩⟩
/-- The next packet of x would bring more, or all is there. -/
def Ready (x : En) (r : Nat) : Prop := r = x.d.size ∨ (r : Int) + 1 ≤ x.l
/-- A packet of x comes at once, and y reads all. -/
theorem Tk.half (h : Tk n x y r r r' r') (hm : makeF x = 0) : takeP y (makeB x) = (4, y) ∨ ∃ y1 r1, takeP y (makeB x) = (0, y1) ∧ readF y1 60 = 0 ∧ readB y1 60 = x.d.extract r r1 ∧ r ≤ r1 ∧ Tk n (makeS x) (readS y1 60) r1 r1 r' r' ∧ Ready (readS y1 60) r' ∧ (Ready x r → r1 = x.d.size ∨ r + 1 ≤ r1) ∧ (readS y1 60).m = y.m ∧ (readS y1 60).d = y.d := by
  have hd := makeF_m hm
  obtain ⟨k1, _, k3⟩ := h.make hm
  have hld := Ltr.new h.f h.xi hm
  have hmd : (makeS x).d = x.d := by rw [makeS_is hm]
  have hml : (makeS x).c.lim = x.c.lim := by rw [makeS_is hm]
  have ht : takeP y (makeB x) = come y x.m (frs x) := takeP_made hm h.yi h.f.kn h.f.ym
  have hno := not_mem_next h.yi h.f.ym
  rw [ht]
  rcases k1.f.take k1.g k1.xi k1.yi hld (frs_good h.xi) (by omega) with ⟨e, _⟩ | ⟨e, _⟩ | ⟨y1, e1, e2, e3, e4, e5, e6, e7, e8, e9, e9', e10, e11, _⟩
  · rw [hno] at e; cases e
  · exact .inl e
  · right
    have k2 : Tk n (makeS x) y1 (max r (pk x).2) r r' r' := ⟨k1.xi, e2, e3, e4⟩
    obtain ⟨f1, q2, f2, f3, f4, f5, _, f7⟩ := k2.read 60 (by omega)
    have hq := f7 (by omega)
    subst hq
    have hrm : (readS y1 60).m = y1.m ∧ (readS y1 60).d = y1.d ∧ (readS y1 60).l = y1.l := by unfold readS; split <;> exact ⟨rfl, rfl, rfl⟩
    rw [hmd] at f2
    refine ⟨y1, _, e1, f1, f2, Nat.le_max_left _ _, f5, ?_, fun hR => ?_, by rw [hrm.1, e6], by rw [hrm.2.1, e5]⟩
    · right
      have c2 := h.xi.c.r2
      have w1 := h.xi.c.w1
      have ce := h.g.ce
      rw [hrm.2.2]
      omega
    · have htr := h.f.tr
      have hrd := h.f.rd
      have l0 := h.xi.l0
      have hen : en x ≤ max r (pk x).2 := by
        unfold pk
        split
        · simp only; omega
        · omega
      have hle : max r (pk x).2 ≤ x.d.size := by
        have := f5.f.rd
        rw [hmd] at this
        exact this
      have een : en x = min x.d.size x.l.toNat := rfl
      rcases hR with hR | hR
      · left; omega
      · by_cases e : max r (pk x).2 = x.d.size
        · exact .inl e
        · right; omega
end
theorem Tk.new {n : Int} (hn : Cx.winB n = true) : Tk n (newE n) (newE n) 0 0 0 0 := ⟨EInv.new hn, EInv.new hn, Dirn.new hn, Dirn.new hn⟩
end Go.Proofs.YtdnehibcpkjafaaGreatDoor

namespace Go.Proofs.YtdnehibcpkjafaaGreatDoor
open Go.RowKit Go.Lib Go.Sort
set_option linter.unusedVariables false
set_option linter.unusedSimpArgs false


/-- The one, the other one, and the letters on their way. -/
structure Tt where
  a : En
  b : En
  ls : List Lk.LR
def Tt.who (s : Tt) (w : Int) : En := if w = 0 then s.a else s.b
def Tt.set (s : Tt) (w : Int) (e : En) : Tt := if w = 0 then { s with a := e } else { s with b := e }
theorem who_0 (s : Tt) : s.who 0 = s.a := rfl
theorem who_1 (s : Tt) : s.who 1 = s.b := rfl
theorem end_cases {w : Int} (h : Lk.endB w = true) : w = 0 ∨ w = 1 := of_decide_eq_true h
def newT (n : Int) : Tt := ⟨newE n, newE n, []⟩
def tWriteF (s : Tt) (w : Int) (d : ByteArray) : Int := if Lk.endB w = true then writeF (s.who w) d else 1
def tWriteS (s : Tt) (w : Int) (d : ByteArray) : Tt := if Lk.endB w = true then s.set w (writeS (s.who w) d) else s
def tReadF (s : Tt) (w n : Int) : Int := if Lk.endB w = true then readF (s.who w) n else 1
def tReadB (s : Tt) (w n : Int) : ByteArray := if Lk.endB w = true then readB (s.who w) n else nilB
def tReadS (s : Tt) (w n : Int) : Tt := if Lk.endB w = true then s.set w (readS (s.who w) n) else s
def tSendF (s : Tt) (w : Int) : Int := if Lk.endB w = true then (if 40 ≤ s.ls.length then 4 else 0) else 1
def tSendS (s : Tt) (w : Int) : Tt := if tSendF s w = 0 then { s.set w (makeS (s.who w)) with ls := s.ls ++ [(1 - w, makeB (s.who w))] } else s
def tComeF (s : Tt) (i : Int) : Int := if Lk.onB s.ls i = true then (takeP (s.who (Lk.at' s.ls i.toNat).1) (Lk.at' s.ls i.toNat).2).1 else 1
def tComeS (s : Tt) (i : Int) : Tt := if Lk.onB s.ls i = true then { s.set (Lk.at' s.ls i.toNat).1 (takeP (s.who (Lk.at' s.ls i.toNat).1) (Lk.at' s.ls i.toNat).2).2 with ls := Lk.cut1 s.ls i.toNat } else s
def tLoseS (s : Tt) (i : Int) : Tt := { s with ls := Lk.giveS s.ls i }
def tTwiceS (s : Tt) (i : Int) : Tt := { s with ls := Lk.twS s.ls i }
/-- Two that talk: r bytes of the one came to the other one, q of them were read; r' and q' the other way; neither made more than K packets. -/
structure TGood (n : Int) (K : Nat) (s : Tt) (r q r' q' : Nat) : Prop where
  tk : Tk n s.a s.b r q r' q'
  ma : s.a.m ≤ K
  mb : s.b.m ≤ K
  li : Lk.Inv s.ls
  lt : ∀ x ∈ s.ls, LtOk (s.who (1 - x.1)) x.2
section
variable {n : Int} {K : Nat} {s : Tt} {r q r' q' : Nat}
theorem TGood.new (hn : Cx.winB n = true) : TGood n 0 (newT n) 0 0 0 0 := ⟨Tk.new hn, Nat.le_refl _, Nat.le_refl _, Lk.Inv.start, fun x hx => by simp [newT] at hx⟩
theorem TGood.more (h : TGood n K s r q r' q') {K' : Nat} (hK : K ≤ K') : TGood n K' s r q r' q' := ⟨h.tk, Nat.le_trans h.ma hK, Nat.le_trans h.mb hK, h.li, h.lt⟩
theorem TGood.inv (h : TGood n K s r q r' q') {w : Int} (hw : Lk.endB w = true) : EInv (s.who w) := by
  rcases end_cases hw with rfl | rfl
  · exact h.tk.xi
  · exact h.tk.yi
theorem TGood.made (h : TGood n K s r q r' q') (hK : K ≤ 1073741823) {w : Int} (hw : Lk.endB w = true) : makeF (s.who w) = 0 := by
  refine makeF_zero (h.inv hw) ?_
  rcases end_cases hw with rfl | rfl
  · have := h.ma; rw [who_0]; omega
  · have := h.mb; rw [who_1]; omega
theorem TGood.letters (h : TGood n K s r q r' q') {l : List Lk.LR} (hi : Lk.Inv l) (hm : ∀ x ∈ l, x ∈ s.ls) : TGood n K { s with ls := l } r q r' q' := ⟨h.tk, h.ma, h.mb, hi, fun x hx => h.lt x (hm x hx)⟩
/-- Letters of the one, and of the other one. -/
theorem lt_set {s : Tt} {a2 b2 : En} {l : List Lk.LR} (hi : Lk.Inv l) (h : ∀ x ∈ l, LtOk (s.who (1 - x.1)) x.2) (ha : ∀ y, LtOk s.a y → LtOk a2 y) (hb : ∀ y, LtOk s.b y → LtOk b2 y) : ∀ x ∈ l, LtOk ((⟨a2, b2, l⟩ : Tt).who (1 - x.1)) x.2 := fun x hx => by
  have hx2 := h x hx
  rcases end_cases (hi.ok x hx).1 with e | e
  · rw [e] at hx2 ⊢; exact hb _ hx2
  · rw [e] at hx2 ⊢; exact ha _ hx2
theorem TGood.write (h : TGood n K s r q r' q') (w : Int) (d : ByteArray) : TGood n K (tWriteS s w d) r q r' q' := by
  unfold tWriteS
  split
  · rename_i hw
    have hm : ∀ e : En, (writeS e d).m = e.m := fun e => by unfold writeS; split <;> rfl
    rcases end_cases hw with rfl | rfl
    · obtain ⟨h1, h2⟩ := h.tk.write d
      exact ⟨h1, by rw [show (s.set 0 (writeS (s.who 0) d)).a = writeS s.a d from rfl, hm]; exact h.ma, h.mb, h.li, lt_set (s := s) h.li h.lt h2 (fun _ k => k)⟩
    · obtain ⟨h1, h2⟩ := h.tk.swap.write d
      exact ⟨h1.swap, h.ma, by rw [show (s.set 1 (writeS (s.who 1) d)).b = writeS s.b d from rfl, hm]; exact h.mb, h.li, lt_set (s := s) h.li h.lt (fun _ k => k) h2⟩
  · exact h
theorem read_same (e : En) (m : Int) : (readS e m).m = e.m ∧ (readS e m).d = e.d := by unfold readS; split <;> exact ⟨rfl, rfl⟩
theorem TGood.read (h : TGood n K s r q r' q') {w : Int} (hw : Lk.endB w = true) {m : Int} (hm : 0 ≤ m) : readF (s.who w) m = 0 ∧ ∃ q2 q2', TGood n K (tReadS s w m) r q2 r' q2' ∧ ((w = 0 ∧ q2 = q ∧ q' ≤ q2' ∧ q2' ≤ r' ∧ readB s.a m = s.b.d.extract q' q2' ∧ (60 ≤ m → q2' = r')) ∨ (w = 1 ∧ q2' = q' ∧ q ≤ q2 ∧ q2 ≤ r ∧ readB s.b m = s.a.d.extract q q2 ∧ (60 ≤ m → q2 = r))) := by
  unfold tReadS
  rw [if_pos hw]
  rcases end_cases hw with rfl | rfl
  · obtain ⟨h1, q2, h2, h3, h4, h5, h6, h7⟩ := h.tk.swap.read m hm
    exact ⟨h1, q, q2, ⟨h5.swap, by rw [show (s.set 0 (readS (s.who 0) m)).a = readS s.a m from rfl, (read_same _ _).1]; exact h.ma, h.mb, h.li, lt_set (s := s) h.li h.lt h6 (fun _ k => k)⟩, .inl ⟨rfl, rfl, h3, h4, h2, h7⟩⟩
  · obtain ⟨h1, q2, h2, h3, h4, h5, h6, h7⟩ := h.tk.read m hm
    exact ⟨h1, q2, q', ⟨h5, h.ma, by rw [show (s.set 1 (readS (s.who 1) m)).b = readS s.b m from rfl, (read_same _ _).1]; exact h.mb, h.li, lt_set (s := s) h.li h.lt (fun _ k => k) h6⟩, .inr ⟨rfl, rfl, h3, h4, h2, h7⟩⟩
theorem make_size {e : En} (h : makeF e = 0) : (makeB e).size ≤ 200 := by
  rw [makeB_is h]
  exact (pkF_ok h).2.2.2.2
theorem tSendF_0 {w : Int} (h : tSendF s w = 0) : Lk.endB w = true ∧ s.ls.length < 40 := by
  unfold tSendF at h
  split at h
  · rename_i hw
    split at h
    · cases h
    · exact ⟨hw, by omega⟩
  · cases h
theorem TGood.send (h : TGood n K s r q r' q') (hK : K ≤ 1073741823) (w : Int) : TGood n (K + 1) (tSendS s w) r q r' q' := by
  unfold tSendS
  split
  · rename_i hs
    obtain ⟨hw, hl⟩ := tSendF_0 hs
    have hmk := h.made hK hw
    have hmm : ∀ e : En, makeF e = 0 → (makeS e).m = e.m + 1 := fun e he => by rw [makeS_is he]
    have hi : Lk.Inv (s.ls ++ [(1 - w, makeB (s.who w))]) := h.li.add (by rcases end_cases hw with rfl | rfl <;> rfl) hl (make_size hmk)
    rcases end_cases hw with rfl | rfl
    · obtain ⟨h1, h2, h3⟩ := h.tk.make hmk
      refine ⟨h1, ?_, Nat.le_succ_of_le h.mb, hi, fun x hx => ?_⟩
      · show (makeS s.a).m ≤ K + 1
        rw [show (makeS s.a).m = s.a.m + 1 from hmm _ hmk]; exact Nat.succ_le_succ h.ma
      · rcases List.mem_append.1 hx with hx | hx
        · rcases end_cases (h.li.ok x hx).1 with e | e
          · have hx2 := h.lt x hx
            rw [e] at hx2 ⊢; exact hx2
          · have hx2 := h.lt x hx
            rw [e] at hx2 ⊢; exact h2 _ hx2
        · obtain rfl : x = (1 - 0, makeB (s.who 0)) := by simpa using hx
          exact h3
    · obtain ⟨h1, h2, h3⟩ := h.tk.swap.make hmk
      refine ⟨h1.swap, Nat.le_succ_of_le h.ma, ?_, hi, fun x hx => ?_⟩
      · show (makeS s.b).m ≤ K + 1
        rw [show (makeS s.b).m = s.b.m + 1 from hmm _ hmk]; exact Nat.succ_le_succ h.mb
      · rcases List.mem_append.1 hx with hx | hx
        · rcases end_cases (h.li.ok x hx).1 with e | e
          · have hx2 := h.lt x hx
            rw [e] at hx2 ⊢; exact h2 _ hx2
          · have hx2 := h.lt x hx
            rw [e] at hx2 ⊢; exact hx2
        · obtain rfl : x = (1 - 1, makeB (s.who 1)) := by simpa using hx
          exact h3
  · exact h.more (Nat.le_succ _)
theorem TGood.come (h : TGood n K s r q r' q') (hK : K ≤ 120) (i : Int) : ∃ r2 r2', r ≤ r2 ∧ r' ≤ r2' ∧ TGood n K (tComeS s i) r2 q r2' q' := by
  unfold tComeS
  split
  · rename_i ho
    obtain ⟨p, rfl, hp⟩ := Lk.onB_yes ho
    rw [Int.toNat_natCast]
    have hx := Lk.at_mem hp
    have hok := (h.li.ok _ hx).1
    have hlt := h.lt _ hx
    have hcut := h.letters (h.li.cut p) (fun y hy => Lk.cut1_mem hy)
    generalize Lk.at' s.ls p = x at *
    obtain ⟨rc, bs⟩ := x
    simp only at hok hlt ⊢
    rcases end_cases hok with rfl | rfl
    · have hl2 : LtOk s.b bs := hlt
      obtain ⟨_, e | e | ⟨y2, r2, e1, e2, e3, e4, e5, e6⟩⟩ := h.tk.swap.take hl2 (Nat.le_trans h.mb hK)
      · refine ⟨r, r', Nat.le_refl _, Nat.le_refl _, ?_⟩
        rw [who_0, e]; exact hcut
      · refine ⟨r, r', Nat.le_refl _, Nat.le_refl _, ?_⟩
        rw [who_0, e]; exact hcut
      · refine ⟨r, r2, Nat.le_refl _, e2, ?_⟩
        rw [who_0, e1]
        exact ⟨e3.swap, by show y2.m ≤ K; rw [e5]; exact h.ma, h.mb, h.li.cut p, lt_set (s := s) (h.li.cut p) hcut.lt e4 (fun _ k => k)⟩
    · have hl2 : LtOk s.a bs := hlt
      obtain ⟨_, e | e | ⟨y2, r2, e1, e2, e3, e4, e5, e6⟩⟩ := h.tk.take hl2 (Nat.le_trans h.ma hK)
      · refine ⟨r, r', Nat.le_refl _, Nat.le_refl _, ?_⟩
        rw [who_1, e]; exact hcut
      · refine ⟨r, r', Nat.le_refl _, Nat.le_refl _, ?_⟩
        rw [who_1, e]; exact hcut
      · refine ⟨r2, r', e2, Nat.le_refl _, ?_⟩
        rw [who_1, e1]
        exact ⟨e3, h.ma, by show y2.m ≤ K; rw [e5]; exact h.mb, h.li.cut p, lt_set (s := s) (h.li.cut p) hcut.lt (fun _ k => k) e4⟩
  · exact ⟨r, r', Nat.le_refl _, Nat.le_refl _, h⟩
theorem TGood.lose (h : TGood n K s r q r' q') (i : Int) : TGood n K (tLoseS s i) r q r' q' := by
  refine h.letters (h.li.give i) (fun y hy => ?_)
  cases e : Lk.onB s.ls i with
  | true => rw [Lk.giveS_yes e] at hy; exact Lk.cut1_mem hy
  | false => rw [Lk.giveS_no e] at hy; exact hy
theorem TGood.twice (h : TGood n K s r q r' q') (i : Int) : TGood n K (tTwiceS s i) r q r' q' := by
  refine h.letters (h.li.twice i) (fun y hy => ?_)
  cases e : Lk.onB s.ls i with
  | false => rw [Lk.twS_no (by rw [Lk.twF_no e]; decide)] at hy; exact hy
  | true =>
    obtain ⟨p, rfl, hp⟩ := Lk.onB_yes e
    unfold Lk.twS at hy
    split at hy
    · rcases List.mem_append.1 hy with hy | hy
      · exact hy
      · obtain rfl : y = Lk.at' s.ls p := by simpa using hy
        exact Lk.at_mem hp
    · exact hy
end
end Go.Proofs.YtdnehibcpkjafaaGreatDoor

namespace Go.Proofs.YtdnehibcpkjafaaGreatDoor
open Go.RowKit Go.Lib Go.Sort
set_option linter.unusedVariables false
set_option linter.unusedSimpArgs false


section
variable {n : Int} {x y : En} {r q r' q' : Nat}
theorem Tk.half2 (h : Tk n x y r q r' q') (hm : makeF x = 0) : (takeP y (makeB x) = (4, y) ∧ 12 < (addL y.cm x.m).length) ∨ ∃ y1 r1, takeP y (makeB x) = (0, y1) ∧ readF y1 60 = 0 ∧ readB y1 60 = x.d.extract q r1 ∧ r ≤ r1 ∧ r1 ≤ x.d.size ∧ Tk n (makeS x) (readS y1 60) r1 r1 r' q' ∧ (r' = q' → Ready (readS y1 60) r') ∧ (Ready x r → r1 = x.d.size ∨ r + 1 ≤ r1) ∧ (readS y1 60).m = y.m ∧ (readS y1 60).d = y.d ∧ (readS y1 60).cm = addL y.cm x.m := by
  have hd := makeF_m hm
  obtain ⟨k1, _, k3⟩ := h.make hm
  have hld := Ltr.new h.f h.xi hm
  have hmd : (makeS x).d = x.d := by rw [makeS_is hm]
  have ht : takeP y (makeB x) = come y x.m (frs x) := takeP_made hm h.yi h.f.kn h.f.ym
  have hno := not_mem_next h.yi h.f.ym
  rw [ht]
  rcases k1.f.take k1.g k1.xi k1.yi hld (frs_good h.xi) (by omega) with ⟨e, _⟩ | e | ⟨y1, e1, e2, e3, e4, e5, e6, e7, e8, e9, e9', e10, e11, e12⟩
  · rw [hno] at e; cases e
  · exact .inl e
  · right
    have k2 : Tk n (makeS x) y1 (max r (pk x).2) q r' q' := ⟨k1.xi, e2, e3, e4⟩
    obtain ⟨f1, q2, f2, f3, f4, f5, _, f7⟩ := k2.read 60 (by omega)
    have hq := f7 (by omega)
    subst hq
    have hrm : (readS y1 60).m = y1.m ∧ (readS y1 60).d = y1.d ∧ (readS y1 60).l = y1.l ∧ (readS y1 60).cm = y1.cm := by unfold readS; split <;> exact ⟨rfl, rfl, rfl, rfl⟩
    have hle : max r (pk x).2 ≤ x.d.size := by
      have := f5.f.rd
      rw [hmd] at this
      exact this
    rw [hmd] at f2
    refine ⟨y1, _, e1, f1, f2, Nat.le_max_left _ _, hle, f5, fun hrq => ?_, fun hR => ?_, by rw [hrm.1, e6], by rw [hrm.2.1, e5], by rw [hrm.2.2.2, e12]⟩
    · right
      have c2 := h.xi.c.r2
      have w1 := h.xi.c.w1
      have ce := h.g.ce
      rw [hrm.2.2.1]
      omega
    · have htr := h.f.tr
      have hrd := h.f.rd
      have l0 := h.xi.l0
      have hen : en x ≤ max r (pk x).2 := by
        unfold pk
        split
        · simp only; omega
        · omega
      have een : en x = min x.d.size x.l.toNat := rfl
      rcases hR with hR | hR
      · left; omega
      · by_cases e : max r (pk x).2 = x.d.size
        · exact .inl e
        · right; omega
end
/-- Behind i rounds in which each packet came at once, and all was read (c: how many halves of this round are done). -/
structure Fin2 (n : Int) (i : Nat) (s : Tt) (r q r' q' : Nat) : Prop where
  tk : Tk n s.a s.b r q r' q'
  ma : s.a.m ≤ 40 + i
  mb : s.b.m ≤ 40 + i
  ls : s.ls = []
  eq : 1 ≤ i → q = r ∧ q' = r' ∧ Ready s.a r
  pr : 1 ≤ i → (r = s.a.d.size ∨ i ≤ r + 1) ∧ (r' = s.b.d.size ∨ i ≤ r' + 1)
section
variable {n : Int} {i : Nat} {s : Tt} {r q r' q' : Nat}
theorem Fin2.start {K : Nat} (h : TGood n K s r q r' q') (hK : K ≤ 40) (hl : s.ls = []) : Fin2 n 0 s r q r' q' := ⟨h.tk, Nat.le_trans h.ma hK, Nat.le_trans h.mb hK, hl, fun h => by omega, fun h => by omega⟩
/-- One round: the one's packet, then the other one's; or one of them finds no room. -/
theorem Fin2.round (h : Fin2 n i s r q r' q') (hi : i < 130) : makeF s.a = 0 ∧ (takeP s.b (makeB s.a) = (4, s.b) ∨ ∃ b1 r1, takeP s.b (makeB s.a) = (0, b1) ∧ readF b1 60 = 0 ∧ readB b1 60 = s.a.d.extract q r1 ∧ r1 ≤ s.a.d.size ∧ q ≤ r1 ∧ makeF (readS b1 60) = 0 ∧ (readS b1 60).d = s.b.d ∧ (makeS s.a).d = s.a.d ∧ (takeP (makeS s.a) (makeB (readS b1 60)) = (4, makeS s.a) ∨ ∃ a1 r1', takeP (makeS s.a) (makeB (readS b1 60)) = (0, a1) ∧ readF a1 60 = 0 ∧ readB a1 60 = s.b.d.extract q' r1' ∧ r1' ≤ s.b.d.size ∧ q' ≤ r1' ∧ (readS a1 60).d = s.a.d ∧ (makeS (readS b1 60)).d = s.b.d ∧ Fin2 n (i + 1) ⟨readS a1 60, makeS (readS b1 60), []⟩ r1 r1 r1' r1')) := by
  have hma : makeF s.a = 0 := makeF_zero h.tk.xi (by have := h.ma; omega)
  refine ⟨hma, ?_⟩
  rcases h.tk.half2 hma with ⟨e, _⟩ | ⟨b1, r1, e1, e2, e3, e4, e4', e5, e6, e7, e8, e9, _⟩
  · exact .inl e
  · right
    have hd : (makeS s.a).d = s.a.d := by rw [makeS_is hma]
    have hmm : (makeS s.a).m = s.a.m + 1 := by rw [makeS_is hma]
    have hmb : makeF (readS b1 60) = 0 := makeF_zero e5.yi (by rw [e8]; have := h.mb; omega)
    have hqr := h.tk.f.qr
    refine ⟨b1, r1, e1, e2, e3, e4', by omega, hmb, e9, hd, ?_⟩
    rcases e5.swap.half2 hmb with ⟨g, _⟩ | ⟨a1, r1', g1, g2, g3, g4, g4', g5, g6, g7, g8, g9, _⟩
    · exact .inl g
    · right
      have hd2 : (makeS (readS b1 60)).d = s.b.d := by rw [makeS_is hmb]; exact e9
      have hm2 : (makeS (readS b1 60)).m = (readS b1 60).m + 1 := by rw [makeS_is hmb]
      have hqr' := h.tk.g.qr
      rw [e9] at g3 g4' g7
      refine ⟨a1, r1', g1, g2, g3, g4', by omega, g9.trans hd, hd2, g5.swap, ?_, ?_, rfl, fun _ => ⟨rfl, rfl, g6 rfl⟩, fun _ => ⟨?_, ?_⟩⟩
      · show (readS a1 60).m ≤ 40 + (i + 1)
        rw [g8, hmm]; have := h.ma; omega
      · show (makeS (readS b1 60)).m ≤ 40 + (i + 1)
        rw [hm2, e8]; have := h.mb; omega
      · show r1 = (readS a1 60).d.size ∨ i + 1 ≤ r1 + 1
        rw [g9, hd]
        by_cases h0 : i = 0
        · right; omega
        · obtain ⟨_, _, hR⟩ := h.eq (by omega)
          have hp := (h.pr (by omega)).1
          have := e7 hR
          omega
      · show r1' = (makeS (readS b1 60)).d.size ∨ i + 1 ≤ r1' + 1
        rw [hd2]
        by_cases h0 : i = 0
        · right; omega
        · obtain ⟨_, he, _⟩ := h.eq (by omega)
          have hp := (h.pr (by omega)).2
          have := g7 (e6 he.symm)
          omega
theorem Fin2.all (h : Fin2 n 130 s r q r' q') : q = s.a.d.size ∧ q' = s.b.d.size := by
  obtain ⟨h1, h2, _⟩ := h.eq (by omega)
  obtain ⟨h3, h4⟩ := h.pr (by omega)
  have h5 := h.tk.f.rd
  have h6 := h.tk.g.rd
  have h7 := h.tk.xi.d60
  have h8 := h.tk.yi.d60
  omega
end
/-- The first m numbers. -/
def seqL (m : Nat) : List R := if m = 0 then [] else [(0, (m : Int) - 1)]
theorem seqL_add (m : Nat) : addL (seqL m) m = seqL (m + 1) := by
  unfold addL seqL
  by_cases h : m = 0
  · subst h; rfl
  · rw [if_neg h, if_neg (by omega), withF, if_neg (by simp only; omega), if_neg (by simp only; omega)]
    rw [if_pos (show (0 : Int) < (m : Int) by omega), if_neg (show ¬ (m : Int) < (m : Int) - 1 by omega)]
    simp [withF]
/-- Two of which neither wrote, and all that was sent came. -/
structure Sil (n : Int) (K : Nat) (x y : En) : Prop where
  tk : Tk n x y 0 0 0 0
  dx : x.d = nilB
  dy : y.d = nilB
  cx : x.cm = seqL y.m
  cy : y.cm = seqL x.m
  mx : x.m ≤ K
  my : y.m ≤ K
theorem Sil.new {n : Int} (hn : Cx.winB n = true) : Sil n 0 (newE n) (newE n) := ⟨Tk.new hn, rfl, rfl, rfl, rfl, Nat.le_refl _, Nat.le_refl _⟩
theorem Sil.swap {n : Int} {K : Nat} {x y : En} (h : Sil n K x y) : Sil n K y x := ⟨h.tk.swap, h.dy, h.dx, h.cy, h.cx, h.my, h.mx⟩
theorem Sil.half {n : Int} {K : Nat} {x y : En} (h : Sil n K x y) (hK : K ≤ 1000) : makeF x = 0 ∧ ∃ y1, takeP y (makeB x) = (0, y1) ∧ readF y1 60 = 0 ∧ readB y1 60 = nilB ∧ Sil n (K + 1) (makeS x) (readS y1 60) := by
  have hm : makeF x = 0 := makeF_zero h.tk.xi (by have := h.mx; omega)
  refine ⟨hm, ?_⟩
  have hx : (makeS x).d = x.d ∧ (makeS x).m = x.m + 1 ∧ (makeS x).cm = x.cm := by rw [makeS_is hm]; exact ⟨rfl, rfl, rfl⟩
  have hs : x.d.size = 0 := by rw [h.dx]; rfl
  rcases h.tk.half2 hm with ⟨_, e⟩ | ⟨y1, r1, e1, e2, e3, e4, e4', e5, _, _, e8, e9, e10⟩
  · rw [h.cy, seqL_add] at e
    have : (seqL (x.m + 1)).length ≤ 1 := by unfold seqL; split <;> simp
    omega
  · have hr : r1 = 0 := by omega
    subst hr
    refine ⟨y1, e1, e2, ?_, e5, by rw [hx.1, h.dx], by rw [e9, h.dy], by rw [hx.2.2, e8, h.cx], by rw [e10, h.cy, seqL_add, hx.2.1], ?_, ?_⟩
    · rw [e3, h.dx]; rfl
    · rw [hx.2.1]; have := h.mx; omega
    · rw [e8]; have := h.my; omega
end Go.Proofs.YtdnehibcpkjafaaGreatDoor
