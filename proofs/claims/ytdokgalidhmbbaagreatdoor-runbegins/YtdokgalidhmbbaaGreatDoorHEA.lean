/- What the laws of package run need. -/
import Derived.Test.YtdokgalidhmbbaaGreatDoorHQ
import Derived.Test.YtdokgalidhmbbaaGreatDoorHS
import Derived.Test.YtdokgalidhmbbaaGreatDoorHC
set_option linter.unusedVariables false
set_option linter.unusedSimpArgs false
set_option maxRecDepth 100000
set_option maxHeartbeats 8000000
namespace Go.Proofs.YtdokgalidhmbbaaGreatDoor
open Go.RowKit Go.Lib Go.Sort

def withF : R → Bool → List R → List R
  | x, p, [] => if p then [] else [x]
  | x, p, r :: rs => if x.2 + 1 < r.1 then r :: withF x p rs
    else if r.2 < x.1 - 1 then (if p then r :: withF x true rs else x :: r :: withF x true rs)
    else withF (if r.1 < x.1 then r.1 else x.1, if x.2 < r.2 then r.2 else x.2) p rs

theorem with_true : ∀ (rs : List R) (x : R), x.1 ≤ x.2 → (∀ s, s ∈ rs → s.1 ≤ s.2 ∧ s.2 + 1 < x.1) → withF x true rs = rs
  | [], x, _, _ => rfl
  | r :: rs, x, hx, h => by
    have hr := h r List.mem_cons_self
    rw [withF, if_neg (by omega), if_pos (by omega), if_pos rfl, with_true rs x hx (fun s hs => h s (List.mem_cons_of_mem _ hs))]
theorem with_false : ∀ (rs : List R) (x : R), x.1 ≤ x.2 → Norm rs → Norm (withF x false rs) ∧ ∀ n, Mem (withF x false rs) n ↔ (x.1 ≤ n ∧ n ≤ x.2) ∨ Mem rs n
  | [], x, hx, _ => by
    refine ⟨⟨hx, fun s hs => by simp at hs, trivial⟩, fun n => ?_⟩
    show Mem [x] n ↔ _
    rw [mem_one]
    exact ⟨.inl, fun h => h.resolve_right (mem_nil n)⟩
  | r :: rs, x, hx, hn => by
    rw [withF]
    by_cases h1 : x.2 + 1 < r.1
    · rw [if_pos h1]
      obtain ⟨i1, i2⟩ := with_false rs x hx hn.2.2
      refine ⟨⟨hn.1, fun s hs => ?_, i1⟩, fun n => ?_⟩
      · have hs1 := norm_le i1 s hs
        rcases (i2 s.2).1 ⟨s, hs, hs1, Int.le_refl _⟩ with a | ⟨q, hq, a, b⟩
        · omega
        · have := hn.2.1 q hq; omega
      · rw [mem_cons, mem_cons, i2 n]
        constructor
        · rintro (a | a | a)
          · exact .inr (.inl a)
          · exact .inl a
          · exact .inr (.inr a)
        · rintro (a | a | a)
          · exact .inr (.inl a)
          · exact .inl a
          · exact .inr (.inr a)
    · rw [if_neg h1]
      by_cases h2 : r.2 < x.1 - 1
      · rw [if_pos h2, if_neg (by decide)]
        have e : withF x true rs = rs := with_true rs x hx (fun s hs => ⟨norm_le hn.2.2 s hs, by have := hn.2.1 s hs; have := hn.1; omega⟩)
        rw [e]
        refine ⟨⟨hx, fun s hs => ?_, hn⟩, fun n => by rw [mem_cons]⟩
        rcases List.mem_cons.1 hs with rfl | hs
        · omega
        · have := hn.2.1 s hs; have := hn.1; omega
      · rw [if_neg h2]
        have hr := hn.1
        have hx' : (if r.1 < x.1 then r.1 else x.1) ≤ (if x.2 < r.2 then r.2 else x.2) := by (repeat' split) <;> omega
        obtain ⟨i1, i2⟩ := with_false rs ((if r.1 < x.1 then r.1 else x.1), (if x.2 < r.2 then r.2 else x.2)) hx' hn.2.2
        refine ⟨i1, fun n => ?_⟩
        rw [i2 n, mem_cons]
        show ((if r.1 < x.1 then r.1 else x.1) ≤ n ∧ n ≤ (if x.2 < r.2 then r.2 else x.2)) ∨ Mem rs n ↔ _
        constructor
        · rintro (a | a)
          · by_cases q1 : x.1 ≤ n ∧ n ≤ x.2
            · exact .inl q1
            · refine .inr (.inl ?_)
              obtain ⟨a1, a2⟩ := a
              split at a1 <;> split at a2 <;> omega
          · exact .inr (.inr a)
        · rintro (a | a | a)
          · exact .inl ⟨by split <;> omega, by split <;> omega⟩
          · exact .inl ⟨by split <;> omega, by split <;> omega⟩
          · exact .inr a
open Sx (bat)
def nilB : ByteArray := { data := #[] }
/-- The packets from lo to hi had the bytes from a up to b. -/
structure Ld where
  lo : Nat
  hi : Nat
  a : Nat
  b : Nat
/-- What was written; how many of its first bytes were told to be there; how far they are let; how many packets were made; the greatest of them that was told to be there; what they had; the other one's bytes; how far these are let; the other one's numbers. -/
structure En where
  d : ByteArray
  t : Nat
  l : Int
  m : Nat
  k : Int
  ls : List Ld
  s : Sx.St
  c : Cx.St
  cm : List R
def newE (n : Int) : En := ⟨nilB, 0, n, 0, -1, [], Sx.newS, Cx.newS n, []⟩
/-- Up to where bytes may be sent. -/
def en (e : En) : Nat := min e.d.size e.l.toNat
structure EInv (e : En) : Prop where
  d60 : e.d.size ≤ 60
  t1 : e.t ≤ en e
  l0 : 1 ≤ e.l
  l1 : e.l ≤ 1073741823
  m1 : e.m ≤ 1073741824
  k0 : -1 ≤ e.k
  k1 : e.k < e.m
  ls : ∀ x ∈ e.ls, x.hi < e.m ∧ (x.a < x.b ∨ (x.a = 0 ∧ x.b = 0)) ∧ x.a ≤ e.t ∧ x.b ≤ en e
  s : Sx.Inv e.s
  c : Cx.Inv e.c
  cm : chk e.cm = 0
  ll : e.ls.length ≤ e.m
theorem en_le (e : En) : en e ≤ e.d.size := Nat.min_le_left _ _
theorem EInv.en60 {e : En} (h : EInv e) : en e ≤ 60 := Nat.le_trans (en_le e) h.d60
theorem EInv.new {n : Int} (h : Cx.winB n = true) : EInv (newE n) := by
  have h' : 1 ≤ n ∧ n ≤ 1000 := of_decide_eq_true h
  refine ⟨(show 0 ≤ 60 by omega), by simp [newE], h'.1, by simp [newE]; omega, by simp [newE], by simp [newE], by simp [newE], fun x hx => by simp [newE] at hx, Sx.Inv.new, Cx.Inv.start h, rfl, by simp [newE]⟩
/-- Write. -/
def writeF (e : En) (b : ByteArray) : Int := if 60 < e.d.size + b.size then 4 else 0
def writeS (e : En) (b : ByteArray) : En := if 60 < e.d.size + b.size then e else { e with d := e.d ++ b }
theorem en_write (e : En) (b : ByteArray) : en e ≤ en { e with d := e.d ++ b } := by
  unfold en
  simp only [ByteArray.size_append]
  omega
theorem EInv.write {e : En} (h : EInv e) (b : ByteArray) : EInv (writeS e b) := by
  unfold writeS
  split
  · exact h
  · rename_i h0
    have hen := en_write e b
    refine ⟨by simp only [ByteArray.size_append]; omega, Nat.le_trans h.t1 hen, h.l0, h.l1, h.m1, h.k0, h.k1, fun x hx => ?_, h.s, h.c, h.cm, h.ll⟩
    have := h.ls x hx
    exact ⟨this.1, this.2.1, this.2.2.1, Nat.le_trans this.2.2.2 hen⟩
/-- Read. -/
def readF (e : En) (n : Int) : Int := if n < 0 then 1 else Cx.getF e.c (Sx.takeN e.s n : Nat)
def readB (e : En) (n : Int) : ByteArray := if readF e n = 0 then strOfNums (Sx.takeL e.s n) else nilB
def readS (e : En) (n : Int) : En := if readF e n = 0 then { e with s := Sx.takeS e.s n, c := Cx.getS e.c (Sx.takeN e.s n : Nat) } else e
theorem EInv.read {e : En} (h : EInv e) (n : Int) : EInv (readS e n) := by
  unfold readS
  split
  · exact ⟨h.d60, h.t1, h.l0, h.l1, h.m1, h.k0, h.k1, h.ls, h.s.take n, h.c.get _, h.cm, h.ll⟩
  · exact h
/-- Make: the pieces from a place on up to b, no more than n. -/
def pcs (d : ByteArray) (b : Nat) : Nat → Nat → List (Nat × ByteArray)
  | 0, _ => []
  | n + 1, a => if a < b then (a, d.extract a (min b (a + 20))) :: pcs d b n (min b (a + 20)) else []
def pieces (e : En) : List (Nat × ByteArray) := pcs e.d (en e) 3 e.t
theorem pcs_end (d : ByteArray) (b : Nat) : ∀ n, pcs d b n b = []
  | 0 => rfl
  | n + 1 => by simp [pcs]
theorem pcs_length (d : ByteArray) (b : Nat) : ∀ n a, (pcs d b n a).length ≤ n
  | 0, _ => by simp [pcs]
  | n + 1, a => by
    simp only [pcs]
    split
    · simpa using pcs_length d b n _
    · simp
theorem pcs_each (d : ByteArray) (b : Nat) (hb : b ≤ d.size) : ∀ n a, ∀ p ∈ pcs d b n a, a ≤ p.1 ∧ p.1 + p.2.size ≤ b ∧ 1 ≤ p.2.size ∧ p.2.size ≤ 20
  | 0, _, p, h => by simp [pcs] at h
  | n + 1, a, p, h => by
    simp only [pcs] at h
    split at h
    · rename_i hab
      rcases List.mem_cons.1 h with rfl | h
      · simp only [ByteArray.size_extract]
        omega
      · have := pcs_each d b hb n _ p h
        omega
    · simp at h
def pfr (p : Nat × ByteArray) : F := (3, [(p.1 : Int)], p.2)
def frs (e : En) : List F := (if e.cm = [] then [] else [(2, unr e.cm, nilB)]) ++ (4, [e.c.lim], nilB) :: (pieces e).map pfr
def makeF (e : En) : Int := pkF e.m e.k (frs e)
def makeB (e : En) : ByteArray := if makeF e = 0 then pkS e.m e.k (frs e) else nilB
def pk (e : En) : Nat × Nat := if e.t < en e then (e.t, en e) else (0, 0)
/-- One more packet had the bytes from a up to b. -/
def keepL (ls : List Ld) (m a b : Nat) : List Ld := match ls.getLast? with
  | none => [⟨m, m, a, b⟩]
  | some x => if x.a = a ∧ x.b = b then ls.dropLast ++ [⟨x.lo, m, a, b⟩] else ls ++ [⟨m, m, a, b⟩]
def makeS (e : En) : En := if makeF e = 0 then { e with ls := keepL e.ls e.m (pk e).1 (pk e).2, m := e.m + 1 } else e
theorem pk_ok {e : En} (h : EInv e) : ((pk e).1 < (pk e).2 ∨ ((pk e).1 = 0 ∧ (pk e).2 = 0)) ∧ (pk e).1 ≤ e.t ∧ (pk e).2 ≤ en e := by
  unfold pk
  split
  · exact ⟨.inl ‹_›, Nat.le_refl _, Nat.le_refl _⟩
  · exact ⟨.inr ⟨rfl, rfl⟩, Nat.zero_le _, Nat.zero_le _⟩
theorem keepL_mem {ls : List Ld} {m a b : Nat} {x : Ld} (h : x ∈ keepL ls m a b) : (x.hi = m ∧ x.a = a ∧ x.b = b) ∨ x ∈ ls := by
  unfold keepL at h
  split at h
  · simp at h; subst h; exact .inl ⟨rfl, rfl, rfl⟩
  · split at h
    · rcases List.mem_append.1 h with h | h
      · exact .inr (List.dropLast_subset _ h)
      · simp at h; subst h; exact .inl ⟨rfl, rfl, rfl⟩
    · rcases List.mem_append.1 h with h | h
      · exact .inr h
      · simp at h; subst h; exact .inl ⟨rfl, rfl, rfl⟩
theorem keepL_length (ls : List Ld) (m a b : Nat) : (keepL ls m a b).length ≤ ls.length + 1 := by
  unfold keepL
  split
  · show 1 ≤ _
    omega
  · split
    · rw [List.length_append, List.length_dropLast]
      show ls.length - 1 + 1 ≤ _
      omega
    · rw [List.length_append]
      show ls.length + 1 ≤ _
      omega
theorem makeF_m {e : En} (h : makeF e = 0) : e.m ≤ 1073741823 := by
  obtain ⟨hp, _⟩ := pkF_ok h
  obtain ⟨_, h1, _⟩ := U.pairB_yes hp
  omega
theorem EInv.make {e : En} (h : EInv e) : EInv (makeS e) := by
  unfold makeS
  split
  · rename_i h0
    have hm := makeF_m h0
    have hp := pk_ok h
    refine ⟨h.d60, h.t1, h.l0, h.l1, by simp only; omega, h.k0, by have := h.k1; simp only; omega, fun x hx => ?_, h.s, h.c, h.cm, Nat.le_trans (keepL_length _ _ _ _) (by have := h.ll; simp only; omega)⟩
    rcases keepL_mem hx with ⟨e1, e2, e3⟩ | hx
    · refine ⟨by simp only; omega, by rw [e2, e3]; exact hp.1, by rw [e2]; exact hp.2.1, by rw [e3]; exact hp.2.2⟩
    · have := h.ls x hx
      exact ⟨by have := this.1; simp only; omega, this.2.1, this.2.2.1, this.2.2.2⟩
  · exact h
/-- Take: what the packets of these numbers had is there. -/
def tell1 (ls : List Ld) (t : Nat) (r : R) : Nat := ls.foldl (fun t x => if (x.hi : Int) < r.1 ∨ r.2 < (x.lo : Int) then t else max t x.b) t
def tells (ls : List Ld) (t : Nat) (rs : List R) : Nat := rs.foldl (tell1 ls) t
theorem tell1_le {ls : List Ld} {b : Nat} (r : R) : ∀ t, t ≤ b → (∀ x ∈ ls, x.b ≤ b) → t ≤ tell1 ls t r ∧ tell1 ls t r ≤ b := by
  unfold tell1
  induction ls with
  | nil => intro t h _; exact ⟨Nat.le_refl _, h⟩
  | cons x ls ih =>
    intro t h hx
    simp only [List.foldl_cons]
    have hxb := hx x List.mem_cons_self
    split
    · exact ih t h fun y hy => hx y (List.mem_cons_of_mem _ hy)
    · have := ih (max t x.b) (by omega) fun y hy => hx y (List.mem_cons_of_mem _ hy)
      omega
theorem tells_le {ls : List Ld} {b : Nat} (hx : ∀ x ∈ ls, x.b ≤ b) : ∀ (rs : List R) t, t ≤ b → t ≤ tells ls t rs ∧ tells ls t rs ≤ b := by
  intro rs
  unfold tells
  induction rs with
  | nil => intro t h; exact ⟨Nat.le_refl _, h⟩
  | cons r rs ih =>
    intro t h
    simp only [List.foldl_cons]
    have h1 := tell1_le (ls := ls) r t h hx
    have h2 := ih (tell1 ls t r) h1.2
    omega
def first (ns : List Int) : Int := ns[0]?.getD 0
/-- One frame of a packet: what is wrong, and what is left. -/
def stpE (e : En) (f : F) : Int × En :=
  if f.1 = 2 then (if (e.m : Int) ≤ first f.2.1 then (6, e) else (0, { e with k := max e.k (first f.2.1), t := tells e.ls e.t (rgs f.2.1) }))
  else if f.1 = 4 then (0, { e with l := max e.l (first f.2.1) })
  else if f.1 = 3 then
    (if Cx.takeF e.c (first f.2.1 + f.2.2.size) ≠ 0 then (Cx.takeF e.c (first f.2.1 + f.2.2.size), e)
     else (Sx.putF e.s (first f.2.1) f.2.2, { e with c := Cx.takeS e.c (first f.2.1 + f.2.2.size), s := Sx.putS e.s (first f.2.1) f.2.2 }))
  else (3, e)
def runF : List F → En → Int × En
  | [], e => (0, e)
  | f :: fs, e => if (stpE e f).1 ≠ 0 then stpE e f else runF fs (stpE e f).2
def nextN (e : En) : Int := match e.cm with
  | [] => 0
  | r :: _ => r.2 + 1
def addL (cm : List R) (n : Int) : List R := withF (n, n) false cm
/-- A packet whose number and frames were read. -/
def come (e : En) (n : Int) (fs : List F) : Int × En :=
  if memB e.cm n = true then (0, e)
  else if (runF fs e).1 ≠ 0 then ((runF fs e).1, e)
  else if 12 < (addL e.cm n).length then (4, e)
  else (0, { (runF fs e).2 with cm := addL e.cm n })
def takeP (e : En) (b : ByteArray) : Int × En :=
  if opF b (nextN e) ≠ 0 then (opF b (nextN e), e)
  else match rdP b (nextN e) with
  | none => (2, e)
  | some (n, fs) => come e n fs
theorem first_may {ns : List Int} (h : Mays ns) : 0 ≤ first ns ∧ first ns ≤ 1073741823 := by
  cases ns with
  | nil => simp [first]
  | cons a ns =>
    have := h a List.mem_cons_self
    simp [first] at this ⊢
    omega
theorem EInv.stp {e : En} (h : EInv e) {f : F} (hf : fF f = 0) : EInv (stpE e f).2 := by
  obtain ⟨h1, h2, h3, h4, h5, h6⟩ := frF_ok hf
  have hm := first_may h4
  unfold Go.Proofs.YtdokgalidhmbbaaGreatDoor.stpE
  split
  · split
    · exact h
    · rename_i hlt
      have ht := tells_le (fun x hx => (h.ls x hx).2.2.2) (rgs f.2.1) e.t h.t1
      refine ⟨h.d60, ht.2, h.l0, h.l1, h.m1, by have := h.k0; simp only; omega, by have := h.k1; simp only; omega, fun x hx => ?_, h.s, h.c, h.cm, h.ll⟩
      have := h.ls x hx
      exact ⟨this.1, this.2.1, by simp only; omega, this.2.2.2⟩
  · split
    · have hen : en e ≤ en { e with l := max e.l (first f.2.1) } := by unfold en; simp only; omega
      refine ⟨h.d60, Nat.le_trans h.t1 hen, by have := h.l0; simp only; omega, by have := h.l1; simp only; omega, h.m1, h.k0, h.k1, fun x hx => ?_, h.s, h.c, h.cm, h.ll⟩
      have := h.ls x hx
      exact ⟨this.1, this.2.1, this.2.2.1, Nat.le_trans this.2.2.2 hen⟩
    · split
      · split
        · exact h
        · exact ⟨h.d60, h.t1, h.l0, h.l1, h.m1, h.k0, h.k1, h.ls, h.s.put _ _, h.c.take _, h.cm, h.ll⟩
      · exact h
theorem addL_ok {cm : List R} {n : Int} (h : chk cm = 0) : Norm (addL cm n) ∧ (∀ k, Mem (addL cm n) k ↔ Mem cm k ∨ k = n) := by
  obtain ⟨_, _, hn⟩ := (chk_ok cm).1 h
  obtain ⟨i1, i2⟩ := with_false cm (n, n) (Int.le_refl _) hn
  refine ⟨i1, fun k => ?_⟩
  show Mem (withF _ _ _) k ↔ _
  rw [i2 k]
  constructor
  · rintro (a | a)
    · exact .inr (by simp only at a; omega)
    · exact .inl a
  · rintro (a | rfl)
    · exact .inr a
    · exact .inl ⟨Int.le_refl _, Int.le_refl _⟩
theorem addL_is {cm zs : List R} {n : Int} (h : chk cm = 0) (hn : Norm zs) (hm : ∀ k, Mem zs k ↔ Mem cm k ∨ k = n) : zs = addL cm n :=
  norm_unique hn (addL_ok h).1 fun k => (hm k).trans ((addL_ok h).2 k).symm
theorem addL_chk {cm : List R} {n : Int} (h : chk cm = 0) (hn : isN n = true) (hl : (addL cm n).length ≤ 12) : chk (addL cm n) = 0 := by
  obtain ⟨_, h2, _⟩ := (chk_ok cm).1 h
  obtain ⟨i1, i2⟩ := addL_ok (n := n) h
  have hb : ∀ k, Mem (addL cm n) k → 0 ≤ k ∧ k ≤ 1073741823 := fun k hk => by
    rcases (i2 k).1 hk with ⟨r, hr, a, b⟩ | rfl
    · have := h2 r hr
      omega
    · exact (isN_iff k).1 hn
  refine (chk_ok _).2 ⟨hl, fun r hr => ?_, i1⟩
  have hle := norm_le i1 r hr
  have a := hb r.1 ⟨r, hr, Int.le_refl _, hle⟩
  have b := hb r.2 ⟨r, hr, hle, Int.le_refl _⟩
  exact ⟨a.1, b.2⟩
end Go.Proofs.YtdokgalidhmbbaaGreatDoor
