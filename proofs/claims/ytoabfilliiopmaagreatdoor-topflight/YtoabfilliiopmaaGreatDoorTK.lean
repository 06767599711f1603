/- TopFlight: which packets are gone, how many bytes come off a window; whether a number is in a list. -/
import Derived.Test.YtoabfilliiopmaaGreatDoorLT
import Derived.Test.YtoabfilliiopmaaGreatDoorWX
import Derived.Test.YtoabfilliiopmaaGreatDoorTX
import Derived.Deep.LoopGhost
import Derived.Deep.DeepCutAuto
namespace Go.Proofs.YtoabfilliiopmaaGreatDoor
open Go.RowKit Go.Lib Go.Sort
set_option linter.unusedVariables false
set_option linter.unusedSimpArgs false


open Lx (S3 at3 wayL leftL lostL lostB reachB sc scFrom okS behB badB)
theorem beh_trans {a b c : S3} (h1 : behB b a = true) (h2 : behB c b = true) : behB c a = true := by
  simp only [behB, Bool.and_eq_true, decide_eq_true_eq] at *
  omega
theorem sc_pair : ∀ (zs : List S3) (p : Option S3), scFrom p zs = 0 → (∀ s, s ∈ zs → okS s = true) ∧ (∀ q, p = some q → ∀ s, s ∈ zs → behB s q = true) ∧ zs.Pairwise fun a b => behB b a = true
  | [], p, _ => ⟨fun s h => by simp at h, fun q _ s h => by simp at h, .nil⟩
  | a :: zs, p, h => by
    cases h1 : okS a with
    | false => rw [Lx.sc_1 p a zs h1] at h; cases h
    | true =>
      cases h2 : badB p a with
      | true => rw [Lx.sc_3 p a zs h1 h2] at h; cases h
      | false =>
        rw [Lx.sc_0 p a zs h1 h2] at h
        obtain ⟨i1, i2, i3⟩ := sc_pair zs (some a) h
        have i2' := i2 a rfl
        refine ⟨fun s hs => ?_, fun q hq s hs => ?_, .cons i2' i3⟩
        · rcases List.mem_cons.1 hs with rfl | hs
          · exact h1
          · exact i1 s hs
        · subst hq
          have hq : behB a q = true := by simpa [badB] using h2
          rcases List.mem_cons.1 hs with rfl | hs
          · exact hq
          · exact beh_trans hq (i2' s hs)
theorem sc_of : ∀ (zs : List S3) (p : Option S3), (∀ s, s ∈ zs → okS s = true) → (∀ q, p = some q → ∀ s, s ∈ zs → behB s q = true) → zs.Pairwise (fun a b => behB b a = true) → scFrom p zs = 0
  | [], _, _, _, _ => rfl
  | a :: zs, p, h1, h2, h3 => by
    have hb : badB p a = false := by
      cases p with
      | none => rfl
      | some q => simp [badB, h2 q rfl a List.mem_cons_self]
    rw [Lx.sc_0 p a zs (h1 a List.mem_cons_self) hb]
    cases h3 with
    | cons h4 h5 => exact sc_of zs (some a) (fun s hs => h1 s (List.mem_cons_of_mem _ hs)) (fun q hq s hs => by cases hq; exact h4 s hs) h5
theorem sc_left {zs : List S3} {acks : List R} (h : sc zs = 0) : sc (leftL acks zs) = 0 := by
  have hl := (Lx.sc_good h).1
  have h0 : scFrom none zs = 0 := by unfold sc at h; rwa [if_neg (by omega)] at h
  obtain ⟨h1, _, h3⟩ := sc_pair zs none h0
  unfold sc
  rw [if_neg (by have := Lx.left_length acks zs; omega)]
  exact sc_of _ none (fun s hs => h1 s (Lx.left_sub hs).1) (fun q hq => by cases hq) (h3.filter _)
/-- A packet that is told as lost. -/
def goneB (acks : List R) (now wait : Int) (s : S3) : Bool := !memB acks s.1 && lostB acks now wait s
theorem at3_inj {zs : List S3} (h : zs.Pairwise fun a b => a.1 < b.1) {s : S3} {k : Nat} (hs : s ∈ zs) (hk : k < zs.length) (e : s.1 = (at3 zs k).1) : s = at3 zs k := by
  obtain ⟨i, hi, rfl⟩ := List.getElem_of_mem hs
  have ek : at3 zs k = zs[k] := by simp [at3, hk]
  rw [ek] at e ⊢
  rcases Nat.lt_trichotomy i k with h1 | h1 | h1
  · have := List.pairwise_iff_getElem.1 h i k hi hk h1; omega
  · subst h1; rfl
  · have := List.pairwise_iff_getElem.1 h k i hk hi h1; omega
theorem gone_is {zs : List S3} {acks : List R} {now wait : Int} {k : Nat} (h : sc zs = 0) (hk : k < zs.length) : decide ((at3 zs k).1 ∈ lostL acks now wait zs) = goneB acks now wait (at3 zs k) := by
  have hp := (Lx.sc_good h).2.2
  rw [Bool.eq_iff_iff, decide_eq_true_iff, Lx.lostL_mem]
  constructor
  · rintro ⟨s, h1, h2, h3⟩
    obtain ⟨h4, h5⟩ := Lx.left_sub h1
    obtain rfl := at3_inj hp h4 hk h3
    simp [goneB, h5, h2]
  · intro hg
    simp only [goneB, Bool.and_eq_true, Bool.not_eq_true'] at hg
    exact ⟨at3 zs k, List.mem_filter.2 ⟨Lx.at3_mem hk, by simp [hg.1]⟩, hg.2, rfl⟩
/-- The bytes of those among the first k that p tells. -/
def filL (p : S3 → Bool) (zs : List S3) (k : Nat) : Int := wayL ((zs.take k).filter p)
theorem fil_next (p : S3 → Bool) {zs : List S3} {k : Nat} (hk : k < zs.length) : filL p zs (k + 1) = filL p zs k + (if p (at3 zs k) = true then (at3 zs k).2.2 else 0) := by
  have e : at3 zs k = zs[k] := by simp [at3, hk]
  rw [e]
  unfold filL
  rw [List.take_succ_eq_append_getElem hk, List.filter_append]
  unfold wayL
  rw [List.map_append, List.sum_append]
  by_cases hp : p zs[k] = true <;> simp [hp]
theorem size_at {zs : List S3} {k : Nat} (h : sc zs = 0) (hk : k < zs.length) : (0 ≤ (at3 zs k).1 ∧ (at3 zs k).1 ≤ 1073741823) ∧ (0 ≤ (at3 zs k).2.1 ∧ (at3 zs k).2.1 ≤ 100000) ∧ 1 ≤ (at3 zs k).2.2 ∧ (at3 zs k).2.2 ≤ 200 :=
  (Lx.okS_iff _).1 ((Lx.sc_good h).2.1 _ (Lx.at3_mem hk))
section
variable {zs : List S3} {acks : List R} {now wait : Int}
/-- What came, and is gone, is no more than was sent so far. -/
theorem off_le (h : sc zs = 0) : ∀ k, k ≤ zs.length → 0 ≤ filL (fun s => memB acks s.1) zs k ∧ 0 ≤ filL (goneB acks now wait) zs k ∧ filL (fun s => memB acks s.1) zs k + filL (goneB acks now wait) zs k ≤ wayL (zs.take k)
  | 0, _ => by simp [filL, wayL]
  | k + 1, hk => by
    obtain ⟨i1, i2, i3⟩ := off_le h k (by omega)
    have hs := size_at h (show k < zs.length by omega)
    rw [fil_next _ (show k < zs.length by omega), fil_next _ (show k < zs.length by omega), Lx.way_next (by omega)]
    by_cases hm : memB acks (at3 zs k).1 = true
    · have hg : goneB acks now wait (at3 zs k) = false := by simp [goneB, hm]
      rw [if_pos hm, hg, if_neg (by decide)]
      omega
    · rw [if_neg hm]
      split <;> omega
theorem way_le (h : sc zs = 0) : ∀ d k, k + d = zs.length → wayL (zs.take k) ≤ wayL zs
  | 0, k, hk => by rw [List.take_of_length_le (by omega)]; exact Int.le_refl _
  | d + 1, k, hk => by
    have := way_le h d (k + 1) (by omega)
    have hs := size_at h (show k < zs.length by omega)
    rw [Lx.way_next (by omega)] at this
    omega
theorem left_is (h : sc zs = 0) : ∀ k, k ≤ zs.length → wayL (leftL acks (zs.take k)) = wayL (zs.take k) - filL (fun s => memB acks s.1) zs k
  | 0, _ => by simp [filL, wayL, leftL]
  | k + 1, hk => by
    have i := left_is h k (by omega)
    have e1 := fil_next (fun s => !memB acks s.1) (zs := zs) (show k < zs.length by omega)
    have e2 : ∀ j, filL (fun s => !memB acks s.1) zs j = wayL (leftL acks (zs.take j)) := fun j => rfl
    rw [e2, e2] at e1
    rw [e1, i, fil_next _ (show k < zs.length by omega), Lx.way_next (by omega)]
    cases memB acks (at3 zs k).1 <;> simp <;> omega
theorem left_way (h : sc zs = 0) : wayL (leftL acks zs) = wayL zs - filL (fun s => memB acks s.1) zs zs.length := by
  have := left_is (acks := acks) h zs.length (Nat.le_refl _)
  rwa [List.take_length] at this
theorem way_at (h : sc zs = 0) {k : Nat} (hk : k ≤ zs.length) : 0 ≤ wayL (zs.take k) ∧ wayL (zs.take k) ≤ 200 * k := Lx.way_small (Lx.sc_good h).2.1 k hk
theorem way_top (h : sc zs = 0) : 0 ≤ wayL zs ∧ wayL zs ≤ 6000 := by
  have := way_at h (Nat.le_refl zs.length)
  have := (Lx.sc_good h).1
  rw [List.take_length] at *
  omega
/-- Behind k packets: how much is under way, and what is left of the rest. -/
theorem off_next (h : sc zs = 0) {k : Nat} (hk : k < zs.length) : (at3 zs k).2.2 ≤ wayL zs - filL (fun s => memB acks s.1) zs k - filL (goneB acks now wait) zs k := by
  have h1 := (off_le (acks := acks) (now := now) (wait := wait) h k (by omega)).2.2
  have h2 := way_le h (zs.length - (k + 1)) (k + 1) (by omega)
  rw [Lx.way_next hk] at h2
  omega
theorem head_top (h : chk acks = 0) {n : Int} (hr : reachB acks n = true) : 0 < acks.length ∧ n ≤ (at' acks 0).2 := by
  have hN := ((chk_ok acks).1 h).2.2
  simp only [reachB, List.any_eq_true, decide_eq_true_eq] at hr
  obtain ⟨r, h1, h2⟩ := hr
  cases acks with
  | nil => simp at h1
  | cons a l =>
    refine ⟨by simp, ?_⟩
    show n ≤ a.2
    rcases List.mem_cons.1 h1 with rfl | h1
    · exact h2
    · have := hN.2.1 r h1
      have := hN.1
      omega
/-- What is gone though no older than the wait has three ahead. -/
theorem gone_ahead (h : chk acks = 0) {s : S3} (hg : goneB acks now wait s = true) (hw : now - s.2.1 < wait) : 0 < acks.length ∧ s.1 + 3 ≤ (at' acks 0).2 := by
  simp only [goneB, Bool.and_eq_true, lostB, Bool.or_eq_true, decide_eq_true_eq] at hg
  rcases hg.2 with h1 | h1
  · exact head_top h h1
  · omega
end
theorem lostF_0 {zs : List S3} {acks : List R} {now wait : Int} (h : Lx.lostF zs acks now wait = 0) : Lx.both zs acks = 0 ∧ Lx.isT now = true ∧ Lx.isW wait = true := by
  unfold Lx.lostF at h
  by_cases h0 : Lx.both zs acks = 0
  · rw [if_pos h0] at h
    by_cases h1 : Lx.isT now = true ∧ Lx.isW wait = true
    · exact ⟨h0, h1.1, h1.2⟩
    · rw [if_neg h1] at h; cases h
  · rw [if_neg h0] at h; exact absurd h h0
theorem win_ok {a d y n : Int} (a0 : 400 ≤ a) (a1 : a ≤ 100000) (d0 : 400 ≤ d) (d1 : d ≤ 100000) (y0 : 0 ≤ y) (y1 : y ≤ 100000) (n0 : 1 ≤ n) (n1 : n ≤ 200) : Wx.bB a d y n = true := by
  simp [Wx.bB, Wx.wB, Wx.szB, Wx.wyB, Wx.pkB, a0, a1, d0, d1, y0, y1, n0, n1]
theorem cameS_in {a d n : Int} (a0 : 400 ≤ a) (a1 : a ≤ 100000) (n0 : 1 ≤ n) (n1 : n ≤ 200) : 400 ≤ Wx.cameS a d n ∧ Wx.cameS a d n ≤ 100000 := by
  have hg : 0 ≤ Wx.grw a d n := by
    unfold Wx.grw
    split
    · omega
    · exact Int.ediv_nonneg (by omega) (by omega)
  unfold Wx.cameS
  split <;> omega
theorem lostS_in {a : Int} (a0 : 400 ≤ a) (a1 : a ≤ 100000) : 400 ≤ Wx.lostS a ∧ Wx.lostS a ≤ 100000 := by
  unfold Wx.lostS
  split <;> omega
set_option maxRecDepth 100000 in
set_option maxHeartbeats 4000000 in
theorem in0_calls (v : Value) (xs : List Int) (n : Int) (w : World) (hR : Lx.IRow w v xs) : Calls Tryz.prog 32 #[v, .int .i64 n] w fun e w' => e = .returned (.bool (decide (n ∈ xs))) ∧ Below w.heap.size w w' := by
  obtain ⟨ao, c, rfl, hl, hz⟩ := hR
  have HZ : Hid (xs = [] ∨ ∃ b off, ao = some ⟨b, off, none⟩ ∧ b < w.heap.size ∧ Lx.ICells w b off xs) := hz
  clear hz
  go_enter Tryz.func32, Tryz.ntmps32
  go_wp2_with fail
  generalize hlen : xs.length = len at hl ⊢
  have HLN : Hid (xs.length = len) := hlen
  clear hlen
  go_loopg [5] len (fun gk s5 wr => ∃ k : Nat, gk + k = len ∧ s5 = .int .i64 (k : Int) ∧ Hid (∀ j, j < k → Lx.iat xs j ≠ n) ∧ Hid (w = wr))
  case atStart => exact ⟨0, by omega, rfl, fun j hj => by omega, rfl⟩
  case round =>
    obtain ⟨k, hk, rfl, HN, HW⟩ := hrel
    obtain rfl := HW.out
    have HK : Hid (gk + k = len) := hk
    clear hk HW
    by_cases g : (k : Int) < (len : Int)
    · obtain ⟨b, off, rfl, hb, hc⟩ : ∃ b off, ao = some ⟨b, off, none⟩ ∧ b < w.heap.size ∧ Lx.ICells w b off xs := by
        rcases HZ.out with e | e
        · have := HLN.out
          rw [e] at this
          simp at this
          omega
        · exact e
      have hkl : k < xs.length := by have := HLN.out; omega
      have c0 := hc k hkl
      have HI : Hid (Lx.iat xs k ∈ xs) := by
        show _ ∈ _
        unfold Lx.iat
        rw [List.getElem?_eq_getElem hkl]
        exact List.getElem_mem hkl
      generalize he : Lx.iat xs k = z at c0 HI
      have HE : Hid (Lx.iat xs k = z) := he
      clear hc he hkl
      by_cases hz : z = n
      · subst hz
        go_wp2_with fail
        go_ret
        exact ⟨by first | simpa using HI.out | rw [decide_eq_true HI.out], Below.refl _ _⟩
      · go_wp2_with fail
        go_roundg (len - (k + 1))
        case measure => have := HK.out; omega
        case rel => exact ⟨k + 1, by have := HK.out; omega, by go_num, fun j hj => by
          by_cases e : j = k
          · rw [e, HE.out]; exact hz
          · exact HN.out j (by omega), rfl⟩
    · have hno : decide (n ∈ xs) = false := by
        refine decide_eq_false fun hm => ?_
        obtain ⟨i, hi, e⟩ := List.getElem_of_mem hm
        refine HN.out i (by have := HK.out; have := HLN.out; omega) ?_
        unfold Lx.iat
        rw [List.getElem?_eq_getElem hi]
        exact e
      have HNO : Hid (decide (n ∈ xs) = false) := hno
      clear hno
      go_wp2_with fail
      go_ret
      exact ⟨by first | simpa using HNO.out | rw [HNO.out], Below.refl _ _⟩
end Go.Proofs.YtoabfilliiopmaaGreatDoor
