/- The walk of the law LinkKeeps. -/
import Derived.Test.YtljilhhnejjifaaD
import Derived.Test.YtljilhhnejjifaaP
import Derived.Test.YtljilhhnejjifaaS
import Derived.Deep.CutBlock
namespace Go.Proofs.Ytljilhhnejjifaa
open Go.RowKit Go.Lib Go.Sort
set_option linter.unusedVariables false
set_option linter.unusedSimpArgs false

/-- A link that the law made; what was there when it began is as it was. -/
def One (w wr : World) (sb : Nat) (ls : List LR) : Prop := ∃ v, Lnk wr 42 0 w.heap.size sb v ls ∧ Below w.heap.size w wr
section
variable {w wr wx : World} {sb : Nat} {ls ls' : List LR}
theorem One.bel (h : One w wr sb ls) : Below w.heap.size w wr := h.choose_spec.2
theorem One.inv (h : One w wr sb ls) : Inv ls := h.choose_spec.1.inv
theorem One.turn {v : Value} (h : Lnk wr 42 0 w.heap.size sb v ls) (hb : Below w.heap.size w wr) (ht : Turn wr wx 42 0 w.heap.size sb v ls') : One w wx sb ls' := by
  obtain ⟨v', h1, h2, _⟩ := ht
  exact ⟨v', h1, hb.trans (h2.below (fun k hk => h.ge hk) h.le)⟩
theorem One.below (h : One w wr sb ls) (hb : Below wr.heap.size wr wx) : One w wx sb ls := by
  obtain ⟨v, h1, h2⟩ := h
  exact ⟨v, h1.below hb, h2.trans (hb.mono h2.size)⟩
theorem new_one (hb : Below w.heap.size w wr) : Calls Try.prog 4 #[] wr fun e w' => ∃ sb, e = .returned (.pointer (some ⟨sb, 0, none⟩)) ∧ One w w' sb [] :=
  (new_calls wr).mono fun e w' ⟨h1, h2, h3⟩ => ⟨_, h1, _, h2.base hb.size, hb.trans (h3.mono hb.size)⟩
theorem send_one (h : One w wr sb ls) (q : Int) (b : ByteArray) (hb : b.size ≤ 140737488351232) : Calls Try.prog 5 #[.pointer (some ⟨sb, 0, none⟩), .int .i64 q, .string b] wr fun e w' => e = .returned (errV (sendF ls q b)) ∧ One w w' sb (sendS ls q b) := by
  obtain ⟨v, h1, h2⟩ := h
  exact (send_calls h1 q b hb).mono fun e w' ⟨he, ht⟩ => ⟨he, One.turn h1 h2 ht⟩
theorem give_one (h : One w wr sb ls) (i : Int) : Calls Try.prog 7 #[.pointer (some ⟨sb, 0, none⟩), .int .i64 i] wr fun e w' => e = .returned (.tuple #[.int .i64 (giveV ls i).1, .string (giveV ls i).2, errV (giveF ls i)]) ∧ One w w' sb (giveS ls i) := by
  obtain ⟨v, h1, h2⟩ := h
  exact (give_calls h1 i).mono fun e w' ⟨he, ht⟩ => ⟨he, One.turn h1 h2 ht⟩
theorem lose_one (h : One w wr sb ls) (i : Int) : Calls Try.prog 9 #[.pointer (some ⟨sb, 0, none⟩), .int .i64 i] wr fun e w' => e = .returned (errV (giveF ls i)) ∧ One w w' sb (giveS ls i) := by
  obtain ⟨v, h1, h2⟩ := h
  exact (lose_calls h1 i).mono fun e w' ⟨he, ht⟩ => ⟨he, One.turn h1 h2 ht⟩
theorem twice_one (h : One w wr sb ls) (i : Int) : Calls Try.prog 6 #[.pointer (some ⟨sb, 0, none⟩), .int .i64 i] wr fun e w' => e = .returned (errV (twF ls i)) ∧ One w w' sb (twS ls i) := by
  obtain ⟨v, h1, h2⟩ := h
  exact (twice_calls h1 i).mono fun e w' ⟨he, ht⟩ => ⟨he, One.turn h1 h2 ht⟩
theorem count_one (h : One w wr sb ls) : Calls Try.prog 8 #[.pointer (some ⟨sb, 0, none⟩)] wr fun e w' => e = .returned (.int .i64 (ls.length : Int)) ∧ w' = wr := by
  obtain ⟨v, h1, h2⟩ := h
  exact count_calls h1
end

theorem infoS : (Try.prog.info? 9).map (fun i => (i.zero, i.size, i.bytes)) = some (some (.string ⟨#[]⟩), 1, 16) := by kernel_rfl
def sat (ss : List ByteArray) (j : Nat) : ByteArray := ss[j]?.getD ⟨#[]⟩
theorem sat_get {ss : List ByteArray} {j : Nat} (h : j < ss.length) : ss[j]? = some (sat ss j) := by simp [sat, h]
theorem two_of {zs : List Int} (h : zs.length = 2) : ∃ a b, zs = [a, b] := by
  match zs, h with
  | [a, b], _ => exact ⟨a, b, rfl⟩
theorem giveS_same {ls : List LR} {i : Int} (h : giveF ls i ≠ 0) : giveS ls i = ls := by
  cases e : onB ls i with
  | true => exact absurd (giveF_yes e) h
  | false => exact giveS_no e
/-- What is on its way was sent; and if nothing was changed it is just what was sent, in order. -/
structure Good (ch : Bool) (ls : List LR) (ss : List ByteArray) : Prop where
  mem : ∀ x ∈ ls, x.2 ∈ ss
  same : ch = false → ls.map (·.2) = ss
theorem Good.start {ls : List LR} {ss : List ByteArray} (h : ls.map (·.2) = ss) : Good false ls ss := ⟨fun x hx => by rw [← h]; exact List.mem_map.2 ⟨x, hx, rfl⟩, fun _ => h⟩
theorem Good.give {ch : Bool} {ls : List LR} {ss : List ByteArray} (h : Good ch ls ss) (i : Int) : Good true (giveS ls i) ss := by
  refine ⟨fun x hx => ?_, fun e => by cases e⟩
  cases e : onB ls i with
  | true => rw [giveS_yes e] at hx; exact h.mem x (cut1_mem hx)
  | false => rw [giveS_no e] at hx; exact h.mem x hx
theorem Good.twice {ch : Bool} {ls : List LR} {ss : List ByteArray} (h : Good ch ls ss) (i : Int) : Good true (twS ls i) ss := by
  refine ⟨fun x hx => ?_, fun e => by cases e⟩
  cases e : onB ls i with
  | false => rw [twS_no (by rw [twF_no e]; decide)] at hx; exact h.mem x hx
  | true =>
    obtain ⟨p, rfl, hp⟩ := onB_yes e
    unfold twS at hx
    split at hx
    · rcases List.mem_append.1 hx with hx | hx
      · exact h.mem x hx
      · obtain rfl : x = at' ls p := by simpa using hx
        exact h.mem _ (at_mem hp)
    · exact h.mem x hx
/-- The same, behind k that came. -/
structure Good4 (ch : Bool) (ls : List LR) (ss : List ByteArray) (k : Nat) : Prop where
  mem : ∀ x ∈ ls, x.2 ∈ ss
  same : ch = false → ls.map (·.2) = ss.drop k
theorem Good.four {ch : Bool} {ls : List LR} {ss : List ByteArray} (h : Good ch ls ss) : Good4 ch ls ss 0 := ⟨h.mem, fun e => by rw [h.same e]; rfl⟩
theorem Good4.next {ch : Bool} {x : LR} {rs : List LR} {ss : List ByteArray} {k : Nat} (h : Good4 ch (x :: rs) ss k) : Good4 ch rs ss (k + 1) := by
  refine ⟨fun y hy => h.mem y (List.mem_cons_of_mem _ hy), fun e => ?_⟩
  have := h.same e
  rw [List.map_cons] at this
  rw [← List.drop_drop, ← this]
  rfl
/-- A link, and what was sent, apart; all else is as it was. -/
structure Keep (w wr : World) (sb : Nat) (v vs : Value) (ls : List LR) (ss : List ByteArray) : Prop where
  lnk : Lnk wr 42 0 w.heap.size sb v ls
  row : wr.ownsRow w.heap.size 9 1 vs ss.length (ss.map Value.string)
  ap : ∀ k, vs.ownBlock = some k → ¬ own sb v k
  bel : Below w.heap.size w wr
def Kp (w wr : World) (sb : Nat) (vs : Value) (ls : List LR) (ss : List ByteArray) : Prop := ∃ v, Keep w wr sb v vs ls ss
section
variable {w wr wx : World} {sb : Nat} {v vs vs' : Value} {ls ls' : List LR} {ss : List ByteArray}
theorem Keep.turn (h : Keep w wr sb v vs ls ss) (ht : Turn wr wx 42 0 w.heap.size sb v ls') : Kp w wx sb vs ls' ss := by
  obtain ⟨v', h1, h2, h3⟩ := ht
  refine ⟨v', h1, h2.row h.row (fun k hk => h.ap k hk), fun k hk e => ?_, h.bel.trans (h2.below (fun k hk => h.lnk.ge hk) h.lnk.le)⟩
  rcases e with rfl | e
  · exact h.ap _ hk (.inl rfl)
  · rcases h3 k e with e' | e'
    · exact h.ap k hk (.inr e')
    · have := (h.row.lt k hk).2; omega
theorem Kp.bel (h : Kp w wr sb vs ls ss) : Below w.heap.size w wr := by obtain ⟨v, h⟩ := h; exact h.bel
theorem Kp.inv (h : Kp w wr sb vs ls ss) : Inv ls := by obtain ⟨v, h⟩ := h; exact h.lnk.inv
theorem Kp.row (h : Kp w wr sb vs ls ss) : wr.ownsRow w.heap.size 9 1 vs ss.length (ss.map Value.string) := by obtain ⟨v, h⟩ := h; exact h.row
theorem Kp.below (h : Kp w wr sb vs ls ss) (hb : Below wr.heap.size wr wx) : Kp w wx sb vs ls ss := by
  obtain ⟨v, h⟩ := h
  exact ⟨v, h.lnk.below hb, own_below h.row hb, h.ap, h.bel.trans (hb.mono h.bel.size)⟩
theorem Kp.app {d : ByteArray} (h : Kp w wr sb vs ls ss) (ho : wx.ownsRow w.heap.size 9 1 vs' (ss.length + 1) (ss.map Value.string ++ [.string d])) (hg : wr.grownBy wx vs.ownBlock) (hl : vs'.ownBlock = vs.ownBlock ∨ vs'.ownBlock = some wr.heap.size) : Kp w wx sb vs' ls (ss ++ [d]) := by
  obtain ⟨v, h⟩ := h
  have og := Off.of_grown (K := fun k => vs.ownBlock = some k) hg (fun k e => e)
  refine ⟨v, h.lnk.off og (fun k hk e => h.ap k e hk), by simpa using ho, fun k hk e => ?_, h.bel.trans (og.below (fun k hk => (h.row.lt k hk).1) h.lnk.le)⟩
  rcases hl with e' | e'
  · exact h.ap k (e'.symm.trans hk) e
  · have e2 : k = wr.heap.size := Option.some.inj (hk.symm.trans e')
    have := h.lnk.lt e
    omega
theorem Kp.cells {g n c : Nat} (h : Kp w wr sb (.slice (some ⟨g, 0, none⟩) n c) ls ss) (j : Nat) (hj : j < ss.length) : wr.cell? ⟨g, j, none⟩ = some (.string (sat ss j)) := by
  have hc := h.row.cells (g := g) rfl j (.string (sat ss j)) (by rw [List.getElem?_map, sat_get hj]; rfl)
  rw [Addr.add_lit, Nat.zero_add] at hc
  exact hc
theorem Kp.start (h : One w wr sb []) : Kp w wr sb (.slice none 0 0) [] [] := by
  obtain ⟨v, h1, h2⟩ := h
  exact ⟨v, h1, World.ownsRow_nil _ _ _ _, fun k hk => by simp [Value.ownBlock] at hk, h2⟩
theorem send_kp (h : Kp w wr sb vs ls ss) (q : Int) (b : ByteArray) (hb : b.size ≤ 140737488351232) : Calls Try.prog 5 #[.pointer (some ⟨sb, 0, none⟩), .int .i64 q, .string b] wr fun e w' => e = .returned (errV (sendF ls q b)) ∧ Kp w w' sb vs (sendS ls q b) ss := by
  obtain ⟨v, h⟩ := h
  exact (send_calls h.lnk q b hb).mono fun e w' ⟨h1, h2⟩ => ⟨h1, h.turn h2⟩
theorem give_kp (h : Kp w wr sb vs ls ss) (i : Int) : Calls Try.prog 7 #[.pointer (some ⟨sb, 0, none⟩), .int .i64 i] wr fun e w' => e = .returned (.tuple #[.int .i64 (giveV ls i).1, .string (giveV ls i).2, errV (giveF ls i)]) ∧ Kp w w' sb vs (giveS ls i) ss := by
  obtain ⟨v, h⟩ := h
  exact (give_calls h.lnk i).mono fun e w' ⟨h1, h2⟩ => ⟨h1, h.turn h2⟩
theorem lose_kp (h : Kp w wr sb vs ls ss) (i : Int) : Calls Try.prog 9 #[.pointer (some ⟨sb, 0, none⟩), .int .i64 i] wr fun e w' => e = .returned (errV (giveF ls i)) ∧ Kp w w' sb vs (giveS ls i) ss := by
  obtain ⟨v, h⟩ := h
  exact (lose_calls h.lnk i).mono fun e w' ⟨h1, h2⟩ => ⟨h1, h.turn h2⟩
theorem twice_kp (h : Kp w wr sb vs ls ss) (i : Int) : Calls Try.prog 6 #[.pointer (some ⟨sb, 0, none⟩), .int .i64 i] wr fun e w' => e = .returned (errV (twF ls i)) ∧ Kp w w' sb vs (twS ls i) ss := by
  obtain ⟨v, h⟩ := h
  exact (twice_calls h.lnk i).mono fun e w' ⟨h1, h2⟩ => ⟨h1, h.turn h2⟩
theorem count_kp (h : Kp w wr sb vs ls ss) : Calls Try.prog 8 #[.pointer (some ⟨sb, 0, none⟩)] wr fun e w' => e = .returned (.int .i64 (ls.length : Int)) ∧ w' = wr := by
  obtain ⟨v, h⟩ := h
  exact count_calls h.lnk
end
theorem lit_send {w wr : World} {sb : Nat} (h : One w wr sb []) : Calls Try.prog 5 #[.pointer (some ⟨sb, 0, none⟩), .int .i64 1, .string ⟨#[120]⟩] wr fun e w' => e = .returned .nilIface ∧ One w w' sb [(1, (⟨#[120]⟩ : ByteArray))] := send_one h 1 (⟨#[120]⟩ : ByteArray) (by decide)
theorem lit_twice {w wr : World} {sb : Nat} (h : One w wr sb [(1, (⟨#[120]⟩ : ByteArray))]) : Calls Try.prog 6 #[.pointer (some ⟨sb, 0, none⟩), .int .i64 0] wr fun e w' => e = .returned .nilIface ∧ One w w' sb [(1, (⟨#[120]⟩ : ByteArray)), (1, (⟨#[120]⟩ : ByteArray))] := twice_one h 0
theorem lit_give {w wr : World} {sb : Nat} (h : One w wr sb [(1, (⟨#[120]⟩ : ByteArray)), (1, (⟨#[120]⟩ : ByteArray))]) : Calls Try.prog 7 #[.pointer (some ⟨sb, 0, none⟩), .int .i64 1] wr fun e w' => e = .returned (.tuple #[.int .i64 1, .string ⟨#[120]⟩, .nilIface]) ∧ One w w' sb [(1, (⟨#[120]⟩ : ByteArray))] := give_one h 1
theorem lit_count {w wr : World} {sb : Nat} (h : One w wr sb [(1, (⟨#[120]⟩ : ByteArray))]) : Calls Try.prog 8 #[.pointer (some ⟨sb, 0, none⟩)] wr fun e w' => e = .returned (.int .i64 1) ∧ w' = wr := count_one h

set_option maxRecDepth 100000 in
set_option maxHeartbeats 8000000 in
theorem keeps_yes (ta : Option Addr) (tl tc : Nat) (ao : Option Addr) (len sc : Nat) (w : World) (hS : len = 0 ∨ ∃ b off, ao = some ⟨b, off, none⟩ ∧ Steps w b off len) (hlen0 : len ≤ 9223372036854775807) (htl : tl ≤ 9223372036854775807) (hT : tl = 0 ∨ ∃ b off, ta = some ⟨b, off, none⟩ ∧ Texts w b off tl) : Calls Try.prog 3 #[.slice ta tl tc, .slice ao len sc] w fun e w' => e = .returned (.bool true) ∧ Below w.heap.size w w' := by
  have HS : Hid (len = 0 ∨ ∃ b off, ao = some ⟨b, off, none⟩ ∧ Steps w b off len) := hS
  have HTX : Hid (tl = 0 ∨ ∃ b off, ta = some ⟨b, off, none⟩ ∧ Texts w b off tl) := hT
  clear hS hT
  go_enter Try.func3, Try.ntmps3
  go_wp2_with fail
  refine (new_one (Below.refl w.heap.size w)).mono ?_
  rintro e w1 ⟨s1, rfl, h1⟩
  go_wp2_with fail
  refine (lit_send h1).mono ?_
  rintro e w2 ⟨rfl, h2⟩
  clear h1
  go_wp2_with fail
  refine (lit_twice h2).mono ?_
  rintro e w3 ⟨rfl, h3⟩
  clear h2
  go_wp2_with fail
  refine (lit_give h3).mono ?_
  rintro e w4 ⟨rfl, h4⟩
  clear h3
  have hcn := lit_count h4
  go_wp2_with (go_at_call 8; refine hcn.mono ?_; rintro e wc ⟨rfl, hwc⟩; rw [hwc]; clear hwc wc)
  clear hcn
  refine (new_one h4.bel).mono ?_
  rintro e w5 ⟨sb, rfl, h5⟩
  clear h4
  have hK0 := Kp.start h5
  clear h5
  go_wp2_with fail
  go_loopg [12, 13] 30 (fun gk s12 s13 wr => ∃ (k : Nat) (vs : Value) (ls : List LR) (ss : List ByteArray), gk + k = 30 ∧ vs = s12 ∧ s13 = .int .i64 k ∧ Hid (ls.length ≤ k) ∧ Hid (ls.map (·.2) = ss) ∧ Kp w wr sb vs ls ss)
  case atStart => exact ⟨0, _, [], [], rfl, rfl, rfl, (show ([] : List LR).length ≤ 0 by simp), rfl, hK0⟩
  case round =>
    clear hK0
    obtain ⟨k, vs, ls, ss, hk, rfl, rfl, HN, HM, hK⟩ := hrel
    have HK : Hid (gk + k = 30) := hk
    clear hk
    by_cases t1 : (k : Int) < (tl : Int) ∧ (k : Int) < 30
    · obtain ⟨t1, t2⟩ := t1
      obtain ⟨tb, toff, rfl, hTx⟩ : ∃ b off, ta = some ⟨b, off, none⟩ ∧ Texts w b off tl := by
        rcases HTX.out with e | e
        · omega
        · exact e
      obtain ⟨d, hd, hds⟩ := hTx.2 k (by omega)
      have HD : Hid (w.cell? ⟨tb, toff + k, none⟩ = some (.string d)) := hd
      have hTb : tb < w.heap.size := hTx.1
      have td := (hK.bel.cell (p := ⟨tb, toff + k, none⟩) hTx.1).trans hd
      have c1 := send_kp hK ((k : Int) % 2) d hds
      have hq : endB ((k : Int) % 2) = true := by
        rcases (show (k : Int) % 2 = 0 ∨ (k : Int) % 2 = 1 by omega) with e | e <;> rw [e] <;> rfl
      have HLN : Hid (ls.length ≤ k) := HN
      have HDS : Hid (d.size ≤ 140737488351232) := hds
      clear hd hTx
      by_cases g3 : d.size ≤ 200
      · have e0 : sendF ls ((k : Int) % 2) d = 0 := by unfold sendF; rw [if_pos hq, if_neg (by have := HLN.out; omega)]
        rw [sendS_yes e0, e0, errV_0] at c1
        clear e0 hq hds
        go_upto_if 77 with (go_at_call 5; refine c1.mono ?_; rintro e w1 ⟨rfl, hK1⟩)
        clear c1 td hK
        have td := (hK1.bel.cell (p := ⟨tb, toff + k, none⟩) hTb).trans HD.out
        have hown := hK1.row
        have hK2 := hK1.below ((Below.refl _ _).alloc (Nat.le_refl _) (.cells #[.string d] 9))
        have hown2 := hK2.row
        obtain ⟨a, c, rfl⟩ := own_any hown
        obtain ⟨i0, hi0, hz0, hz1, hz2⟩ := info_parts infoS
        have hcs : ∀ j u, ([.string d] : List Value)[j]? = some u → (w1.alloc (.cells #[.string d] 9)).cell? ((⟨w1.heap.size, 0, none⟩ : Addr).add j) = some u := fun j u hj => by
          match j, hj with
          | 0, hj => simp at hj; subst hj; simp [Addr.add]
          | j + 1, hj => simp at hj
        have hsl : ss.length ≤ 30 := by have := HLN.out; have := congrArg List.length HM.out; simp at this; omega
        have hle2 := hK2.bel.size
        go_wp2_with (at_builtin; refine wpList_append_own_at _ rfl (.tmp 78) (.tmp 83) 22 rfl w.heap.size 9 i0 _ 1 16 Try.underlying22 hi0 hz0 hz1 hz2 rfl (by decide) _ _ (ss.map Value.string) rfl hown2 ⟨w1.heap.size, 0, none⟩ 1 1 [.string d] rfl rfl hcs (fun u hu => by simp at hu; subst hu; rfl) (by unfold maxLen; omega) (by omega) hle2 ?_; intro v' w' ho' hg' _ hl')
        have hK3 := hK2.app ho' hg' hl'
        go_roundg (30 - (k + 1))
        case measure => have := HK.out; omega
        case rel => exact ⟨k + 1, _, _, _, by have := HK.out; omega, rfl, by go_num, (show (ls ++ [_]).length ≤ k + 1 by have := HLN.out; simp; omega), (show _ = _ by rw [List.map_append, HM.out]; rfl), hK3⟩
      · have e0 : sendF ls ((k : Int) % 2) d = 4 := by unfold sendF; rw [if_pos hq, if_pos (by omega)]
        rw [sendS_no (by rw [e0]; decide), e0, errV_f (by decide)] at c1
        clear e0 hq hds
        have g4 : ¬ (d.size : Int) ≤ 200 := by omega
        have hds := HDS.out
        go_wp2_with (go_at_call 5; refine c1.mono ?_; rintro e w1 ⟨rfl, hK1⟩; have td1 := (hK1.bel.cell (p := ⟨tb, toff + k, none⟩) hTb).trans HD.out)
        go_roundg (30 - (k + 1))
        case measure => have := HK.out; omega
        case rel => exact ⟨k + 1, _, _, _, by have := HK.out; omega, rfl, by go_num, (show ls.length ≤ k + 1 by have := HLN.out; omega), HM, hK1⟩
    · go_upto_region 10 with fail
      go_cut [66] (fun s66 wx => s66 = .bool false ∧ wx = wr)
      case first =>
        by_cases q2 : (k : Int) < (tl : Int)
        · have q3 : ¬ (k : Int) < 30 := fun e => t1 ⟨q2, e⟩
          clear t1
          go_wp2_with fail
          go_meet
          exact ⟨rfl, rfl⟩
        · clear t1
          go_wp2_with fail
          go_meet
          exact ⟨rfl, rfl⟩
      case rest =>
      obtain ⟨rfl, rfl⟩ := hcut
      have HG0 : Hid (Good false ls ss) := Good.start HM.out
      have hss : ss.length ≤ 30 := by have := HN.out; have := HK.out; have := congrArg List.length HM.out; simp at this; omega
      clear t1 HM HN HK HTX
      go_wp2_with fail
      go_loopg [14, 15] 30 (fun gk s14 s15 wr => ∃ (k : Nat) (ch : Bool) (ls : List LR), gk + k = 30 ∧ s14 = .bool ch ∧ s15 = .int .i64 k ∧ Hid (Good ch ls ss) ∧ Kp w wr sb vs ls ss)
      case atStart => exact ⟨0, false, ls, rfl, rfl, rfl, HG0, hK⟩
      case round =>
        clear hK HG0
        obtain ⟨k, ch, ls, hk, rfl, rfl, HG, hK⟩ := hrel
        have HK : Hid (gk + k = 30) := hk
        clear hk
        by_cases g1 : (k : Int) < (len : Int) ∧ (k : Int) < 30
        · obtain ⟨g1, g2⟩ := g1
          obtain ⟨b, off, rfl, hSt⟩ : ∃ b off, ao = some ⟨b, off, none⟩ ∧ Steps w b off len := by
            rcases HS.out with e | e
            · omega
            · exact e
          have hlen : len ≤ 9223372036854775807 := hSt.2.1
          obtain ⟨ar, cr, zs, hcell, hI⟩ := row_at' hSt (Below.refl _ _) (k := k) (by omega)
          have hzl : zs.length ≤ 9223372036854775807 := hI.1
          have HC : Hid (w.cell? ⟨b, off + k, none⟩ = some (.slice ar zs.length cr)) := hcell
          have hbw : b < w.heap.size := hSt.1
          have HI : Hid (Ints w ar zs) := hI
          clear hSt hcell hI
          have rc := (hK.bel.cell (p := ⟨b, off + k, none⟩) hbw).trans HC.out
          by_cases q : zs.length = 2
          · obtain ⟨z0, z1, rfl⟩ := two_of q
            clear q
            obtain ⟨rb, ro, rfl, hrb, hcj⟩ : ∃ rb ro, ar = some ⟨rb, ro, none⟩ ∧ rb < w.heap.size ∧ ∀ j, j < 2 → w.cell? ⟨rb, ro + j, none⟩ = some (.int .i64 (iat [z0, z1] j)) := by
              rcases HI.out.2.2 with e | e
              · cases e
              · exact e
            have x0 := (hK.bel.cell (p := ⟨rb, ro, none⟩) hrb).trans (show w.cell? ⟨rb, ro, none⟩ = some (.int .i64 z0) from hcj 0 (by decide))
            have x1 := (hK.bel.cell (p := ⟨rb, ro + 1, none⟩) hrb).trans (show w.cell? ⟨rb, ro + 1, none⟩ = some (.int .i64 z1) from hcj 1 (by decide))
            clear hcj HI
            simp only [List.length_cons, List.length_nil, Nat.zero_add, Nat.reduceAdd] at rc hzl
            go_upto_if 113 with fail
            go_cut [16] (fun s16 wx => ∃ (f : Int) (ls2 : List LR), s16 = errV f ∧ Hid (f = 0 → Good true ls2 ss) ∧ Hid (f ≠ 0 → Good ch ls2 ss) ∧ Kp w wx sb vs ls2 ss)
            case first =>
              by_cases s0 : z0 = 0
              · subst s0
                have c1 := lose_kp hK z1
                have HA : Hid (giveF ls z1 = 0 → Good true (giveS ls z1) ss) := fun _ => HG.out.give z1
                have HB : Hid (giveF ls z1 ≠ 0 → Good ch (giveS ls z1) ss) := fun e => by rw [giveS_same e]; exact HG.out
                clear hK
                go_wp2_with (go_at_call 9; refine c1.mono ?_; rintro e w1 ⟨rfl, hK1⟩)
                go_meet
                exact ⟨_, _, rfl, HA, HB, hK1⟩
              · have c1 := twice_kp hK z1
                have HA : Hid (twF ls z1 = 0 → Good true (twS ls z1) ss) := fun _ => HG.out.twice z1
                have HB : Hid (twF ls z1 ≠ 0 → Good ch (twS ls z1) ss) := fun e => by rw [twS_no e]; exact HG.out
                clear hK
                go_wp2_with (go_at_call 6; refine c1.mono ?_; rintro e w1 ⟨rfl, hK1⟩)
                go_meet
                exact ⟨_, _, rfl, HA, HB, hK1⟩
            case rest =>
              clear hK rc x0 x1
              obtain ⟨f, ls2, rfl, HA, HB, hK2⟩ := hcut
              by_cases e0 : f = 0
              · subst e0
                rw [errV_0]
                have HG2 : Hid (Good true ls2 ss) := HA.out rfl
                clear HA HB
                cases ch with
                | true =>
                  go_wp2_with fail
                  go_roundg (30 - (k + 1))
                  case measure => have := HK.out; omega
                  case rel => exact ⟨k + 1, true, ls2, by have := HK.out; omega, rfl, by go_num, HG2, hK2⟩
                | false =>
                  go_wp2_with fail
                  go_roundg (30 - (k + 1))
                  case measure => have := HK.out; omega
                  case rel => exact ⟨k + 1, true, ls2, by have := HK.out; omega, rfl, by go_num, HG2, hK2⟩
              · rw [errV_f e0]
                have HG2 : Hid (Good ch ls2 ss) := HB.out e0
                clear e0 HA HB
                cases ch with
                | true =>
                  go_wp2_with fail
                  go_roundg (30 - (k + 1))
                  case measure => have := HK.out; omega
                  case rel => exact ⟨k + 1, true, ls2, by have := HK.out; omega, rfl, by go_num, HG2, hK2⟩
                | false =>
                  go_wp2_with fail
                  go_roundg (30 - (k + 1))
                  case measure => have := HK.out; omega
                  case rel => exact ⟨k + 1, false, ls2, by have := HK.out; omega, rfl, by go_num, HG2, hK2⟩
          · have q' : ¬ (zs.length : Int) = 2 := by omega
            go_wp2_with fail
            go_roundg (30 - (k + 1))
            case measure => have := HK.out; omega
            case rel => exact ⟨k + 1, ch, ls, by have := HK.out; omega, rfl, by go_num, HG, hK⟩
        · go_upto_region 18 with fail
          go_cut [98] (fun s98 wx => s98 = .bool false ∧ wx = wr)
          case first =>
            by_cases q2 : (k : Int) < (len : Int)
            · have q3 : ¬ (k : Int) < 30 := fun e => g1 ⟨q2, e⟩
              clear g1
              go_wp2_with fail
              go_meet
              exact ⟨rfl, rfl⟩
            · clear g1
              go_wp2_with fail
              go_meet
              exact ⟨rfl, rfl⟩
          case rest =>
          obtain ⟨rfl, rfl⟩ := hcut
          have HG0 : Hid (Good4 ch ls ss 0) := HG.out.four
          have HL0 : Hid (ls.length + 0 ≤ 40) := hK.inv.few
          clear g1 HG HK HS
          go_wp2_with fail
          go_loopg [17, 18] 40 (fun gk s17 s18 wr => ∃ (k : Nat) (ls : List LR), gk + k = 40 ∧ s17 = .int .i64 k ∧ s18 = .int .i64 k ∧ Hid (ls.length + k ≤ 40) ∧ Hid (Good4 ch ls ss k) ∧ Kp w wr sb vs ls ss)
          case atStart => exact ⟨0, ls, rfl, rfl, rfl, HL0, HG0, hK⟩
          case round =>
            clear hK HG0 HL0
            obtain ⟨k, ls, hk, rfl, rfl, HL, HG, hK⟩ := hrel
            have HK : Hid (gk + k = 40) := hk
            clear hk
            by_cases g1 : (k : Int) < 40
            · have hc := count_kp hK
              by_cases g2 : (0 : Int) < (ls.length : Int)
              · obtain ⟨x, rs, rfl⟩ : ∃ x rs, ls = x :: rs := by
                  cases ls with
                  | nil => simp at g2
                  | cons x rs => exact ⟨x, rs, rfl⟩
                have c1 := give_kp hK 0
                have hon : onB (x :: rs) 0 = true := by simp [onB]
                rw [giveV_yes hon, giveF_yes hon, giveS_yes hon, errV_0, show at' (x :: rs) (0 : Int).toNat = x from rfl, show cut1 (x :: rs) (0 : Int).toNat = rs from rfl] at c1
                have HBM : Hid (∃ p, p < ss.length ∧ ss[p]? = some x.2) := by
                  obtain ⟨p, hp, e⟩ := List.getElem_of_mem (HG.out.mem x (List.mem_cons_self))
                  exact ⟨p, hp, by rw [List.getElem?_eq_getElem hp, e]⟩
                have HAT : Hid (ch = false → ss[k]? = some x.2) := fun e => by
                  have := congrArg (fun l => l[0]?) (HG.out.same e)
                  simpa using this.symm
                have HG2 : Hid (Good4 ch rs ss (k + 1)) := HG.out.next
                have HL2 : Hid (rs.length + (k + 1) ≤ 40) := by have := HL.out; simp at this; show rs.length + (k + 1) ≤ 40; omega
                clear hon HG HL
                generalize x.2 = xb at *
                generalize x.1 = xi at *
                go_wp2_with (first | (go_at_call 8; refine hc.mono ?_; rintro e wc ⟨rfl, hwc⟩; rw [hwc]; clear hwc wc) | (go_at_call 7; refine c1.mono ?_; rintro e w1 ⟨rfl, hK1⟩))
                clear hc c1 hK
                go_loopg [22, 23] ss.length (fun gj s22 s23 wr2 => ∃ (j : Nat) (wb : Bool), gj + j = ss.length ∧ s22 = .bool wb ∧ s23 = .int .i64 j ∧ wr2 = w1 ∧ Hid (∀ p, p < j → ss[p]? = some xb → wb = true))
                case atStart => exact ⟨0, false, by omega, rfl, rfl, rfl, fun p hp => absurd hp (Nat.not_lt_zero _)⟩
                case round =>
                  obtain ⟨j, wb, hj, rfl, rfl, rfl, HW⟩ := hrel
                  have HJ : Hid (gk + j = ss.length) := hj
                  clear hj
                  by_cases g3 : (j : Int) < (ss.length : Int)
                  · obtain ⟨g, cap, rfl⟩ := own_shape hK1.row (by omega)
                    have sc := hK1.cells j (by omega)
                    have HSJ : Hid (ss[j]? = some (sat ss j)) := sat_get (by omega)
                    generalize sat ss j = y at sc HSJ
                    cases wb with
                    | true =>
                      go_wp2_with fail
                      go_roundg (ss.length - (j + 1))
                      case measure => have := HJ.out; omega
                      case rel => exact ⟨j + 1, true, by have := HJ.out; omega, rfl, by go_num, rfl, fun _ _ _ => rfl⟩
                    | false =>
                      by_cases e1 : y = xb
                      · subst e1
                        go_wp2_with fail
                        go_roundg (ss.length - (j + 1))
                        case measure => have := HJ.out; omega
                        case rel => exact ⟨j + 1, true, by have := HJ.out; omega, by simp, by go_num, rfl, fun _ _ _ => rfl⟩
                      · have HW2 : Hid (∀ p, p < j + 1 → ss[p]? = some xb → ∀ b : Bool, b = true) := fun p hp e b => by
                          by_cases e2 : p = j
                          · subst e2
                            rw [HSJ.out] at e
                            exact absurd (Option.some.inj e) e1
                          · have := HW.out p (by omega) e
                            cases this
                        clear e1
                        go_wp2_with fail
                        go_roundg (ss.length - (j + 1))
                        case measure => have := HJ.out; omega
                        case rel => exact ⟨j + 1, _, by have := HJ.out; omega, rfl, by go_num, rfl, fun p hp e => HW2.out p hp e _⟩
                  · have hwb : wb = true := by
                      obtain ⟨p, hp, e⟩ := HBM.out
                      exact HW.out p (by have := HJ.out; omega) e
                    subst hwb
                    clear HW
                    cases ch with
                    | true =>
                      obtain ⟨a9, c9, rfl⟩ := own_any hK1.row
                      go_wp2_with fail
                      go_roundg (40 - (k + 1))
                      case measure => have := HK.out; omega
                      case rel => exact ⟨k + 1, rs, by have := HK.out; omega, by go_num, by go_num, HL2, HG2, hK1⟩
                    | false =>
                      have hkl : k < ss.length := (List.getElem?_eq_some_iff.1 (HAT.out rfl)).1
                      have hkz : (k : Int) < (ss.length : Int) := by omega
                      obtain ⟨g, cap, rfl⟩ := own_shape hK1.row (by omega)
                      have sc := hK1.cells k hkl
                      have e2 : sat ss k = xb := Option.some.inj ((sat_get hkl).symm.trans (HAT.out rfl))
                      rw [e2] at sc
                      clear e2 hkl
                      go_wp2_with fail
                      go_roundg (40 - (k + 1))
                      case measure => have := HK.out; omega
                      case rel => exact ⟨k + 1, rs, by have := HK.out; omega, by go_num, by go_num, HL2, HG2, hK1⟩
              · have h0 : (ls.length : Int) = 0 := by omega
                rw [h0] at hc
                clear g2 h0
                go_wp2_with (go_at_call 8; refine hc.mono ?_; rintro e wc ⟨rfl, hwc⟩; rw [hwc]; clear hwc wc)
                go_ret
                exact ⟨rfl, hK.bel⟩
            · have h0 : (ls.length : Int) = 0 := by have := HL.out; omega
              have hc := count_kp hK
              rw [h0] at hc
              clear h0
              go_wp2_with (go_at_call 8; refine hc.mono ?_; rintro e wc ⟨rfl, hwc⟩; rw [hwc]; clear hwc wc)
              go_ret
              exact ⟨rfl, hK.bel⟩
theorem keeps_walk {v u : Value} {w : World} (hu : TextsArg w u) (hv : StepsArg w v) (hl : ∃ a n c, v = .slice a n c ∧ n ≤ 9223372036854775807) : Calls Try.prog 3 #[u, v] w fun e w' => e = .returned (.bool true) ∧ Below w.heap.size w w' := by
  obtain ⟨ao, len, c, rfl, hS⟩ := hv
  obtain ⟨_, _, _, e, hl⟩ := hl
  injection e with e1 e2 e3
  subst e2
  obtain ⟨ta, tl, tc, rfl, htl, hT⟩ := hu
  exact keeps_yes ta tl tc ao len c w hS hl htl hT
end Go.Proofs.Ytljilhhnejjifaa
