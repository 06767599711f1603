/- The document's letters: Out, Twice. -/
import Derived.Test.YtljilhhnejjifaaDoorD
namespace Go.Proofs.YtljilhhnejjifaaDoor
open Go.RowKit Go.Lib Go.Sort
set_option linter.unusedVariables false
set_option linter.unusedSimpArgs false

/-- A block holds a letter, that may be written. -/
structure LBox (w : World) (b : Nat) (q : Int) (n : ByteArray) : Prop where
  lt : b < w.heap.size
  c0 : w.cell? ⟨b, 0, none⟩ = some (.int .i64 q)
  c1 : w.cell? ⟨b, 1, none⟩ = some (.string n)
  f0 : w.frozen? ⟨b, 0, none⟩ = false
  f1 : w.frozen? ⟨b, 1, none⟩ = false
theorem LBox.new (w : World) (q : Int) (n : ByteArray) (t : TypeId) : LBox (w.alloc (.cells #[.int .i64 q, .string n] t)) w.heap.size q n := by
  constructor <;> simp
theorem LBox.off {K : Nat → Prop} {w w' : World} {b : Nat} {q : Int} {n : ByteArray} (h : LBox w b q n) (ho : Off K w w') (hK : ¬ K b) : LBox w' b q n :=
  ⟨Nat.lt_of_lt_of_le h.lt ho.size, ho.cell h.c0 hK, ho.cell h.c1 hK, (ho.frozen (p := ⟨b, 0, none⟩) h.lt hK).trans h.f0, (ho.frozen (p := ⟨b, 1, none⟩) h.lt hK).trans h.f1⟩
theorem LBox.below {w w' : World} {b : Nat} {q : Int} {n : ByteArray} (h : LBox w b q n) (hb : Below w.heap.size w w') : LBox w' b q n := h.off (Off.of_below (K := fun _ => False) hb) id
def tailOff (cp j : Nat) : Nat := if cp = j + 1 then 0 else (j + 1) * 2
theorem run_head (g len cp j : Nat) (h : j ≤ cp) (w : World) : (Instr.slice 35 (.slice (some ⟨g, 0, none⟩) len cp) none (some (.int .i64 (j : Int))) none).run Tryd.prog w = .ok (.slice (some ⟨g, 0, none⟩) j cp) w := by
  have h' : (j : Int) ≤ (cp : Int) := by omega
  have e := Tryd.underlying35
  go_simp
theorem run_tail (g len cp j : Nat) (h : j + 1 ≤ len) (w : World) : (Instr.slice 35 (.slice (some ⟨g, 0, none⟩) len cp) (some (.int .i64 ((j : Int) + 1))) none none).run Tryd.prog w = .ok (.slice (some ⟨g, tailOff cp j, none⟩) (len - (j + 1)) (cp - (j + 1))) w := by
  have h' : (j : Int) + 1 ≤ (len : Int) := by omega
  have e := Tryd.underlying35
  have e1 : ((j : Int) + 1).toNat = j + 1 := by omega
  unfold tailOff
  by_cases hc : cp = j + 1
  · rw [if_pos hc]; go_simp; exact fun hlt => absurd hlt (by omega)
  · rw [if_neg hc]; go_simp; exact fun hlt => absurd hlt (by omega)

set_option maxRecDepth 100000 in
set_option maxHeartbeats 2000000 in
theorem rout_lo {w : World} {B mb : Nat} {v : Value} {ls : List LR} (h : Lnk w 41 2 B mb v ls) (i : Int) (hq : i < 0) : Calls Tryd.prog 9 #[.pointer (some ⟨mb, 0, none⟩), .int .i64 i] w fun e w' => e = .returned (.tuple #[.agg #[.int .i64 0, .string ⟨#[]⟩], .int .i64 1]) ∧ Below w.heap.size w w' := by
  obtain ⟨a, cap, rfl⟩ := h.shape
  have c0 := (h.below ((Below.refl _ _).alloc (Nat.le_refl _) (.cells #[.int .i64 0, .string ⟨#[]⟩] 41))).c
  clear h
  generalize ls.length = n at *
  go_enter Tryd.func9, Tryd.ntmps9
  go_wp2_with fail
  (try simp only [Exit.inBlock, Exit.then])
  refine bodyPost_ret (v := .tuple #[.agg #[.int .i64 0, .string ⟨#[]⟩], .int .i64 1]) ?_ rfl ⟨rfl, ?_⟩
  · rw [results_cell_tmp rfl]; go_simp
  · repeat (first | exact Below.refl _ _ | (refine Below.setCell ?_ (by simp <;> omega) _) | (refine Below.alloc ?_ (by simp <;> omega) _))
set_option maxRecDepth 100000 in
set_option maxHeartbeats 2000000 in
theorem rtw_lo {w : World} {B mb : Nat} {v : Value} {ls : List LR} (h : Lnk w 41 2 B mb v ls) (i : Int) (hq : i < 0) : Calls Tryd.prog 13 #[.pointer (some ⟨mb, 0, none⟩), .int .i64 i] w fun e w' => e = .returned (.int .i64 1) ∧ w' = w := by
  obtain ⟨a, cap, rfl⟩ := h.shape
  have c0 := h.c
  clear h
  generalize ls.length = n at *
  go_enter Tryd.func13, Tryd.ntmps13
  go_wp2_with fail
  go_ret
  exact ⟨rfl, rfl⟩

set_option maxRecDepth 100000 in
set_option maxHeartbeats 2000000 in
theorem rout_hi {w : World} {B mb : Nat} {v : Value} {ls : List LR} (h : Lnk w 41 2 B mb v ls) (i : Int) (hq : 0 ≤ i ∧ (ls.length : Int) ≤ i) : Calls Tryd.prog 9 #[.pointer (some ⟨mb, 0, none⟩), .int .i64 i] w fun e w' => e = .returned (.tuple #[.agg #[.int .i64 0, .string ⟨#[]⟩], .int .i64 1]) ∧ Below w.heap.size w w' := by
  obtain ⟨hq, hq2⟩ := hq
  obtain ⟨a, cap, rfl⟩ := h.shape
  have c0 := (h.below ((Below.refl _ _).alloc (Nat.le_refl _) (.cells #[.int .i64 0, .string ⟨#[]⟩] 41))).c
  clear h
  generalize ls.length = n at *
  go_enter Tryd.func9, Tryd.ntmps9
  go_wp2_with fail
  (try simp only [Exit.inBlock, Exit.then])
  refine bodyPost_ret (v := .tuple #[.agg #[.int .i64 0, .string ⟨#[]⟩], .int .i64 1]) ?_ rfl ⟨rfl, ?_⟩
  · rw [results_cell_tmp rfl]; go_simp
  · repeat (first | exact Below.refl _ _ | (refine Below.setCell ?_ (by simp <;> omega) _) | (refine Below.alloc ?_ (by simp <;> omega) _))
set_option maxRecDepth 100000 in
set_option maxHeartbeats 2000000 in
theorem rtw_hi {w : World} {B mb : Nat} {v : Value} {ls : List LR} (h : Lnk w 41 2 B mb v ls) (i : Int) (hq : 0 ≤ i ∧ (ls.length : Int) ≤ i) : Calls Tryd.prog 13 #[.pointer (some ⟨mb, 0, none⟩), .int .i64 i] w fun e w' => e = .returned (.int .i64 1) ∧ w' = w := by
  obtain ⟨hq, hq2⟩ := hq
  obtain ⟨a, cap, rfl⟩ := h.shape
  have c0 := h.c
  clear h
  generalize ls.length = n at *
  go_enter Tryd.func13, Tryd.ntmps13
  go_wp2_with fail
  go_ret
  exact ⟨rfl, rfl⟩

set_option maxRecDepth 100000 in
set_option maxHeartbeats 2000000 in
theorem rout_yes {w : World} {B mb : Nat} {v : Value} {ls : List LR} (h : Lnk w 41 2 B mb v ls) (p : Nat) (hp : p < ls.length) (i : Int) (hi : i = (p : Int)) : Calls Tryd.prog 9 #[.pointer (some ⟨mb, 0, none⟩), .int .i64 i] w fun e w' => e = .returned (.tuple #[.agg #[.int .i64 (at' ls p).1, .string (at' ls p).2], .int .i64 0]) ∧ Turn w w' 41 2 B mb v (cut1 ls p) := by
  obtain ⟨a, cap, rfl⟩ := h.shape
  obtain ⟨g, cur, rfl, _, hBg, hgl, hgs, hgg, hnc, hm, hcs, hcl⟩ := h.rows (by omega)
  subst hi
  have hmb := h.lt (k := mb) (.inl rfl)
  obtain ⟨x0, x1⟩ := hcl p hp
  rw [Nat.zero_add] at x0 x1
  have hfew := h.inv.few
  have HC : Hid (∀ j u, (flat ls)[j]? = some u → w.cell? ⟨g, j, none⟩ = some u) := fun j u hu => by
    have := flat_cells hcl j u hu
    rw [Addr.add_lit, Nat.zero_add] at this
    exact this
  have HL : Hid (Lnk w 41 2 B mb (.slice (some ⟨g, 0, none⟩) ls.length cap) ls) := h
  have hp' : (p : Int) < (ls.length : Int) := by omega
  have hp9 : (p : Int) ≤ 40 := by omega
  have hle := h.le
  obtain ⟨i0, hi0, hz0, hz1, hz2⟩ := info_parts infoD
  have HI : Hid (Inv (cut1 ls p)) := h.inv.cut p
  have HG : Hid (at' ls p = ((at' ls p).1, (at' ls p).2)) := rfl
  have ba : Below w.heap.size w (w.alloc (.cells #[.int .i64 0, .string ⟨#[]⟩] 41)) := (Below.refl _ _).alloc (Nat.le_refl _) _
  have c1 := (h.below ba).c
  have x0 := (ba.cell (p := ⟨g, p * 2, none⟩) hgl).trans x0
  have x1 := (ba.cell (p := ⟨g, p * 2 + 1, none⟩) hgl).trans x1
  have hX := LBox.new w 0 ⟨#[]⟩ 41
  clear h hcl hgg hcs hm
  generalize (at' ls p).1 = y0 at *
  generalize (at' ls p).2 = y1 at *
  go_enter Tryd.func9, Tryd.ntmps9
  go_upto_region 4 with fail
  have bb : Below (w.alloc (.cells #[.int .i64 0, .string ⟨#[]⟩] 41)).heap.size (w.alloc (.cells #[.int .i64 0, .string ⟨#[]⟩] 41)) ((w.alloc (.cells #[.int .i64 0, .string ⟨#[]⟩] 41)).alloc (.cells #[.int .i64 y0, .string y1] 41)) := (Below.refl _ _).alloc (Nat.le_refl _) _
  have hB2 := ba.trans (bb.mono ba.size)
  have hX2 := hX.below bb
  have hY2 : LBox ((w.alloc (.cells #[.int .i64 0, .string ⟨#[]⟩] 41)).alloc (.cells #[.int .i64 y0, .string y1] 41)) (w.heap.size + 1) y0 y1 := by
    have e : (w.alloc (.cells #[.int .i64 0, .string ⟨#[]⟩] 41)).heap.size = w.heap.size + 1 := by simp
    rw [← e]; exact LBox.new _ _ _ _
  have hXY : w.heap.size ≠ w.heap.size + 1 := by omega
  have HYn : Hid (w.heap.size ≤ w.heap.size + 1) := Nat.le_succ _
  clear x0 x1 c1 hX bb ba
  generalize w.heap.size + 1 = Y at hY2 hXY HYn ⊢
  generalize (w.alloc (.cells #[.int .i64 0, .string ⟨#[]⟩] 41)).alloc (.cells #[.int .i64 y0, .string y1] 41) = W at hB2 hX2 hY2 ⊢
  have hsl1 := run_head g ls.length cap p (by omega)
  have hsl2 := run_tail g ls.length cap p (by omega)
  have c2 := (HL.out.below hB2).c
  have hnil : W.ownsRow w.heap.size 41 2 (.slice none 0 0) 0 [] := World.ownsRow_nil _ _ _ _
  have hcells : ∀ i u, (flat (ls.take p))[i]? = some u → W.cell? ((⟨g, 0, none⟩ : Addr).add i) = some u := fun i u hu => by
    rw [Addr.add_lit, Nat.zero_add]
    exact (hB2.cell (p := ⟨g, i, none⟩) hgl).trans (HC.out i u (flat_take p i u hu))
  have hlen1 : (flat (ls.take p)).length = p * 2 := by rw [flat_length, List.length_take]; omega
  have hle2 := hB2.size
  go_upto_region 6 with (at_builtin; refine wpList_append_own_at _ rfl (.tmp 27) (.tmp 33) 35 rfl w.heap.size 41 i0 _ 2 24 Tryd.underlying35 hi0 hz0 hz1 hz2 rfl (by decide) _ _ [] rfl hnil ⟨g, 0, none⟩ p cap (flat (ls.take p)) rfl hlen1 hcells (fun u hu => flat_one u hu) (by unfold maxLen; omega) (by omega) hle2 ?_; intro v3 w3 ho3 hg3 _ hl3; rw [Nat.zero_add, List.nil_append] at ho3)
  have hb3 : Below W.heap.size W w3 := (Below.refl _ W).grown hg3 (Nat.le_refl _) (fun k e => by cases e)
  have hX3 := hX2.below hb3
  have hY3 := hY2.below hb3
  have hB3 := hB2.trans (hb3.mono hB2.size)
  obtain ⟨a3, cap3, rfl⟩ := own_any ho3
  have c3 := (HL.out.below hB3).c
  have hcells3 : ∀ i u, (flat (ls.drop (p + 1)))[i]? = some u → w3.cell? ((⟨g, tailOff cap p, none⟩ : Addr).add i) = some u := fun i u hu => by
    have hi : i < (flat (ls.drop (p + 1))).length := (List.getElem?_eq_some_iff.1 hu).1
    rw [flat_length, List.length_drop] at hi
    have : tailOff cap p = (p + 1) * 2 := by unfold tailOff; rw [if_neg]; omega
    rw [this, Addr.add_lit]
    exact (hB3.cell (p := ⟨g, (p + 1) * 2 + i, none⟩) hgl).trans (HC.out _ u (flat_drop (by omega) i u hu))
  have hlen3 : (flat (ls.drop (p + 1))).length = (ls.length - (p + 1)) * 2 := by rw [flat_length, List.length_drop]
  have hle3 := hB3.size
  have HL3 : Hid (Value.ownBlock (.slice a3 p cap3) = none ∨ ∃ k, Value.ownBlock (.slice a3 p cap3) = some k ∧ W.heap.size ≤ k) := by
    rcases hl3 with e | e
    · exact .inl e
    · exact .inr ⟨_, e, Nat.le_refl _⟩
  have hXW := hX2.lt
  have hYW := hY2.lt
  clear hnil hcells hlen1 hg3 hl3 c2 hsl1 hle2 hX2 hY2
  go_upto_region 7 with (at_builtin; refine wpList_append_own_at _ rfl (.tmp 36) (.tmp 43) 35 rfl w.heap.size 41 i0 _ 2 24 Tryd.underlying35 hi0 hz0 hz1 hz2 rfl (by decide) _ _ (flat (ls.take p)) rfl ho3 ⟨g, tailOff cap p, none⟩ (ls.length - (p + 1)) (cap - (p + 1)) (flat (ls.drop (p + 1))) rfl hlen3 hcells3 (fun u hu => flat_one u hu) (by unfold maxLen; omega) (by omega) hle3 ?_; intro v4 w4 ho4 hg4 _ hl4; have hB4 := hB3.grown hg4 hle3 (fun k e => (ho3.lt k e).1); have hR4 := HL.out.below hB4; have d4 := hR4.c; have f4 := hR4.f; obtain ⟨a4, cap4, rfl⟩ := own_any ho4)
  have hnW : ∀ k, (Value.slice a3 p cap3).ownBlock = some k → W.heap.size ≤ k := fun k hk => by
    rcases HL3.out with e | ⟨k', e, hk'⟩
    · rw [e] at hk; cases hk
    · rw [e] at hk; injection hk with hk; omega
  have og4 := Off.of_grown (K := fun k => (Value.slice a3 p cap3).ownBlock = some k) hg4 (fun k e => e)
  have o5 : Off (fun k => k = mb) w4 (w4.setCell ⟨mb, 2, none⟩ (.slice a4 (p + (ls.length - (p + 1))) cap4)) := (Off.refl _ _).setCell (K := fun k => k = mb) rfl _
  have hX5 := (hX3.off og4 (fun e => by have := hnW _ e; omega)).off o5 (by omega)
  have hY5 := (hY3.off og4 (fun e => by have := hnW _ e; omega)).off o5 (by have := HYn.out; omega)
  have hnew : ∀ k, (Value.slice a4 (p + (ls.length - (p + 1))) cap4).ownBlock = some k → w.heap.size ≤ k := fun k hk => (ho4.lt k hk).1
  have eL : (cut1 ls p).length = p + (ls.length - (p + 1)) := by rw [cut1, List.length_append, List.length_take, List.length_drop]; omega
  have hP : Lnk (w4.setCell ⟨mb, 2, none⟩ (.slice a4 (p + (ls.length - (p + 1))) cap4)) 41 2 B mb (.slice a4 (p + (ls.length - (p + 1))) cap4) (cut1 ls p) :=
    HL.out.put (Off.of_below hB4) (by rw [eL]; unfold cut1; rw [flat_append]; exact own_mono ho4 hle) (fun k hk => .inr (hnew k hk)) HI.out
  have hXn : ∀ k, (Value.slice a4 (p + (ls.length - (p + 1))) cap4).ownBlock = some k → k ≠ w.heap.size := fun k hk => by
    rcases hl4 with e | e
    · have := hnW k (e.symm.trans hk); omega
    · have e2 : k = w3.heap.size := Option.some.inj (hk.symm.trans e)
      have := hX3.lt
      omega
  have FIN : Hid (Off (own mb (.slice (some ⟨g, 0, none⟩) ls.length cap)) w (w4.setCell ⟨mb, 2, none⟩ (.slice a4 (p + (ls.length - (p + 1))) cap4))) := (Off.of_below hB4).setCell (.inl rfl) _
  have HP : Hid (Lnk (w4.setCell ⟨mb, 2, none⟩ (.slice a4 (p + (ls.length - (p + 1))) cap4)) 41 2 B mb (.slice a4 (p + (ls.length - (p + 1))) cap4) (cut1 ls p)) := hP
  clear d4 f4 hR4 hg4 hl4 o5 og4 ho4 hB4 hP hX3 hY3 c3 hcells3 ho3
  generalize w4.setCell ⟨mb, 2, none⟩ (.slice a4 (p + (ls.length - (p + 1))) cap4) = W5 at hX5 hY5 FIN HP ⊢
  obtain ⟨xl, xc0, xc1, xf0, xf1⟩ := hX5
  obtain ⟨yl, yc0, yc1, yf0, yf1⟩ := hY5
  go_wp2_with fail
  (try simp only [Exit.inBlock, Exit.then])
  refine bodyPost_ret (v := .tuple #[.agg #[.int .i64 y0, .string y1], .int .i64 0]) ?_ rfl ⟨rfl, ?_⟩
  · rw [results_cell_tmp rfl]; go_simp
  · have o6 : Off (fun k => k = w.heap.size) W5 ((W5.setCell ⟨w.heap.size, 0, none⟩ (.int .i64 y0)).setCell ⟨w.heap.size, 1, none⟩ (.string y1)) := ((Off.refl _ _).setCell (K := fun k => k = w.heap.size) rfl _).setCell (K := fun k => k = w.heap.size) rfl _
    refine ⟨_, HP.out.off o6 (fun k hk e => ?_), (FIN.out.setNew (Nat.le_refl _) _).setNew (Nat.le_refl _) _, fun k hk => .inr (hnew k hk)⟩
    rcases hk with hk | hk
    · omega
    · exact hXn k hk e
theorem onB_no {ls : List LR} {i : Int} (h : onB ls i = false) : i < 0 ∨ (0 ≤ i ∧ (ls.length : Int) ≤ i) := by
  have h := of_decide_eq_false h
  omega
theorem rout_calls {w : World} {B mb : Nat} {v : Value} {ls : List LR} (h : Lnk w 41 2 B mb v ls) (i : Int) : Calls Tryd.prog 9 #[.pointer (some ⟨mb, 0, none⟩), .int .i64 i] w fun e w' => e = .returned (.tuple #[.agg #[.int .i64 (giveV ls i).1, .string (giveV ls i).2], .int .i64 (giveF ls i)]) ∧ Turn w w' 41 2 B mb v (giveS ls i) := by
  cases hq : onB ls i with
  | false =>
    rw [giveV_no hq, giveF_no hq, giveS_no hq]
    rcases onB_no hq with hq | hq
    · exact (rout_lo h i hq).mono fun e w' ⟨h1, h2⟩ => ⟨h1, Turn.below h h2⟩
    · exact (rout_hi h i hq).mono fun e w' ⟨h1, h2⟩ => ⟨h1, Turn.below h h2⟩
  | true =>
    obtain ⟨p, e, hp⟩ := onB_yes hq
    rw [giveV_yes hq, giveF_yes hq, giveS_yes hq]
    have e2 : i.toNat = p := by omega
    rw [e2]
    exact rout_yes h p hp i e

set_option maxRecDepth 100000 in
set_option maxHeartbeats 2000000 in
theorem rtw_full {w : World} {B mb : Nat} {v : Value} {ls : List LR} (h : Lnk w 41 2 B mb v ls) (p : Nat) (hp : p < ls.length) (i : Int) (hi : i = (p : Int)) (h4 : 40 ≤ (ls.length : Int)) : Calls Tryd.prog 13 #[.pointer (some ⟨mb, 0, none⟩), .int .i64 i] w fun e w' => e = .returned (.int .i64 4) ∧ w' = w := by
  obtain ⟨a, cap, rfl⟩ := h.shape
  have c0 := h.c
  subst hi
  have hp' : (p : Int) < (ls.length : Int) := by omega
  clear h
  generalize ls.length = n at *
  go_enter Tryd.func13, Tryd.ntmps13
  go_wp2_with fail
  go_ret
  exact ⟨rfl, rfl⟩
set_option maxRecDepth 100000 in
set_option maxHeartbeats 2000000 in
theorem rtw_yes {w : World} {B mb : Nat} {v : Value} {ls : List LR} (h : Lnk w 41 2 B mb v ls) (p : Nat) (hp : p < ls.length) (i : Int) (hi : i = (p : Int)) (h4 : ls.length < 40) : Calls Tryd.prog 13 #[.pointer (some ⟨mb, 0, none⟩), .int .i64 i] w fun e w' => e = .returned (.int .i64 0) ∧ Turn w w' 41 2 B mb v (ls ++ [at' ls p]) := by
  obtain ⟨a, cap, rfl⟩ := h.shape
  obtain ⟨g, cur, rfl, _, hBg, hgl, hgs, hgg, hnc, hm, hcs, hcl⟩ := h.rows (by omega)
  subst hi
  have hmb := h.lt (k := mb) (.inl rfl)
  obtain ⟨x0, x1⟩ := hcl p hp
  rw [Nat.zero_add] at x0 x1
  have hfew := h.inv.few
  have HC : Hid (∀ j u, (flat ls)[j]? = some u → w.cell? ⟨g, j, none⟩ = some u) := fun j u hu => by
    have := flat_cells hcl j u hu
    rw [Addr.add_lit, Nat.zero_add] at this
    exact this
  have HL : Hid (Lnk w 41 2 B mb (.slice (some ⟨g, 0, none⟩) ls.length cap) ls) := h
  have hp' : (p : Int) < (ls.length : Int) := by omega
  have hp9 : (p : Int) ≤ 40 := by omega
  have hle := h.le
  obtain ⟨i0, hi0, hz0, hz1, hz2⟩ := info_parts infoD
  have c0 := h.c
  have h4' : (ls.length : Int) < 40 := by omega
  have HI : Hid (Inv (ls ++ [((at' ls p).1, (at' ls p).2)])) := h.inv.add (h.inv.ok _ (at_mem hp)).1 h4 (h.inv.ok _ (at_mem hp)).2
  have HG : at' ls p = ((at' ls p).1, (at' ls p).2) := rfl
  rw [HG]
  clear HG
  generalize (at' ls p).1 = y0 at *
  generalize (at' ls p).2 = y1 at *
  have LSL : Hid ((ls ++ [(y0, y1)]).length = ls.length + 1) := by show (ls ++ [(y0, y1)]).length = ls.length + 1; simp
  have FL : Hid (flat (ls ++ [(y0, y1)]) = flat ls ++ flat [(y0, y1)]) := flat_append _ _
  have bd : Below w.heap.size w (w.drew.alloc (.cells #[.int .i64 y0, .string y1] 41)) := (Below.refl w.heap.size w).drew.alloc (Nat.le_refl _) _
  have hL2 := h.below bd
  have c2 := hL2.c
  have hrow := hL2.row
  clear h hcl hgg hcs hm
  go_enter Tryd.func13, Tryd.ntmps13
  go_wp2_with fail
  go_region_law (refine step_append_own rfl (.tmp 26) (.tmp 34) 35 rfl B 41 i0 _ 2 24 Tryd.underlying35 hi0 hz0 hz1 hz2 rfl (by decide) (.slice (some ⟨g, 0, none⟩) ls.length cap) ls.length (flat ls) (by simp [Act.eval, Act.put]) hrow ⟨w.heap.size, 0, none⟩ 1 1 (flat [(y0, y1)]) (by simp [Act.eval, Act.put]) rfl (cells_two_new w.drew _ _ _) (fun u hu => flat_one u hu) (by unfold maxLen; omega) (by omega) hL2.le ?_; intro v' w3 ho3 hg3 hl3; obtain ⟨g3, cap3, rfl⟩ := own_shape ho3 (by omega); have og := Off.of_grown (K := fun k => (Value.slice (some ⟨g, 0, none⟩) ls.length cap).ownBlock = some k) hg3 (fun k e => e); have d2 := og.cell hL2.c (fun e => hL2.nv mb e rfl); have df := (og.frozen (p := ⟨mb, 2, none⟩) (hL2.lt (.inl rfl)) (fun e => hL2.nv mb e rfl)).trans hL2.f)
  all_goals (try go_wp2_with fail)
  all_goals go_ret
  all_goals
    have ow : Off (fun k => (Value.slice (some ⟨g, 0, none⟩) ls.length cap).ownBlock = some k) w w3 := (Off.of_below bd).trans og
    have hnew : ∀ k, (Value.slice (some ⟨g3, 0, none⟩) (ls.length + 1) cap3).ownBlock = some k → (Value.slice (some ⟨g, 0, none⟩) ls.length cap).ownBlock = some k ∨ w.heap.size ≤ k := fun k hk => by
      rcases hl3 with e | e
      · exact .inl (e.symm.trans hk)
      · right
        have e2 : k = (w.drew.alloc (.cells #[.int .i64 y0, .string y1] 41)).heap.size := Option.some.inj (hk.symm.trans e)
        have := bd.size
        omega
    exact ⟨rfl, _, HL.out.put ow (v' := .slice (some ⟨g3, 0, none⟩) (ls.length + 1) cap3) (by rw [LSL.out, FL.out]; exact ho3) hnew HI.out, (ow.mono (fun k _ e => .inr e)).setCell (.inl rfl) _, hnew⟩
theorem rtw_calls {w : World} {B mb : Nat} {v : Value} {ls : List LR} (h : Lnk w 41 2 B mb v ls) (i : Int) : Calls Tryd.prog 13 #[.pointer (some ⟨mb, 0, none⟩), .int .i64 i] w fun e w' => e = .returned (.int .i64 (twF ls i)) ∧ Turn w w' 41 2 B mb v (twS ls i) := by
  cases hq : onB ls i with
  | false =>
    rw [twS_no (by rw [twF_no hq]; decide), twF_no hq]
    rcases onB_no hq with hq | hq
    · exact (rtw_lo h i hq).mono fun e w' ⟨h1, h2⟩ => ⟨h1, by rw [h2]; exact Turn.same h⟩
    · exact (rtw_hi h i hq).mono fun e w' ⟨h1, h2⟩ => ⟨h1, by rw [h2]; exact Turn.same h⟩
  | true =>
    obtain ⟨p, rfl, hp⟩ := onB_yes hq
    by_cases h4 : 40 ≤ ls.length
    · have e : twF ls (p : Int) = 4 := by unfold twF; rw [if_pos hq, if_pos h4]
      rw [twS_no (by rw [e]; decide), e]
      exact (rtw_full h p hp _ rfl (by omega)).mono fun e w' ⟨h1, h2⟩ => ⟨h1, by rw [h2]; exact Turn.same h⟩
    · have e : twF ls (p : Int) = 0 := by unfold twF; rw [if_pos hq, if_neg h4]
      have e2 : twS ls (p : Int) = ls ++ [at' ls p] := by unfold twS; rw [if_pos e, Int.toNat_natCast]
      rw [e2, e]
      exact rtw_yes h p hp _ rfl (by omega)
end Go.Proofs.YtljilhhnejjifaaDoor
