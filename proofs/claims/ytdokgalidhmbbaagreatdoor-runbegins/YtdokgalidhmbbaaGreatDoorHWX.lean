/- What the laws of package run need. -/
import Derived.Test.YtdokgalidhmbbaaGreatDoorHWV
import Derived.Shelf.RegionOpen
set_option linter.unusedVariables false
set_option linter.unusedSimpArgs false
set_option maxRecDepth 100000
set_option maxHeartbeats 8000000
namespace Go.Proofs.YtdokgalidhmbbaaGreatDoor
namespace Rn
open Go.RowKit Go.Shelf
attribute [local go_sem] Oper.semAt_some

/-- What Run reads beside its text. -/
structure Al (w : World) (bv : Value) : Prop where
  env : Env w bv
  hn : Hn w bv
  mx : ∃ m : Int, w.cell? ⟨2, 0, none⟩ = some (.int .i64 m)
  fm : V.Forms w ∧ Cnts w
theorem Al.below {w w' : World} {bv : Value} (h : Al w bv) (hb : Below w.heap.size w w') : Al w' bv := by
  refine ⟨h.env.below hb h.env.low, h.hn.below hb, ?_, h.fm.1.below hb, h.fm.2.below hb⟩
  obtain ⟨m, e⟩ := h.mx
  have := h.env.low
  exact ⟨m, (hb.cell (p := ⟨2, 0, none⟩) (show 2 < w.heap.size by omega)).trans e⟩
set_option maxRecDepth 100000 in
set_option maxHeartbeats 4000000 in
theorem desk_calls {w : World} {bv : Value} (h : Al w bv) : Calls Tryz.prog 11 #[] w fun e w' => ∃ d tb mb, e = .returned (.tuple #[.pointer (some ⟨d, 0, none⟩), .nilIface]) ∧ Ds w w' bv d tb mb nilV (newT 20) ∧ Below w.heap.size w w' := by
  have HN := tnew_yes 20 w (by decide)
  have HW : Hid (∀ w1, Calls Tryz.prog 31 #[] w1 fun e w' => ∃ b, e = .returned (.map (some b)) ∧ Ms w1 w' b 9 wantsD) := wants_calls
  have HA : Hid (Al w bv) := h
  clear h
  go_enter Tryz.func11, Tryz.ntmps11
  go_wp2_with (go_at_call 30; refine HN.mono ?_)
  rintro e w1 ⟨tb, rfl, hO, hb1⟩
  have HW1 := HW.out w1
  go_wp2_with (go_at_call 31; refine HW1.mono ?_)
  rintro e w2 ⟨mb, rfl, hM, hb2, hmb⟩
  go_wp2
  go_ret2
  have hb3 : Below w2.heap.size w2 (w2.alloc (.cells #[.pointer (some ⟨tb, 0, none⟩), .map (some mb)] 72)) := (Below.refl _ w2).alloc (Nat.le_refl _) _
  have hball := (hb1.trans (hb2.mono hb1.size)).trans (hb3.mono (Nat.le_trans hb1.size hb2.size))
  have hA := HA.out.below hball
  have hml : mb < w2.heap.size := by
    obtain ⟨es, c, e, _⟩ := hM
    exact (Array.getElem?_eq_some_iff.1 e).1
  have hn : ∀ k, OwnT tb nilV k → k = tb := fun k hk => by
    rcases hk with e | e | e | e | e | e
    · exact e
    all_goals cases e
  have hlt := hO.lt
  refine ⟨w2.heap.size, tb, mb, rfl, ⟨⟨hA.env, hA.mx, heap_new _ _, own_heap hM (hb3.block _ hml)⟩, (hO.below hb2).below hb3, fun e => ?_, fun e => ?_, hball, HA.out.fm, HA.out.env.low⟩, hball⟩
  · have := hn _ e
    have := hb2.size
    omega
  · have := hn _ e
    omega
theorem lines12 (s : ByteArray) (w : World) : Calls Tryz.prog 12 #[.string s] w fun e w' => e = .returned (.func (.func 32) #[] #[.pointer (some ⟨w.heap.size, 0, none⟩)]) ∧ w' = w.alloc (.cells #[.string s] 9) := by
  go_enter Tryz.func12, Tryz.ntmps12
  go_wp2
  go_ret
  exact ⟨rfl, rfl⟩
theorem trim_calls (x : List UInt8) (hx : x.length ≤ 3000) (w : World) : Calls Tryz.prog 15 #[.string (str x), .string ⟨#[10]⟩] w fun e w' => e = .returned (.string (str (cutNl x))) ∧ w' = w := by
  have h := Tryz.strings_TrimSuffix (str x) ⟨#[10]⟩ w (by rw [str_size]; omega)
  rw [str_list] at h
  exact h
theorem row_kind {w : World} {B e z n k : Nat} {v : Value} {xs : List Value} (h : w.ownsRow B e z v n xs) (hv : v.ownBlock = some k) : ∃ cur, w.heap[k]? = some (.cells cur e (0, 0)) := by
  rcases h.2 with ⟨rfl, _⟩ | ⟨g, cap, cur, rfl, _, hg, _⟩
  · cases hv
  · obtain rfl : g = k := by simpa [Value.ownBlock] using hv
    exact ⟨cur, hg⟩
/-- What lies in the blocks of a Talk. -/
theorem talk_kind {w : World} {B tb k : Nat} {u : Tv} {s : Tt} (h : TO w B tb u s) (hk : OwnT tb u k) : k = tb ∨ ∃ cur t, w.heap[k]? = some (.cells cur t (0, 0)) ∧ (t = 241 ∨ t = 143 ∨ t = 212) := by
  rcases hk with e | e | e | e | e | e
  · exact .inl e
  · obtain ⟨c, hc⟩ := row_kind h.la e; exact .inr ⟨c, _, hc, by decide⟩
  · obtain ⟨c, hc⟩ := row_kind h.ca e; exact .inr ⟨c, _, hc, by decide⟩
  · obtain ⟨c, hc⟩ := row_kind h.lb e; exact .inr ⟨c, _, hc, by decide⟩
  · obtain ⟨c, hc⟩ := row_kind h.cb e; exact .inr ⟨c, _, hc, by decide⟩
  · obtain ⟨c, hc⟩ := row_kind h.lv e; exact .inr ⟨c, _, hc, by decide⟩
theorem bu_kind {w : World} {S b k : Nat} {v : Value} {l : List UInt8} (h : Bu w S b v l) (hk : OwnB b v k) : S ≤ k ∧ k < w.heap.size ∧ ∃ cs t fr, w.heap[k]? = some (.cells cs t fr) ∧ (t = 39 ∨ t = 5) := by
  rcases hk with rfl | e
  · refine ⟨h.hb, h.lt, ?_⟩
    rcases h.lies with e | e
    · exact ⟨_, _, _, e, .inl rfl⟩
    · exact ⟨_, _, _, e, .inl rfl⟩
  · obtain ⟨c, hc⟩ := row_kind h.row e
    exact ⟨(h.row.lt k e).1, (h.row.lt k e).2, _, _, _, hc, .inr rfl⟩
theorem talk_bu {w : World} {B S tb b k : Nat} {u : Tv} {s : Tt} {v : Value} {l : List UInt8} (h : TO w B tb u s) (hb : Bu w S b v l) (hS : tb < S) (hk : OwnT tb u k) : ¬ OwnB b v k := fun hn => by
  obtain ⟨h1, h2, cs, t, fr, h3, h4⟩ := bu_kind hb hn
  rcases talk_kind h hk with rfl | ⟨cur, t', h5, h6⟩
  · omega
  · rw [h3] at h5
    injection h5 with h5
    injection h5 with _ e _
    rcases h6 with rfl | rfl | rfl <;> rcases h4 with rfl | rfl <;> exact absurd e (by decide)
theorem talk_not {w : World} {B tb k : Nat} {u : Tv} {s : Tt} (h : TO w B tb u s) {o : Obj} (hk : OwnT tb u k) (hl : tb < k) (ho : w.heap[k]? = some o) (hn : o.isCells = false ∨ ∃ c f, o = .cells c 9 f ∨ o = .cells c 31 f) : False := by
  rcases talk_kind h hk with rfl | ⟨cur, t', h5, h6⟩
  · omega
  · rw [ho] at h5
    injection h5 with h5
    subst h5
    rcases hn with hn | ⟨c, f, hn | hn⟩
    · cases hn
    · injection hn with _ e _
      rcases h6 with rfl | rfl | rfl <;> exact absurd e (by decide)
    · injection hn with _ e _
      rcases h6 with rfl | rfl | rfl <;> exact absurd e (by decide)
theorem bu_not {w : World} {S b k : Nat} {v : Value} {l : List UInt8} (h : Bu w S b v l) {o : Obj} (hk : OwnB b v k) (ho : w.heap[k]? = some o) (hn : o.isCells = false ∨ ∃ c f, o = .cells c 9 f ∨ o = .cells c 31 f) : False := by
  obtain ⟨h1, h2, cs, t, fr, h3, h4⟩ := bu_kind h hk
  rw [ho] at h3
  injection h3 with h3
  subst h3
  rcases hn with hn | ⟨c, f, hn | hn⟩
  · cases hn
  · injection hn with _ e _
    rcases h4 with rfl | rfl <;> exact absurd e (by decide)
  · injection hn with _ e _
    rcases h4 with rfl | rfl <;> exact absurd e (by decide)
theorem Ds.off {K : Nat → Prop} {w0 w w' : World} {bv : Value} {d tb mb : Nat} {u : Tv} {s : Tt} (h : Ds w0 w bv d tb mb u s) (ho : Off K w w') (hK : ∀ k, K k → w0.heap.size ≤ k) (hd : ¬ K d) (hm : ¬ K mb) (hu : ∀ k, OwnT tb u k → ¬ K k) : Ds w0 w' bv d tb mb u s :=
  ⟨h.dk.off ho (fun k hk => Nat.le_trans h.low (hK k hk)) hd hm, h.tk.off ho hu, h.nd, h.nm, h.bel.trans (ho.below hK h.bel.size), h.fm, h.low⟩
set_option maxRecDepth 100000 in
set_option maxHeartbeats 4000000 in
theorem bstring_nil {w : World} {S b : Nat} (h : Bu w S b (.slice none 0 0) []) : Calls Tryz.prog 17 #[.pointer (some ⟨b, 0, none⟩)] w fun e w' => e = .returned (.string ⟨#[]⟩) ∧ Off (OwnB b (.slice none 0 0)) w w' := by
  have c1 : w.drew.cell? ⟨b, 1, none⟩ = some (.slice none 0 0) := by
    rcases h.lies with e | e
    · rw [Lib.cell_of_heap (w := w.drew) e]; rfl
    · rw [Lib.cell_of_heap (w := w.drew) e]; rfl
  have hSD : (Builtin.unsafeSliceData_ #[37] 80 #[.slice none 0 0]).run Tryz.prog w.drew = .ok (.pointer none) w.drew := rfl
  have hUS : ∀ W, (Builtin.unsafeString_ #[80, 3] 9 #[.pointer none, .int .i64 0]).run Tryz.prog W = .ok (.string ⟨#[]⟩) W := fun W => by kernel_rfl
  clear h
  go_enter Tryz.func17, Tryz.ntmps17
  go_wp2
  go_region
  all_goals (go_wp2; go_ret; exact ⟨rfl, (Off.refl _ w).drew⟩)
set_option maxRecDepth 100000 in
set_option maxHeartbeats 4000000 in
theorem bstring_some {w : World} {S b : Nat} {v : Value} {l : List UInt8} (h : Bu w S b v l) (h0 : l ≠ []) : Calls Tryz.prog 17 #[.pointer (some ⟨b, 0, none⟩)] w fun e w' => e = .returned (.string ⟨l.toArray⟩) ∧ Off (OwnB b v) w w' := by
  have hl0 : l.length ≠ 0 := by simpa using h0
  obtain ⟨g, cap, cur, rfl, hbg, hg, hnc, hcm, hcs, htake⟩ : ∃ g cap cur, v = .slice (some ⟨g, 0, none⟩) l.length cap ∧ S ≤ g ∧ w.heap[g]? = some (.cells cur 5 (0, 0)) ∧ l.length ≤ cap ∧ cap ≤ maxLen ∧ cur.size = cap * 1 ∧ cur.toList.take (l.length * 1) = Lib.byteCells l := by
    rcases h.row.2 with ⟨_, hz⟩ | ⟨g, cap, cur, hv, r⟩
    · exact absurd hz hl0
    · exact ⟨g, cap, cur, hv, r⟩
  have c1 : w.drew.cell? ⟨b, 1, none⟩ = some (.slice (some ⟨g, 0, none⟩) l.length cap) := by
    rcases h.lies with e | e
    · rw [Lib.cell_of_heap (w := w.drew) e]; rfl
    · rw [Lib.cell_of_heap (w := w.drew) e]; rfl
  have hSD : (Builtin.unsafeSliceData_ #[37] 80 #[.slice (some ⟨g, 0, none⟩) l.length cap]).run Tryz.prog w.drew = .ok (.pointer (some ⟨g, 0, none⟩)) w.drew :=
    Lib.run_unsafeSliceData_row _ _ _ _ _ _ (by omega)
  have hUS : (Builtin.unsafeString_ #[80, 3] 9 #[.pointer (some ⟨g, 0, none⟩), .int .i64 l.length]).run Tryz.prog w.drew = .ok (.string ⟨l.toArray⟩) (w.drew.freeze ⟨g, 0, none⟩ l.length) := by
    refine Lib.run_unsafeString_row w.drew 80 3 9 5 Tryz.underlying80 (by kernel_rfl) g cur.size (by have hg' : w.drew.heap[g]? = some (.cells cur 5 (0, 0)) := hg; simp [World.shape?, hg']) l h0 (by omega) (by unfold maxLen at hcm; omega) ?_
    intro j x hx
    exact h.row.cells (g := g) rfl j (.int .u8 x.toNat) (by simp [Lib.byteCells, hx])
  have hF : Hid (Off (OwnB b (.slice (some ⟨g, 0, none⟩) l.length cap)) w (w.drew.freeze ⟨g, 0, none⟩ l.length)) := by
    unfold World.freeze
    split
    · exact (Off.refl _ w).drew
    · refine ((Off.refl _ w).drew).trans ⟨rfl, rfl, rfl, by simp, fun k _ hk => ?_⟩
      simp only [Array.getElem?_modify]
      rw [if_neg]
      intro e
      exact hk (.inr (congrArg some e))
  clear h hcs htake
  go_enter Tryz.func17, Tryz.ntmps17
  go_wp2
  go_region
  all_goals (go_wp2; go_ret; exact ⟨rfl, hF.out⟩)
/-- Run under way, behind the lines pre: the desk's box at B, the builder behind it, the text's box behind that, the loop's two blocks behind these. -/
def Rl (w : World) (bv : Value) (d tb mb B : Nat) (pre : List (List UInt8)) (W : World) : Prop :=
  ∃ u v, Ds w W bv d tb mb u (sesS pre (newT 20)) ∧ Bu W B (B + 1) v (sesF pre (newT 20)) ∧ W.heap[B]? = some (.cells #[.pointer (some ⟨d, 0, none⟩)] 31 (0, 0)) ∧ (∀ k, OwnT tb u k ∨ OwnB (B + 1) v k → k ≠ B + 2 ∧ k ≠ B + 3 ∧ k ≠ B + 4) ∧ (pre = [] → v = .slice none 0 0)
theorem Rl.off {w W W' : World} {bv : Value} {d tb mb B : Nat} {pre : List (List UInt8)} (h : Rl w bv d tb mb B pre W) (hB : w.heap.size ≤ B) (hd : d < B) (hm : mb < B) (ho : Off (fun k => k = B + 2 ∨ k = B + 3 ∨ k = B + 4) W W') : Rl w bv d tb mb B pre W' := by
  obtain ⟨u, v, h1, h2, h3, h4, h5⟩ := h
  exact ⟨u, v, h1.off ho (fun k hk => by omega) (by omega) (by omega) (fun k hk => by have := h4 k (.inl hk); omega), h2.off ho (fun k hk => by have := h4 k (.inr hk); omega),
    (ho.block _ (Array.getElem?_eq_some_iff.1 h3).1 (by omega)).trans h3, h4, h5⟩
/-- One line was answered, and the answer written. -/
theorem rl_step {w W w2 w3 w4 : World} {bv : Value} {d tb mb B : Nat} {u u2 : Tv} {s s2 : Tt} {v v' v'' : Value} {l l' l'' : List UInt8} {r : ByteArray} {o1 o2 : Obj} (hB : w.heap.size ≤ B) (hd : d < B) (hm : mb < B) (ht : tb < B)
    (h1 : Ds w W bv d tb mb u s) (h2 : Bu W B (B + 1) v l) (h3 : W.heap[B]? = some (.cells #[.pointer (some ⟨d, 0, none⟩)] 31 (0, 0))) (h4 : ∀ k, OwnT tb u k ∨ OwnB (B + 1) v k → k ≠ B + 2 ∧ k ≠ B + 3 ∧ k ≠ B + 4)
    (hr : W.heap[B + 2]? = some (.cells #[.string r] 9 (0, 0))) (ho1 : W.heap[B + 3]? = some o1) (hc1 : o1.isCells = false) (ho2 : W.heap[B + 4]? = some o2) (hc2 : o2.isCells = false)
    (hD2 : Ds w w2 bv d tb mb u2 s2) (hO2 : Off (OwnT tb u) W w2) (hB3 : Bu w3 B (B + 1) v' l') (hO3 : Off (OwnB (B + 1) v) w2 w3) (hB4 : Bu w4 B (B + 1) v'' l'') (hO4 : Off (OwnB (B + 1) v') w3 w4) :
    (∃ u v, Ds w w4 bv d tb mb u s2 ∧ Bu w4 B (B + 1) v l'' ∧ w4.heap[B]? = some (.cells #[.pointer (some ⟨d, 0, none⟩)] 31 (0, 0)) ∧ ∀ k, OwnT tb u k ∨ OwnB (B + 1) v k → k ≠ B + 2 ∧ k ≠ B + 3 ∧ k ≠ B + 4) ∧
    ∀ k, (k = B + 2 ∨ k = B + 3 ∨ k = B + 4) → w4.heap[k]? = W.heap[k]? := by
  have hB2 : Bu w2 B (B + 1) v l := h2.off hO2 fun k hk hT => talk_bu h1.tk h2 ht hT hk
  have lt : ∀ {o : Obj} {k : Nat}, W.heap[k]? = some o → k < W.heap.size := fun e => (Array.getElem?_eq_some_iff.1 e).1
  have x2 : ∀ k, k < W.heap.size → ¬ OwnT tb u k → ¬ OwnB (B + 1) v k → w3.heap[k]? = W.heap[k]? := fun k hk a b =>
    (hO3.block k (Nat.lt_of_lt_of_le hk hO2.size) b).trans (hO2.block k hk a)
  have y : ∀ k, (k = B + 2 ∨ k = B + 3 ∨ k = B + 4) → w3.heap[k]? = W.heap[k]? := fun k hk => by
    refine x2 k ?_ (fun e => ?_) (fun e => ?_)
    · rcases hk with rfl | rfl | rfl
      · exact lt hr
      · exact lt ho1
      · exact lt ho2
    · have := h4 k (.inl e); omega
    · have := h4 k (.inr e); omega
  have yB : w3.heap[B]? = W.heap[B]? := x2 B (lt h3) (fun e => talk_not h1.tk e ht h3 (.inr ⟨_, _, .inr rfl⟩)) (fun e => bu_not h2 e h3 (.inr ⟨_, _, .inr rfl⟩))
  have n3 : ∀ k, OwnB (B + 1) v' k → k ≠ B ∧ k ≠ B + 2 ∧ k ≠ B + 3 ∧ k ≠ B + 4 := fun k hk => by
    refine ⟨?_, ?_, ?_, ?_⟩
    · rintro rfl; exact bu_not hB3 hk (yB.trans h3) (.inr ⟨_, _, .inr rfl⟩)
    · rintro rfl; exact bu_not hB3 hk ((y _ (.inl rfl)).trans hr) (.inr ⟨_, _, .inl rfl⟩)
    · rintro rfl; exact bu_not hB3 hk ((y _ (.inr (.inl rfl))).trans ho1) (.inl hc1)
    · rintro rfl; exact bu_not hB3 hk ((y _ (.inr (.inr rfl))).trans ho2) (.inl hc2)
  have lt3 : ∀ k, k < W.heap.size → k < w3.heap.size := fun k hk => Nat.lt_of_lt_of_le hk (Nat.le_trans hO2.size hO3.size)
  have z : ∀ k, (k = B + 2 ∨ k = B + 3 ∨ k = B + 4) → w4.heap[k]? = W.heap[k]? := fun k hk => by
    refine (hO4.block k (lt3 k ?_) (fun e => ?_)).trans (y k hk)
    · rcases hk with rfl | rfl | rfl
      · exact lt hr
      · exact lt ho1
      · exact lt ho2
    · have := n3 k e; omega
  have zB : w4.heap[B]? = W.heap[B]? := (hO4.block B (lt3 B (lt h3)) (fun e => (n3 B e).1 rfl)).trans yB
  have hD3 : Ds w w3 bv d tb mb u2 s2 := hD2.off hO3 (fun k hk => Nat.le_trans hB (bu_kind hB2 hk).1) (fun e => by have := (bu_kind hB2 e).1; omega) (fun e => by have := (bu_kind hB2 e).1; omega) (fun k hk => talk_bu hD2.tk hB2 ht hk)
  have hD4 : Ds w w4 bv d tb mb u2 s2 := hD3.off hO4 (fun k hk => Nat.le_trans hB (bu_kind hB3 hk).1) (fun e => by have := (bu_kind hB3 e).1; omega) (fun e => by have := (bu_kind hB3 e).1; omega) (fun k hk => talk_bu hD3.tk hB3 ht hk)
  refine ⟨⟨u2, v'', hD4, hB4, zB.trans h3, fun k hk => ?_⟩, z⟩
  rcases hk with hk | hk
  · refine ⟨?_, ?_, ?_⟩
    · rintro rfl; exact talk_not hD4.tk hk (by omega) ((z _ (.inl rfl)).trans hr) (.inr ⟨_, _, .inl rfl⟩)
    · rintro rfl; exact talk_not hD4.tk hk (by omega) ((z _ (.inr (.inl rfl))).trans ho1) (.inl hc1)
    · rintro rfl; exact talk_not hD4.tk hk (by omega) ((z _ (.inr (.inr rfl))).trans ho2) (.inl hc2)
  · refine ⟨?_, ?_, ?_⟩
    · rintro rfl; exact bu_not hB4 hk ((z _ (.inl rfl)).trans hr) (.inr ⟨_, _, .inl rfl⟩)
    · rintro rfl; exact bu_not hB4 hk ((z _ (.inr (.inl rfl))).trans ho1) (.inl hc1)
    · rintro rfl; exact bu_not hB4 hk ((z _ (.inr (.inr rfl))).trans ho2) (.inl hc2)
theorem cut_len (x : List UInt8) : (cutNl x).length ≤ x.length := by
  unfold cutNl Lib.trimSuffix
  split
  · rw [List.length_take]; omega
  · exact Nat.le_refl _
theorem Few.start : Few 0 (newT 20) := ⟨Nat.le_refl _, Nat.le_refl _⟩
end Rn
end Go.Proofs.YtdokgalidhmbbaaGreatDoor
namespace Go.Proofs.YtdokgalidhmbbaaGreatDoor
namespace Rn
open Go.RowKit Go.Shelf
attribute [local go_sem] Oper.semAt_some

set_option maxRecDepth 100000 in
set_option maxHeartbeats 4000000 in
theorem run_long (t : List UInt8) (h : 3000 < t.length) (hl : t.length ≤ 9223372036854775807) (w : World) : Calls Tryz.prog 6 #[.string (str t)] w fun e w' => e = .returned (.string (str (runL t))) ∧ Below w.heap.size w w' := by
  have e1 : str (runL t) = ⟨#[116, 111, 111, 32, 108, 111, 110, 103, 10]⟩ := by unfold runL; rw [if_pos h]; rfl
  have hz : (str t).size = t.length := str_size t
  rw [e1]
  generalize str t = s at hz ⊢
  have g : (3000 : Int) < (s.size : Int) := by omega
  refine (callsIn_wide (n := 5)).1 ?_
  refine callsIn_of_wp_marks Tryz.func6 rfl trivial ?_ rfl
  simp only [Tryz.ntmps6, List.size_toArray, List.length_cons, List.length_nil, Nat.reduceAdd, Nat.reduceSub, Array.replicate_succ, Array.replicate_zero, List.push_toArray, List.append_toArray, List.nil_append, List.cons_append]
  gi_wp2
  exact ⟨_, results_tmp rfl _ _ _, rfl, Below.refl _ _⟩
set_option maxRecDepth 100000 in
set_option maxHeartbeats 4000000 in
theorem run_short (t : List UInt8) (h : t.length ≤ 3000) {w : World} {bv : Value} (ha : Al w bv) : Calls Tryz.prog 6 #[.string (str t)] w fun e w' => e = .returned (.string (str (runL t))) ∧ Below w.heap.size w w' := by
  have e1 : runL t = sesF (lnsF t) (newT 20) := by unfold runL; rw [if_neg (by omega)]
  have hz : (str t).size = t.length := str_size t
  rw [e1]
  have g : ¬ (3000 : Int) < ((str t).size : Int) := by omega
  refine (callsIn_wide (n := 5)).1 ?_
  have f11 : Fence.wide.fn 11 := trivial
  have f12 : Fence.wide.fn 12 := trivial
  refine callsIn_of_wp_marks Tryz.func6 rfl trivial ?_ rfl
  simp only [Tryz.ntmps6, List.size_toArray, List.length_cons, List.length_nil, Nat.reduceAdd, Nat.reduceSub, Array.replicate_succ, Array.replicate_zero, List.push_toArray, List.append_toArray, List.nil_append, List.cons_append]
  gi_wp2_with (first | (gi_at_call 11; refine (callsIn_wide.2 (desk_calls ha)).mono ?_; rintro e w1 ⟨d, tb, mb, rfl, hD, hb1⟩) | (gi_at_call 12; refine (callsIn_wide.2 (lines12 _ _)).mono ?_; rintro e w' ⟨rfl, rfl⟩))
  have hbw := hb1.size
  have htl := hD.tk.lt
  have hdl := hD.dk.d_lt
  have hml := hD.dk.mb_lt
  obtain ⟨W0, hW0⟩ : ∃ W0, (((w1.alloc (.cells #[.pointer (some ⟨d, 0, none⟩)] 31)).alloc (.cells #[.pointer none, .slice none 0 0] 39)).alloc (.cells #[.string (str t)] 9)) = W0 := ⟨_, rfl⟩
  have hz0 : W0.heap.size = w1.heap.size + 3 := by rw [← hW0]; simp
  have hb0 : Below w1.heap.size w1 W0 := by rw [← hW0]; exact (((Below.refl _ w1).alloc (Nat.le_refl _) _).alloc (by simp) _).alloc (by simp <;> omega) _
  have k0 : W0.heap[w1.heap.size]? = some (.cells #[.pointer (some ⟨d, 0, none⟩)] 31) := by
    rw [← hW0]; exact (heap_old _ _ (by simp <;> omega)).trans ((heap_old _ _ (by simp)).trans (heap_new _ _))
  have k1 : W0.heap[w1.heap.size + 1]? = some (.cells #[.pointer none, .slice none 0 0] 39) := by
    rw [← hW0]
    have := heap_new (w1.alloc (.cells #[.pointer (some ⟨d, 0, none⟩)] 31)) (.cells #[.pointer none, .slice none 0 0] 39)
    rw [World.size_alloc] at this
    exact (heap_old _ _ (by simp)).trans this
  have k2 : W0.heap[w1.heap.size + 2]? = some (.cells #[.string (str t)] 9) := by
    rw [← hW0]
    have := heap_new ((w1.alloc (.cells #[.pointer (some ⟨d, 0, none⟩)] 31)).alloc (.cells #[.pointer none, .slice none 0 0] 39)) (.cells #[.string (str t)] 9)
    rw [World.size_alloc, World.size_alloc] at this
    exact this
  have hR0 : Rl w bv d tb mb w1.heap.size [] W0 := by
    refine ⟨nilV, .slice none 0 0, hD.below hb0, ⟨Nat.le_succ _, .inl k1, World.ownsRow_nil _ _ _ _, by simp [Value.ownBlock]⟩, k0, fun k hk => ?_, fun _ => rfl⟩
    rcases hk with hk | hk
    · have := (hD.tk.own_lt hk).2; omega
    · rcases hk with hk | hk
      · omega
      · cases hk
  rw [hW0]
  clear hW0
  refine wpIn_lines rfl (by decide) (bx := w1.heap.size + 2) rfl trivial (enters_of Tryz.func32 (by kernel_rfl) rfl) (lines_gives (5 - 1) (w1.heap.size + 2) (by decide) t h) rfl k2 (Rl w bv d tb mb w1.heap.size) ?hI hR0
    (fun x => { tmps := #[.string (str t), undef, .string { data := #[] }, .pointer (some ⟨w1.heap.size, 0, none⟩), .nilIface, .pointer (some ⟨w1.heap.size + 1, 0, none⟩), .string (str x), .string (str t), .int .i64 t.length, .bool (decide ((3000 : Int) < t.length)),
      .tuple #[.pointer (some ⟨d, 0, none⟩), .nilIface], .tuple #[.pointer (some ⟨d, 0, none⟩), .nilIface], .pointer (some ⟨d, 0, none⟩), .nilIface, .nilIface, .bool false, .string (str t), .func (.func 32) #[] #[.pointer (some ⟨w1.heap.size + 1 + 1, 0, none⟩)], .string (str x), undef, undef, undef, undef, undef, undef, undef], defers := [] }) ?assign ?body ?done
  case hI =>
    intro pre W W' hR ho
    exact hR.off hbw hdl hml (ho.mono fun k _ hk => by omega)
  case assign =>
    intro l x W K hK
    gi_wp2
    exact hK
  case body =>
    rintro l pre x post W he ⟨u, v, h1, h2, h3, h4, _⟩ ⟨r, hr⟩ ⟨o1, ho1, hc1⟩ ⟨o2, ho2, hc2⟩
    rw [hz0] at ho1 ho2
    have hxm : x ∈ lnsF t := by rw [he]; simp
    have hxl := lns_each t hxm
    have hpl : pre.length + 1 ≤ 3000 := by
      have := lns_count t
      rw [he] at this
      simp at this
      omega
    have hf : Few pre.length (sesS pre (newT 20)) := by
      have := Few.ses pre Few.start
      rwa [Nat.zero_add] at this
    have hlen := ses_len pre (newT 20)
    have HN : Hid (sesF (pre ++ [x]) (newT 20) = (sesF pre (newT 20) ++ (str (lineF (cutNl x) (sesS pre (newT 20))).1).data.toList) ++ [10] ∧ sesS (pre ++ [x]) (newT 20) = (lineF (cutNl x) (sesS pre (newT 20))).2) := by
      refine ⟨?_, ?_⟩
      · rw [ses_append, (ses_one _ _).1, str_list, List.append_assoc]
      · rw [sesS_append, (ses_one _ _).2]
    have hal := line_len (cutNl x) (sesS pre (newT 20))
    have hD1 : Ds w W.drew bv d tb mb u (sesS pre (newT 20)) := h1.below (Below.refl _ _).drew
    have HT := trim_calls x (by omega) W.drew
    have HA := answer_calls hD1 ha.hn (K := pre.length) (by omega) hf (cutNl x) (by have := cut_len x; omega)
    have hsz : (str (lineF (cutNl x) (sesS pre (newT 20))).1).size = (lineF (cutNl x) (sesS pre (newT 20))).1.length := str_size _
    generalize hax : (lineF (cutNl x) (sesS pre (newT 20))).1 = ax at *
    generalize (lineF (cutNl x) (sesS pre (newT 20))).2 = s2 at *
    generalize sesS pre (newT 20) = s at *
    generalize sesF pre (newT 20) = ls at *
    have hBW : w1.heap.size ≤ W.heap.size := by have := (Array.getElem?_eq_some_iff.1 h3).1; omega
    generalize str ax = sa at *
    have HB : Hid (∀ w2, Off (OwnT tb u) W.drew w2 → Calls Tryz.prog 13 #[.pointer (some ⟨w1.heap.size + 1, 0, none⟩), .string sa] w2 fun e w' => e = .returned (.tuple #[.int .i64 sa.size, .nilIface]) ∧ ∃ v', Bu w' w1.heap.size (w1.heap.size + 1) v' (ls ++ sa.data.toList) ∧ Off (OwnB (w1.heap.size + 1) v) w2 w') := fun w2 ho =>
      bstr_calls ((h2.off (Off.refl (fun _ => False) W).drew (fun _ _ => id)).off ho fun k hk hT => talk_bu h1.tk h2 htl hT hk) sa (by omega) (Nat.le_trans hBW ho.size)
    have HC : Hid (∀ w3 v', Bu w3 w1.heap.size (w1.heap.size + 1) v' (ls ++ sa.data.toList) → w1.heap.size ≤ w3.heap.size → Calls Tryz.prog 16 #[.pointer (some ⟨w1.heap.size + 1, 0, none⟩), .int .u8 10] w3 fun e w' => e = .returned .nilIface ∧ ∃ v'', Bu w' w1.heap.size (w1.heap.size + 1) v'' ((ls ++ sa.data.toList) ++ [10]) ∧ Off (OwnB (w1.heap.size + 1) v') w3 w') := fun w3 v' hb hs =>
      bbyte_calls hb 10 (by rw [List.length_append, ← Lib.size_eq]; omega) hs
    have cB : W.drew.cell? ⟨w1.heap.size, 0, none⟩ = some (.pointer (some ⟨d, 0, none⟩)) := by rw [Lib.cell_of_heap (w := W.drew) h3]; rfl
    have HS : Hid (∀ w2 w3 w4 u2 v' v'', Ds w w2 bv d tb mb u2 s2 → Off (OwnT tb u) W.drew w2 → Bu w3 w1.heap.size (w1.heap.size + 1) v' (ls ++ sa.data.toList) → Off (OwnB (w1.heap.size + 1) v) w2 w3 → Bu w4 w1.heap.size (w1.heap.size + 1) v'' ((ls ++ sa.data.toList) ++ [10]) → Off (OwnB (w1.heap.size + 1) v') w3 w4 →
        LinePost (Rl w bv d tb mb w1.heap.size) W0.heap.size (w1.heap.size + 2) (pre ++ [x]) W .normal { tmps := #[], defers := [] } w4) := by
      show ∀ w2 w3 w4 u2 v' v'', _
      intro w2 w3 w4 u2 v' v'' a1 a2 a3 a4 a5 a6
      obtain ⟨g1, g2⟩ := rl_step hbw hdl hml htl h1 h2 h3 h4 hr ho1 hc1 ho2 hc2 a1 (((Off.refl _ W).drew).trans a2) a3 a4 a5 a6
      refine ⟨rfl, ?_, fun k hk => g2 k (by rw [hz0] at hk; omega)⟩
      unfold Rl
      rw [HN.out.1, HN.out.2]
      obtain ⟨u', v0, b1, b2, b3, b4⟩ := g1
      exact ⟨u', v0, b1, b2, b3, b4, fun e => by simp at e⟩
    have hmix : Tryz.prog.follows .mixedOrders = true := by kernel_rfl
    have q15 : Fence.wide.fn 15 := trivial
    have q14 : Fence.wide.fn 14 := trivial
    have q13 : Fence.wide.fn 13 := trivial
    have q16 : Fence.wide.fn 16 := trivial
    clear hD1 h1 h2 h3 h4 hr ho1 hc1 ho2 hc2 hf HN k0 k1 k2 hR0 hb0 hD ha hb1
    have hn1 : 1 ≤ 5 - 1 - 1 := by decide
    gi_wp2
    gi_region_with_o (first | (gi_at_call 15; refine (CallsIn.inRound l (callsIn_wide.2 HT)).mono ?_; rintro e w2 ⟨rfl, hw2⟩; obtain rfl := hw2.symm) | (gi_at_call 14; refine (CallsIn.inRound l (callsIn_wide.2 HA)).mono ?_; rintro e w2 ⟨rfl, u2, hD2, hO2, hk2⟩; have HB2 := HB.out w2 hO2) | (gi_at_call 13; refine (CallsIn.inRound l (callsIn_wide.2 HB2)).mono ?_; rintro e w3 ⟨rfl, v', hB3, hO3⟩))
    all_goals have HC2 := HC.out w3 v' hB3 (Nat.le_trans hBW (Nat.le_trans hO2.size hO3.size))
    all_goals gi_wp2_with (gi_at_call 16; refine (CallsIn.inRound l (callsIn_wide.2 HC2)).mono ?_; rintro e w4 ⟨rfl, v'', hB4, hO4⟩)
    all_goals exact HS.out _ _ _ _ _ _ hD2 hO2 hB3 hO3 hB4 hO4
  case done =>
    intro W hR hK
    obtain ⟨u, v, h1, h2, h3, h4, h5⟩ := hR
    have HB : Calls Tryz.prog 17 #[.pointer (some ⟨w1.heap.size + 1, 0, none⟩)] W fun e w' => e = .returned (.string ⟨(sesF (lnsF t) (newT 20)).toArray⟩) ∧ Off (OwnB (w1.heap.size + 1) v) W w' := by
      by_cases he : lnsF t = []
      · obtain rfl := h5 he
        rw [he] at h2 ⊢
        exact bstring_nil h2
      · refine bstring_some h2 fun e => ?_
        cases hl : lnsF t with
        | nil => exact he hl
        | cons a b => rw [hl, sesF] at e; simp at e
    have hKl : W0.heap.size < W.heap.size := (Array.getElem?_eq_some_iff.1 hK).1
    have f17 : Fence.wide.fn 17 := trivial
    have hE : Hid (str (sesF (lnsF t) (newT 20)) = ByteArray.mk (sesF (lnsF t) (newT 20)).toArray) := rfl
    have hBl : Hid (∀ w5, Off (OwnB (w1.heap.size + 1) v) W w5 → Below w.heap.size w (w5.putObj W0.heap.size (.deferred none)) ∧ w5.heap[W0.heap.size]? = some (.deferred (some []))) := by
      show ∀ w5, _
      intro w5 ho
      refine ⟨?_, (ho.block _ hKl fun e => ?_).trans hK⟩
      · have hb := h1.bel.trans (ho.below (fun k hk => Nat.le_trans hbw (bu_kind h2 hk).1) (by omega))
        exact hb.trans ((off_put (K := fun k => k = W0.heap.size) rfl _).below (fun k e => by omega) hb.size)
      · have := h4 _ (.inr e); omega
    generalize ByteArray.mk (sesF (lnsF t) (newT 20)).toArray = sr at *
    rw [hz0] at hBl
    clear hD ha hb1 hb0 k0 k1 k2 hR0 h1 h2 h3 h4 h5 hK
    gi_wp2_with (gi_at_call 17; refine (callsIn_wide.2 HB).mono ?_; rintro e w5 ⟨rfl, hb5⟩)
    obtain ⟨hbf, hk5⟩ := hBl.out w5 hb5
    refine ⟨by simp, .inl ⟨_, _, rfl, run_takeDeferred hk5, ?_⟩⟩
    exact ⟨_, results_tmp rfl _ _ _, by rw [hE.out]; rfl, hbf⟩
theorem run_calls (s : ByteArray) (hl : s.size ≤ 9223372036854775807) {w : World} {bv : Value} (ha : Al w bv) : Calls Tryz.prog 6 #[.string s] w fun e w' => e = .returned (.string (str (runL s.data.toList))) ∧ Below w.heap.size w w' := by
  have h := Lib.size_eq s
  by_cases hs : s.data.toList.length ≤ 3000
  · have := run_short s.data.toList hs ha
    rwa [str_of] at this
  · have := run_long s.data.toList (by omega) (by omega) w
    rwa [str_of] at this
end Rn
end Go.Proofs.YtdokgalidhmbbaaGreatDoor
