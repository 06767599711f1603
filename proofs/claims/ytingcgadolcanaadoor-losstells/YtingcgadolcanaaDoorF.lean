/- slices.DeleteFunc of the packets that came; left. -/
import Derived.Test.YtingcgadolcanaaDoorE
namespace Go.Proofs.YtingcgadolcanaaDoor
open Go.RowKit Go.Lib Go.Sort
set_option linter.unusedVariables false
set_option linter.unusedSimpArgs false

theorem World.cell_new0 (w : World) (a b c : Int) : (w.alloc (.cells #[.int .i64 a, .int .i64 b, .int .i64 c] 30)).cell? ⟨w.heap.size, 0, none⟩ = some (.int .i64 a) := by simp
theorem World.cell_new1 (w : World) (a b c : Int) : (w.alloc (.cells #[.int .i64 a, .int .i64 b, .int .i64 c] 30)).cell? ⟨w.heap.size, 1, none⟩ = some (.int .i64 b) := by simp
theorem World.cell_new2 (w : World) (a b c : Int) : (w.alloc (.cells #[.int .i64 a, .int .i64 b, .int .i64 c] 30)).cell? ⟨w.heap.size, 2, none⟩ = some (.int .i64 c) := by simp
set_option maxRecDepth 100000 in
set_option maxHeartbeats 2000000 in
theorem delf_go (P g n cap k0 : Nat) (v : Value) (acks : List R) (zs : List S3) (w0 w : World) (hn : zs.length = n) (hnc : n ≤ cap) (hl : n ≤ 1000000) (hg0 : w0.heap.size ≤ g) (hg : g < w.heap.size) (hB : Below w0.heap.size w0 w) (hH : Held w g zs)
    (hP : w0.cell? ⟨P, 0, none⟩ = some v) (hR : Row w0 v acks) (hk : k0 < n) (ht : memB acks (at3 zs k0).1 = true) (ha : ∀ j, j < k0 → memB acks (at3 zs j).1 = false)
    (hcon : Calls Tryd.prog 39 #[.slice (some ⟨g, 0, none⟩) n cap, .func (.func 28) #[] #[.pointer (some ⟨P, 0, none⟩)]] w fun e w' => e = .returned (.int .i64 (k0 : Int)) ∧ Below w.heap.size w w') :
    Calls Tryd.prog 30 #[.slice (some ⟨g, 0, none⟩) n cap, .func (.func 28) #[] #[.pointer (some ⟨P, 0, none⟩)]] w fun e w' => ∃ u, e = .returned u ∧ Row3 w' u (leftL acks zs) ∧ Below w0.heap.size w0 w' := by
  have eg : ∀ args w, (callFunc 28 args).run Tryd.prog w = .ok (.enter 28 args) w := enters_of Tryd.func28 (by kernel_rfl) rfl
  have hPl : P < w0.heap.size := World.block_lt_of_cell? w0 _ hP
  have HN : Hid (zs.length = n) := hn
  have HS : Hid (Kept acks zs zs k0 (k0 + 1)) := Kept.start (by omega) ht ha
  have HC : Hid (∀ W (a b c : Int), Below w0.heap.size w0 W → Calls Tryd.prog 28 #[.agg #[.int .i64 a, .int .i64 b, .int .i64 c], .pointer (some ⟨P, 0, none⟩)] W fun e w' => e = .returned (.bool (memB acks a)) ∧ Below W.heap.size W w') := fun W a b c hb =>
    came_calls a b c P v acks W ((hb.cell (p := ⟨P, 0, none⟩) hPl).trans hP) (hR.below hb)
  have HH : Hid (Held w g zs) := hH
  have HB : Hid (Below w0.heap.size w0 w) := hB
  have hw0 := hB.size
  have kn : ((k0 : Int) == -1) = false := beq_eq_false_iff_ne.2 (by omega)
  clear hP hR ht ha hH hB hn
  go_enter Tryd.func30, Tryd.ntmps30
  go_wp2_with (go_at_call 39; refine hcon.mono ?_; rintro e w' ⟨rfl, hb1⟩)
  go_loopg [5, 6, 7] n (fun gg s5 s6 _ wr => ∃ (i j : Nat) (L : List S3), s5 = .int .i64 i ∧ s6 = .int .i64 j ∧ j ≤ n ∧ n - j ≤ gg ∧ g < wr.heap.size ∧ Hid (Kept acks zs L i j) ∧ Hid (Held wr g L) ∧ Hid (Below w0.heap.size w0 wr))
  case atStart => exact ⟨k0, k0 + 1, zs, rfl, by go_num, by omega, by omega, Nat.lt_of_lt_of_le hg hb1.size, HS, HH.out.below hg hb1, HB.out.trans (hb1.mono hw0)⟩
  case round =>
    obtain ⟨i, j, L, rfl, rfl, hjn, hgg, hgr, HK, HL, HW⟩ := hrel
    have hij := HK.out.lt
    have hin : i < n := by omega
    have hLn : L.length = n := HK.out.len.trans HN.out
    by_cases hlt : j < n
    · have hltz : (j : Int) < (n : Int) := by omega
      have hiz : (i : Int) < (n : Int) := by omega
      have hjl : j < zs.length := by have := HN.out; omega
      obtain ⟨c0, c1, c2⟩ := HL.out.cells j (by omega)
      obtain ⟨d0, d1, d2⟩ := HL.out.cells i (by omega)
      simp only [Nat.zero_add] at c0 c1 c2 d0 d1 d2
      rw [HK.out.at hjl] at c0 c1 c2
      have f0 := HL.out.fz (i * 3)
      have f1 := HL.out.fz (i * 3 + 1)
      have f2 := HL.out.fz (i * 3 + 2)
      have HM : Hid (memB acks (at3 zs j).1 = true → Kept acks zs L i (j + 1)) := HK.out.skip hjl
      have HM2 : Hid (memB acks (at3 zs j).1 = false → Kept acks zs (L.set i (at3 zs j)) (i + 1) (j + 1)) := HK.out.keep hjl
      generalize at3 zs j = s at c0 c1 c2 HM HM2
      generalize at3 L i = o at d0 d1 d2
      obtain ⟨a, b, c⟩ := s
      obtain ⟨o0, o1, o2⟩ := o
      simp only at c0 c1 c2 d0 d1 d2
      have hcall := HC.out (wr.alloc (.cells #[.int .i64 a, .int .i64 b, .int .i64 c] 30)) a b c (HW.out.alloc (by have := HW.out.size; omega) _)
      cases hq : memB acks a with
      | true =>
        rw [hq] at hcall
        have HM1 : Hid (Kept acks zs L i (j + 1)) := HM.out hq
        clear HM HM2
        go_wp2_with ((first | go_at_fn 28 | go_at_call 28); refine hcall.mono ?_; rintro e w1 ⟨rfl, hb'⟩; have hBW : Below wr.heap.size wr w1 := ((Below.refl _ wr).alloc (Nat.le_refl _) _).trans (hb'.mono (by simp)); have x0 := (hb'.cell (p := ⟨wr.heap.size, 0, none⟩) (by simp)).trans (World.cell_new0 wr a b c); have x1 := (hb'.cell (p := ⟨wr.heap.size, 1, none⟩) (by simp)).trans (World.cell_new1 wr a b c); have x2 := (hb'.cell (p := ⟨wr.heap.size, 2, none⟩) (by simp)).trans (World.cell_new2 wr a b c); have y0 := (hBW.cell (p := ⟨g, i * 3, none⟩) hgr).trans d0; have y1 := (hBW.cell (p := ⟨g, i * 3 + 1, none⟩) hgr).trans d1; have y2 := (hBW.cell (p := ⟨g, i * 3 + 2, none⟩) hgr).trans d2; have z0 := (hBW.frozen (p := ⟨g, i * 3, none⟩) hgr).trans f0; have z1 := (hBW.frozen (p := ⟨g, i * 3 + 1, none⟩) hgr).trans f1; have z2 := (hBW.frozen (p := ⟨g, i * 3 + 2, none⟩) hgr).trans f2)
        go_roundg (n - (j + 1))
        case measure => omega
        case rel => exact ⟨i, j + 1, L, rfl, by go_num, by omega, Nat.le_refl _, Nat.lt_of_lt_of_le hgr hBW.size, HM1, HL.out.below hgr hBW, HW.out.trans (hBW.mono HW.out.size)⟩
      | false =>
        rw [hq] at hcall
        have HM1 : Hid (Kept acks zs (L.set i (a, b, c)) (i + 1) (j + 1)) := HM2.out hq
        clear HM HM2
        go_wp2_with ((first | go_at_fn 28 | go_at_call 28); refine hcall.mono ?_; rintro e w1 ⟨rfl, hb'⟩; have hBW : Below wr.heap.size wr w1 := ((Below.refl _ wr).alloc (Nat.le_refl _) _).trans (hb'.mono (by simp)); have x0 := (hb'.cell (p := ⟨wr.heap.size, 0, none⟩) (by simp)).trans (World.cell_new0 wr a b c); have x1 := (hb'.cell (p := ⟨wr.heap.size, 1, none⟩) (by simp)).trans (World.cell_new1 wr a b c); have x2 := (hb'.cell (p := ⟨wr.heap.size, 2, none⟩) (by simp)).trans (World.cell_new2 wr a b c); have y0 := (hBW.cell (p := ⟨g, i * 3, none⟩) hgr).trans d0; have y1 := (hBW.cell (p := ⟨g, i * 3 + 1, none⟩) hgr).trans d1; have y2 := (hBW.cell (p := ⟨g, i * 3 + 2, none⟩) hgr).trans d2; have z0 := (hBW.frozen (p := ⟨g, i * 3, none⟩) hgr).trans f0; have z1 := (hBW.frozen (p := ⟨g, i * 3 + 1, none⟩) hgr).trans f1; have z2 := (hBW.frozen (p := ⟨g, i * 3 + 2, none⟩) hgr).trans f2)
        go_roundg (n - (j + 1))
        case measure => omega
        case rel =>
          refine ⟨i + 1, j + 1, L.set i (a, b, c), by go_num, by go_num, by omega, Nat.le_refl _, by simp; exact Nat.lt_of_lt_of_le hgr hBW.size, HM1, (HL.out.below hgr hBW).put (by omega) a b c, ?_⟩
          exact ((((HW.out.trans (hBW.mono HW.out.size)).setCell (p := ⟨g, i * 3, none⟩) hg0 _).setCell (p := ⟨g, i * 3 + 1, none⟩) hg0 _).setCell (p := ⟨g, i * 3 + 2, none⟩) hg0 _)
    · obtain rfl : j = n := by omega
      have hltz : ¬ (j : Int) < (j : Int) := by omega
      have hcl : ∀ ty, (Builtin.clear_ #[22] ty #[.slice (some ⟨g, i * 3, none⟩) (j - i) (cap - i)]).run Tryd.prog wr = .ok (.tuple #[]) (wr.setCells g (i * 3) (zeros (j - i))) :=
        fun ty => clear3 wr ty g _ _ _ (by omega) (fun t ht => HL.out.cell (by omega)) HL.out.fz
      have HLL : Hid (L.take i = leftL acks zs) := by
        show _ = _
        rw [HK.out.low, List.take_of_length_le (by have := HN.out; omega)]
      have q1 : (i : Int) ≤ (j : Int) := by omega
      have q2 : (j : Int) ≤ (cap : Int) := by omega
      have q3 : (i : Int) ≤ (cap : Int) := by omega
      have q4 : ¬ cap = i := by omega
      have q5 : ((i : Int)).toNat = i := by omega
      go_wp2_with fail
      go_ret
      refine ⟨_, rfl, ?_, below_setCells hg0 _ _ HW.out⟩
      rw [← HLL.out]
      have hli : (L.take i).length = i := by rw [List.length_take]; omega
      refine ⟨some ⟨g, 0, none⟩, cap, by rw [hli]; rfl, by omega, (fun x => by cases x), .inr ⟨g, 0, rfl, Nat.lt_of_lt_of_le hgr (below_setCells (Nat.zero_le g) _ _ (Below.refl 0 wr)).size, fun t ht => ?_⟩⟩
      rw [hli] at ht
      have e : at3 (L.take i) t = at3 L t := by simp [at3, List.getElem?_take_of_lt ht]
      have h3 := HL.out.cells t (by omega)
      rw [e]
      simp only [Nat.zero_add] at h3 ⊢
      refine ⟨?_, ?_, ?_⟩
      · rw [World.cell?_setCells_out g _ _ _ _ (fun _ _ => by left; show t * 3 < _; omega)]; exact h3.1
      · rw [World.cell?_setCells_out g _ _ _ _ (fun _ _ => by left; show t * 3 + 1 < _; omega)]; exact h3.2.1
      · rw [World.cell?_setCells_out g _ _ _ _ (fun _ _ => by left; show t * 3 + 2 < _; omega)]; exact h3.2.2
theorem delf_calls (P : Nat) (u v : Value) (acks : List R) (zs : List S3) (w0 w : World) (hl : zs.length ≤ 1000000) (hB : Below w0.heap.size w0 w) (hown : w.ownsRow w0.heap.size 30 3 u zs.length (flat3 zs)) (hP : w0.cell? ⟨P, 0, none⟩ = some v) (hR : Row w0 v acks) :
    Calls Tryd.prog 30 #[u, .func (.func 28) #[] #[.pointer (some ⟨P, 0, none⟩)]] w fun e w' => ∃ u', e = .returned u' ∧ Row3 w' u' (leftL acks zs) ∧ Below w0.heap.size w0 w' := by
  have hPl : P < w0.heap.size := World.block_lt_of_cell? w0 _ hP
  have hrow := row3_of_own hown hl
  obtain ⟨ao, cap, rfl, _, hn, hz⟩ := hrow
  have eg : ∀ args w, (callFunc 28 args).run Tryd.prog w = .ok (.enter 28 args) w := enters_of Tryd.func28 (by kernel_rfl) rfl
  have hidx := idxS_near 28 #[.pointer (some ⟨P, 0, none⟩)] (fun s => memB acks s.1) eg ao zs.length cap zs w rfl (by omega) hz
    (fun W r hb => (came_calls r.1 r.2.1 r.2.2 P v acks W (((hB.trans (hb.mono hB.size)).cell (p := ⟨P, 0, none⟩) hPl).trans hP) (hR.below (hB.trans (hb.mono hB.size)))).mono fun _ _ ⟨he, h2⟩ => ⟨he, hb.trans (h2.mono hb.size)⟩)
  by_cases hex : ∃ k, k < zs.length ∧ memB acks (at3 zs k).1 = true ∧ ∀ j, j < k → memB acks (at3 zs j).1 = false
  · obtain ⟨k, hk, hkt, hka⟩ := hex
    have hcon : Calls Tryd.prog 39 #[.slice ao zs.length cap, .func (.func 28) #[] #[.pointer (some ⟨P, 0, none⟩)]] w fun e w' => e = .returned (.int .i64 (k : Int)) ∧ Below w.heap.size w w' := by
      refine hidx.mono fun e w' ⟨i, he, hi, hb⟩ => ⟨?_, hb⟩
      rcases hi with ⟨_, h⟩ | ⟨k', rfl, hk', ht', ha'⟩
      · have := h k hk; rw [hkt] at this; cases this
      · have : k' = k := by
          rcases Nat.lt_trichotomy k' k with h | h | h
          · have := hka k' h; rw [show memB acks (at3 zs k').1 = true from ht'] at this; cases this
          · exact h
          · have := ha' k h; rw [show memB acks (at3 zs k).1 = true from hkt] at this; cases this
        rw [he, this]
    rcases hown.2 with ⟨e, e0⟩ | ⟨g, cap', cur, e, hb, hg, hnc, _⟩
    · omega
    · injection e with e1 e2 e3
      subst e1; subst e3
      have hgl := (Array.getElem?_eq_some_iff.1 hg).1
      exact delf_go P g zs.length cap k v acks zs w0 w rfl hnc hl hb hgl hB ⟨cells3_of_own hown, fun t => by simp [World.frozen?, hg]⟩ hP hR hk hkt hka hcon
  · have hall : ∀ n j, j < n → j < zs.length → memB acks (at3 zs j).1 = false := by
      intro n
      induction n with
      | zero => intro j hj; omega
      | succ n ih =>
        intro j hj hjl
        cases e : memB acks (at3 zs j).1 with
        | false => rfl
        | true => exact absurd ⟨j, hjl, e, fun t ht => ih t (by omega) (by omega)⟩ hex
    have hcon : Calls Tryd.prog 39 #[.slice ao zs.length cap, .func (.func 28) #[] #[.pointer (some ⟨P, 0, none⟩)]] w fun e w' => e = .returned (.int .i64 (-1)) ∧ Below w.heap.size w w' := by
      refine hidx.mono fun e w' ⟨i, he, hi, hb⟩ => ⟨?_, hb⟩
      rcases hi with ⟨rfl, _⟩ | ⟨k', rfl, hk', ht', _⟩
      · exact he
      · have := hall (k' + 1) k' (by omega) hk'
        rw [show memB acks (at3 zs k').1 = true from ht'] at this; cases this
    have e : leftL acks zs = zs := left_all acks fun j hj => hall zs.length j hj hj
    rw [e]
    refine (delf_stay P ao zs.length cap w0.heap.size w0 w hB hB.size hl hcon).mono fun e w' ⟨he, hb⟩ => ⟨_, he, (row3_of_own hown hl).below hb, hB.trans (hb.mono hB.size)⟩
set_option maxRecDepth 100000 in
set_option maxHeartbeats 2000000 in
theorem left_calls (u v : Value) (zs : List S3) (acks : List R) (w : World) (hl : zs.length ≤ 1000000) (hZ : Row3 w u zs) (hR : Row w v acks) :
    Calls Tryd.prog 21 #[u, v] w fun e w' => ∃ u', e = .returned u' ∧ Row3 w' u' (leftL acks zs) ∧ Below w.heap.size w w' := by
  have bel : Below w.heap.size w (w.alloc (.cells #[v] 23)) := (Below.refl _ _).alloc (Nat.le_refl _) _
  have hcl := clone_calls u zs (w.alloc (.cells #[v] 23)) (hZ.below bel) hl
  have HD : Hid (∀ (w1 : World) (u1 : Value), w1.ownsRow (w.alloc (.cells #[v] 23)).heap.size 30 3 u1 zs.length (flat3 zs) → Below (w.alloc (.cells #[v] 23)).heap.size (w.alloc (.cells #[v] 23)) w1 →
      Calls Tryd.prog 30 #[u1, .func (.func 28) #[] #[.pointer (some ⟨w.heap.size, 0, none⟩)]] w1 fun e w' => ∃ u', e = .returned u' ∧ Row3 w' u' (leftL acks zs) ∧ Below (w.alloc (.cells #[v] 23)).heap.size (w.alloc (.cells #[v] 23)) w') := fun w1 u1 ho hb =>
    delf_calls w.heap.size u1 v acks zs (w.alloc (.cells #[v] 23)) w1 hl hb ho (by simp) (hR.below bel)
  obtain ⟨ao, c, rfl, _, hn, hz⟩ := hZ
  obtain ⟨bo, d, rfl, _, hn2, hz2⟩ := hR
  clear hn hz hn2 hz2
  generalize acks.length = m at *
  generalize hlen : zs.length = len at *
  clear hlen
  go_enter Tryd.func21, Tryd.ntmps21
  go_wp2_with (first | (go_at_call 31; refine hcl.mono ?_; rintro e w1 ⟨u1, rfl, ho1, hb1⟩) | (go_at_call 30; refine (HD.out w1 u1 ho1 hb1).mono ?_; rintro e w2 ⟨u2, rfl, ho2, hb2⟩))
  go_ret
  exact ⟨u2, rfl, ho2, bel.trans (hb2.mono bel.size)⟩
end Go.Proofs.YtingcgadolcanaaDoor
