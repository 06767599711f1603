/- slices.IndexFunc and slices.ContainsFunc over a closure; whether a packet's number came, and whether a number or any above it did. -/
import Derived.Test.YtingcgadolcanaaDoorB
import Derived.Deep.LoopGhost
namespace Go.Proofs.YtingcgadolcanaaDoor
open Go.RowKit Go.Lib Go.Sort
set_option linter.unusedVariables false
set_option linter.unusedSimpArgs false

set_option maxRecDepth 100000 in
set_option maxHeartbeats 2000000 in
theorem idxR_near (g : Nat) (lb : Array Value) (p : R → Bool) (eg : ∀ args w, (callFunc g args).run Tryd.prog w = .ok (.enter g args) w) (ao : Option Addr) (len cap : Nat) (zs : List R) (w : World) (hlen : zs.length = len) (hl : len ≤ 9223372036854775807) (hz : zs = [] ∨ ∃ b off, ao = some ⟨b, off, none⟩ ∧ b < w.heap.size ∧ Cells w b off zs)
    (hp : ∀ W (r : R), Below w.heap.size w W → Calls Tryd.prog g (#[.agg #[.int .i64 r.1, .int .i64 r.2]] ++ lb) W fun e w' => e = .returned (.bool (p r)) ∧ Below w.heap.size w w') :
    Calls Tryd.prog 32 #[.slice ao len cap, .func (.func g) #[] lb] w fun e w' => ∃ i, e = .returned (.int .i64 i) ∧ ((i = -1 ∧ ∀ j, j < len → p (at' zs j) = false) ∨ ∃ k : Nat, i = (k : Int) ∧ k < len ∧ p (at' zs k) = true ∧ ∀ j, j < k → p (at' zs j) = false) ∧ Below w.heap.size w w' := by
  have HL : Hid (zs.length = len) := hlen
  have HZ : Hid (zs = [] ∨ ∃ b off, ao = some ⟨b, off, none⟩ ∧ b < w.heap.size ∧ Cells w b off zs) := hz
  have HP : Hid (∀ W (r : R), Below w.heap.size w W → Calls Tryd.prog g (#[.agg #[.int .i64 r.1, .int .i64 r.2]] ++ lb) W fun e w' => e = .returned (.bool (p r)) ∧ Below w.heap.size w w') := hp
  clear hlen hz hp
  go_enter Tryd.func32, Tryd.ntmps32
  go_wp2_with fail
  go_loopg [5, 8] len (fun gg _ s8 wr => ∃ kk : Nat, kk ≤ len ∧ len - kk ≤ gg ∧ s8 = .int .i64 kk ∧ Hid (Below w.heap.size w wr) ∧ Hid (∀ j, j < kk → p (at' zs j) = false))
  case atStart => exact ⟨0, Nat.zero_le _, by omega, rfl, Below.refl _ w, fun j hj => absurd hj (Nat.not_lt_zero _)⟩
  case round =>
    obtain ⟨kk, hkk, hg, rfl, BW, HA⟩ := hrel
    by_cases hlt : kk < len
    · have hltz : (kk : Int) < (len : Int) := by omega
      have hkl : kk < zs.length := by have := HL.out; omega
      obtain ⟨b, off, rfl, hb, hC⟩ : ∃ b off, ao = some ⟨b, off, none⟩ ∧ b < w.heap.size ∧ Cells w b off zs := by
        rcases HZ.out with h | h
        · rw [h] at hkl; simp at hkl
        · exact h
      obtain ⟨c0, c1⟩ := hC.below hb BW.out kk hkl
      have hcall := HP.out wr (at' zs kk) BW.out
      clear hC hkl
      generalize hy : at' zs kk = y at c0 c1 hcall
      have B : Hid (at' zs kk = y) := hy
      clear hy
      obtain ⟨lo, hi⟩ := y
      simp only at c0 c1 hcall
      cases hq : p (lo, hi) with
      | true =>
        rw [hq] at hcall
        go_wp2_with (go_at_fn g; refine hcall.mono ?_; rintro e w' ⟨rfl, hb'⟩)
        go_ret
        exact ⟨_, rfl, .inr ⟨kk, by go_num, hlt, by rw [B.out]; exact hq, HA.out⟩, hb'⟩
      | false =>
        rw [hq] at hcall
        go_wp2_with (go_at_fn g; refine hcall.mono ?_; rintro e w' ⟨rfl, hb'⟩)
        go_roundg (len - (kk + 1))
        case measure => omega
        case rel =>
          refine ⟨kk + 1, by omega, by omega, by go_num, hb', (show Hid _ from fun j hj => ?_)⟩
          by_cases e : j = kk
          · subst e
            rw [B.out]; exact hq
          · exact HA.out j (by omega)
    · have hltz : ¬ (kk : Int) < (len : Int) := by omega
      obtain rfl : kk = len := by omega
      go_wp2_with fail
      go_ret
      exact ⟨-1, rfl, .inl ⟨rfl, HA.out⟩, BW.out⟩
set_option maxRecDepth 100000 in
set_option maxHeartbeats 2000000 in
theorem idxS_near (g : Nat) (lb : Array Value) (p : S3 → Bool) (eg : ∀ args w, (callFunc g args).run Tryd.prog w = .ok (.enter g args) w) (ao : Option Addr) (len cap : Nat) (zs : List S3) (w : World) (hlen : zs.length = len) (hl : len ≤ 9223372036854775807) (hz : zs = [] ∨ ∃ b off, ao = some ⟨b, off, none⟩ ∧ b < w.heap.size ∧ Cells3 w b off zs)
    (hp : ∀ W (r : S3), Below w.heap.size w W → Calls Tryd.prog g (#[.agg #[.int .i64 r.1, .int .i64 r.2.1, .int .i64 r.2.2]] ++ lb) W fun e w' => e = .returned (.bool (p r)) ∧ Below w.heap.size w w') :
    Calls Tryd.prog 39 #[.slice ao len cap, .func (.func g) #[] lb] w fun e w' => ∃ i, e = .returned (.int .i64 i) ∧ ((i = -1 ∧ ∀ j, j < len → p (at3 zs j) = false) ∨ ∃ k : Nat, i = (k : Int) ∧ k < len ∧ p (at3 zs k) = true ∧ ∀ j, j < k → p (at3 zs j) = false) ∧ Below w.heap.size w w' := by
  have HL : Hid (zs.length = len) := hlen
  have HZ : Hid (zs = [] ∨ ∃ b off, ao = some ⟨b, off, none⟩ ∧ b < w.heap.size ∧ Cells3 w b off zs) := hz
  have HP : Hid (∀ W (r : S3), Below w.heap.size w W → Calls Tryd.prog g (#[.agg #[.int .i64 r.1, .int .i64 r.2.1, .int .i64 r.2.2]] ++ lb) W fun e w' => e = .returned (.bool (p r)) ∧ Below w.heap.size w w') := hp
  clear hlen hz hp
  go_enter Tryd.func39, Tryd.ntmps39
  go_wp2_with fail
  go_loopg [5, 8] len (fun gg _ s8 wr => ∃ kk : Nat, kk ≤ len ∧ len - kk ≤ gg ∧ s8 = .int .i64 kk ∧ Hid (Below w.heap.size w wr) ∧ Hid (∀ j, j < kk → p (at3 zs j) = false))
  case atStart => exact ⟨0, Nat.zero_le _, by omega, rfl, Below.refl _ w, fun j hj => absurd hj (Nat.not_lt_zero _)⟩
  case round =>
    obtain ⟨kk, hkk, hg, rfl, BW, HA⟩ := hrel
    by_cases hlt : kk < len
    · have hltz : (kk : Int) < (len : Int) := by omega
      have hkl : kk < zs.length := by have := HL.out; omega
      obtain ⟨b, off, rfl, hb, hC⟩ : ∃ b off, ao = some ⟨b, off, none⟩ ∧ b < w.heap.size ∧ Cells3 w b off zs := by
        rcases HZ.out with h | h
        · rw [h] at hkl; simp at hkl
        · exact h
      obtain ⟨c0, c1, c2⟩ := hC.below hb BW.out kk hkl
      have hcall := HP.out wr (at3 zs kk) BW.out
      clear hC hkl
      generalize hy : at3 zs kk = y at c0 c1 c2 hcall
      have B : Hid (at3 zs kk = y) := hy
      clear hy
      obtain ⟨a, b2, c⟩ := y
      simp only at c0 c1 c2 hcall
      cases hq : p (a, b2, c) with
      | true =>
        rw [hq] at hcall
        go_wp2_with (go_at_fn g; refine hcall.mono ?_; rintro e w' ⟨rfl, hb'⟩)
        go_ret
        exact ⟨_, rfl, .inr ⟨kk, by go_num, hlt, by rw [B.out]; exact hq, HA.out⟩, hb'⟩
      | false =>
        rw [hq] at hcall
        go_wp2_with (go_at_fn g; refine hcall.mono ?_; rintro e w' ⟨rfl, hb'⟩)
        go_roundg (len - (kk + 1))
        case measure => omega
        case rel =>
          refine ⟨kk + 1, by omega, by omega, by go_num, hb', (show Hid _ from fun j hj => ?_)⟩
          by_cases e : j = kk
          · subst e
            rw [B.out]; exact hq
          · exact HA.out j (by omega)
    · have hltz : ¬ (kk : Int) < (len : Int) := by omega
      obtain rfl : kk = len := by omega
      go_wp2_with fail
      go_ret
      exact ⟨-1, rfl, .inl ⟨rfl, HA.out⟩, BW.out⟩

theorem any_at {p : R → Bool} {zs : List R} : (zs.any p = true) ↔ ∃ j, j < zs.length ∧ p (at' zs j) = true := by
  rw [List.any_eq_true]
  constructor
  · rintro ⟨r, hr, h⟩
    obtain ⟨j, hj, e⟩ := List.getElem_of_mem hr
    exact ⟨j, hj, by simp [at', hj, e, h]⟩
  · rintro ⟨j, hj, h⟩
    exact ⟨_, at_mem hj, h⟩
set_option maxRecDepth 100000 in
set_option maxHeartbeats 2000000 in
theorem contR_calls (g : Nat) (lb : Array Value) (p : R → Bool) (eg : ∀ args w, (callFunc g args).run Tryd.prog w = .ok (.enter g args) w) (v : Value) (zs : List R) (w : World) (hR : Row w v zs)
    (hp : ∀ W (r : R), Below w.heap.size w W → Calls Tryd.prog g (#[.agg #[.int .i64 r.1, .int .i64 r.2]] ++ lb) W fun e w' => e = .returned (.bool (p r)) ∧ Below w.heap.size w w') :
    Calls Tryd.prog 24 #[v, .func (.func g) #[] lb] w fun e w' => e = .returned (.bool (zs.any p)) ∧ Below w.heap.size w w' := by
  obtain ⟨ao, c, rfl, hl, hn, hz⟩ := hR
  have hcon := idxR_near g lb p eg ao zs.length c zs w rfl hl hz hp
  have hcon' : Calls Tryd.prog 32 #[.slice ao zs.length c, .func (.func g) #[] lb] w fun e w' => ∃ i : Int, e = .returned (.int .i64 i) ∧ (decide (0 ≤ i) = zs.any p) ∧ Below w.heap.size w w' := by
    refine hcon.mono fun e w' ⟨i, he, hi, hb⟩ => ⟨i, he, ?_, hb⟩
    rcases hi with ⟨rfl, h⟩ | ⟨k, rfl, hk, h, _⟩
    · have : zs.any p = false := by
        cases e : zs.any p with
        | false => rfl
        | true => obtain ⟨j, hj, hh⟩ := any_at.1 e; rw [h j hj] at hh; cases hh
      rw [this]; rfl
    · rw [any_at.2 ⟨k, hk, h⟩]; simp
  clear hcon hp hz hn
  generalize zs.any p = res at hcon' ⊢
  generalize zs.length = len at *
  go_enter Tryd.func24, Tryd.ntmps24
  go_wp2_with (go_at_call 32; refine hcon'.mono ?_; rintro e w' ⟨i, rfl, hi, hb1⟩)
  go_ret
  exact ⟨by rw [← hi]; rfl, hb1⟩

set_option maxRecDepth 100000 in
set_option maxHeartbeats 2000000 in
theorem in_closure (lo hi n : Int) (B : Nat) (W : World) (hc : W.cell? ⟨B, 0, none⟩ = some (.int .i64 n)) :
    Calls Tryd.prog 29 #[.agg #[.int .i64 lo, .int .i64 hi], .pointer (some ⟨B, 0, none⟩)] W fun e w' => e = .returned (.bool (inB (lo, hi) n)) ∧ Below W.heap.size W w' := by
  have hB : B < W.heap.size := World.block_lt_of_cell? W _ hc
  have hc1 : (W.alloc (.cells #[.int .i64 lo, .int .i64 hi] 37)).cell? ⟨B, 0, none⟩ = some (.int .i64 n) := (Below.cell (((Below.refl W.heap.size W).alloc (Nat.le_refl _) _)) (by exact hB)).trans hc
  by_cases h1 : lo ≤ n
  · by_cases h2 : n ≤ hi
    · go_enter Tryd.func29, Tryd.ntmps29
      go_wp2
      go_ret
      exact ⟨by simp [inB, h1, h2], (Below.refl _ _).alloc (Nat.le_refl _) _⟩
    · go_enter Tryd.func29, Tryd.ntmps29
      go_wp2
      go_ret
      exact ⟨by rw [show inB (lo, hi) n = false by simp [inB]; omega]; rfl, (Below.refl _ _).alloc (Nat.le_refl _) _⟩
  · go_enter Tryd.func29, Tryd.ntmps29
    go_wp2
    go_ret
    exact ⟨by rw [show inB (lo, hi) n = false by simp [inB]; omega]; rfl, (Below.refl _ _).alloc (Nat.le_refl _) _⟩
set_option maxRecDepth 100000 in
set_option maxHeartbeats 2000000 in
theorem reach_closure (lo hi n : Int) (B : Nat) (W : World) (hc : W.cell? ⟨B, 0, none⟩ = some (.int .i64 n)) :
    Calls Tryd.prog 25 #[.agg #[.int .i64 lo, .int .i64 hi], .pointer (some ⟨B, 0, none⟩)] W fun e w' => e = .returned (.bool (decide (n ≤ hi))) ∧ Below W.heap.size W w' := by
  have hB : B < W.heap.size := World.block_lt_of_cell? W _ hc
  have hc1 : (W.alloc (.cells #[.int .i64 lo, .int .i64 hi] 37)).cell? ⟨B, 0, none⟩ = some (.int .i64 n) := (Below.cell (((Below.refl W.heap.size W).alloc (Nat.le_refl _) _)) (by exact hB)).trans hc
  go_enter Tryd.func25, Tryd.ntmps25
  go_wp2
  go_ret
  exact ⟨by simp, (Below.refl _ _).alloc (Nat.le_refl _) _⟩

set_option maxRecDepth 100000 in
set_option maxHeartbeats 2000000 in
/-- came: whether a packet's number is in acks. -/
theorem came_calls (n b c : Int) (P : Nat) (v : Value) (acks : List R) (w : World) (hP : w.cell? ⟨P, 0, none⟩ = some v) (hR : Row w v acks) :
    Calls Tryd.prog 28 #[.agg #[.int .i64 n, .int .i64 b, .int .i64 c], .pointer (some ⟨P, 0, none⟩)] w fun e w' => e = .returned (.bool (memB acks n)) ∧ Below w.heap.size w w' := by
  have hPl : P < w.heap.size := World.block_lt_of_cell? w _ hP
  have bel : Below w.heap.size w (w.alloc (.cells #[.int .i64 n, .int .i64 b, .int .i64 c] 30)) := (Below.refl _ _).alloc (Nat.le_refl _) _
  have hP' := (bel.cell (p := ⟨P, 0, none⟩) hPl).trans hP
  have hcon := contR_calls 29 #[.pointer (some ⟨w.heap.size, 0, none⟩)] (fun r => inB r n) (enters_of Tryd.func29 (by kernel_rfl) rfl) v acks (w.alloc (.cells #[.int .i64 n, .int .i64 b, .int .i64 c] 30)) (hR.below bel)
    (fun W r hb' => (in_closure r.1 r.2 n w.heap.size W ((hb'.cell (p := ⟨w.heap.size, 0, none⟩) (by simp)).trans (by simp))).mono fun _ _ ⟨he, h2⟩ => ⟨he, hb'.trans (h2.mono hb'.size)⟩)
  have he : (acks.any fun r => inB r n) = memB acks n := rfl
  rw [he] at hcon
  obtain ⟨ao, c, rfl, hl, hn, hz⟩ := hR
  clear he hz hn hP
  generalize memB acks n = res at hcon ⊢
  generalize acks.length = len at *
  go_enter Tryd.func28, Tryd.ntmps28
  go_wp2_with (go_at_call 24; refine hcon.mono ?_; rintro e w' ⟨rfl, hb1⟩)
  go_ret
  exact ⟨rfl, bel.trans (hb1.mono bel.size)⟩

set_option maxRecDepth 100000 in
set_option maxHeartbeats 2000000 in
/-- reach: whether a number, or any above it, is in acks. -/
theorem reach_calls (n : Int) (P : Nat) (v : Value) (acks : List R) (w : World) (hP : w.cell? ⟨P, 0, none⟩ = some v) (hR : Row w v acks) :
    Calls Tryd.prog 23 #[.int .i64 n, .pointer (some ⟨P, 0, none⟩)] w fun e w' => e = .returned (.bool (reachB acks n)) ∧ Below w.heap.size w w' := by
  have hPl : P < w.heap.size := World.block_lt_of_cell? w _ hP
  have bel : Below w.heap.size w (w.alloc (.cells #[.int .i64 n] 3)) := (Below.refl _ _).alloc (Nat.le_refl _) _
  have hP' := (bel.cell (p := ⟨P, 0, none⟩) hPl).trans hP
  have hcon := contR_calls 25 #[.pointer (some ⟨w.heap.size, 0, none⟩)] (fun r => decide (n ≤ r.2)) (enters_of Tryd.func25 (by kernel_rfl) rfl) v acks (w.alloc (.cells #[.int .i64 n] 3)) (hR.below bel)
    (fun W r hb' => (reach_closure r.1 r.2 n w.heap.size W ((hb'.cell (p := ⟨w.heap.size, 0, none⟩) (by simp)).trans (by simp))).mono fun _ _ ⟨he, h2⟩ => ⟨he, hb'.trans (h2.mono hb'.size)⟩)
  have he : (acks.any fun r => decide (n ≤ r.2)) = reachB acks n := rfl
  rw [he] at hcon
  obtain ⟨ao, c, rfl, hl, hn, hz⟩ := hR
  clear he hz hn hP
  generalize reachB acks n = res at hcon ⊢
  generalize acks.length = len at *
  go_enter Tryd.func23, Tryd.ntmps23
  go_wp2_with (go_at_call 24; refine hcon.mono ?_; rintro e w' ⟨rfl, hb1⟩)
  go_ret
  exact ⟨rfl, bel.trans (hb1.mono bel.size)⟩
end Go.Proofs.YtingcgadolcanaaDoor
