/- The table of counts as it lies in memory; a slice of integers; what isKind, isCount, slices.ContainsFunc over the closure of Check, and strings.Clone answer. -/
import Derived.Test.YtoabfilliiopmaaDoorFA
import Derived.Deep.LoopGhost
import Derived.Lib.UnsafeStr
import Derived.Lib.BufferWrite
import Derived.Laws.MakeOwn
namespace Go.Proofs.YtoabfilliiopmaaDoor
open Go.RowKit Go.Lib Go.Sort
set_option linter.unusedVariables false
set_option linter.unusedSimpArgs false


/-- The table of counts, as the program's text lays it. -/
structure Cnts (w : World) : Prop where
  c0 : w.cell? ⟨0, 0, none⟩ = some (.int .i64 0)
  c1 : w.cell? ⟨0, 1, none⟩ = some (.int .i64 0)
  c2 : w.cell? ⟨0, 2, none⟩ = some (.int .i64 0)
  c3 : w.cell? ⟨0, 3, none⟩ = some (.int .i64 1)
  c4 : w.cell? ⟨0, 4, none⟩ = some (.int .i64 1)
  c5 : w.cell? ⟨0, 5, none⟩ = some (.int .i64 1)
  c6 : w.cell? ⟨0, 6, none⟩ = some (.int .i64 1)
  c7 : w.cell? ⟨0, 7, none⟩ = some (.int .i64 2)
  c8 : w.cell? ⟨0, 8, none⟩ = some (.int .i64 1)
  pos : 0 < w.heap.size
theorem Cnts.below {w w' : World} (h : Cnts w) (hb : Below w.heap.size w w') : Cnts w' :=
  ⟨(hb.cell (p := ⟨0, 0, none⟩) h.pos).trans h.c0, (hb.cell (p := ⟨0, 1, none⟩) h.pos).trans h.c1, (hb.cell (p := ⟨0, 2, none⟩) h.pos).trans h.c2, (hb.cell (p := ⟨0, 3, none⟩) h.pos).trans h.c3, (hb.cell (p := ⟨0, 4, none⟩) h.pos).trans h.c4, (hb.cell (p := ⟨0, 5, none⟩) h.pos).trans h.c5, (hb.cell (p := ⟨0, 6, none⟩) h.pos).trans h.c6, (hb.cell (p := ⟨0, 7, none⟩) h.pos).trans h.c7, (hb.cell (p := ⟨0, 8, none⟩) h.pos).trans h.c8, Nat.lt_of_lt_of_le h.pos hb.size⟩

def ICells (w : World) (b off : Nat) (zs : List Int) : Prop := ∀ j, j < zs.length → w.cell? ⟨b, off + j, none⟩ = some (.int .i64 (zs[j]?.getD 0))
/-- The slice's value v holds the integers zs in the world w. -/
def IRow (w : World) (v : Value) (zs : List Int) : Prop := ∃ ao c, v = .slice ao zs.length c ∧ zs.length ≤ 9223372036854775807 ∧ zs.length ≤ c ∧ (zs = [] ∨ ∃ b off, ao = some ⟨b, off, none⟩ ∧ b < w.heap.size ∧ ICells w b off zs)
theorem ICells.below {w w' : World} {b off : Nat} {zs : List Int} (h : ICells w b off zs) (hb : b < w.heap.size) (bel : Below w.heap.size w w') : ICells w' b off zs := fun j hj =>
  (bel.cell (p := ⟨b, off + j, none⟩) hb).trans (h j hj)
theorem IRow.below {w w' : World} {v : Value} {zs : List Int} (h : IRow w v zs) (bel : Below w.heap.size w w') : IRow w' v zs := by
  obtain ⟨ao, c, rfl, hl, hn, h⟩ := h
  refine ⟨ao, c, rfl, hl, hn, ?_⟩
  rcases h with h | ⟨b, off, rfl, hb, hc⟩
  · exact .inl h
  · exact .inr ⟨b, off, rfl, Nat.lt_of_lt_of_le hb bel.size, hc.below hb bel⟩
theorem IRow.nil (w : World) : IRow w (.slice none 0 0) [] := ⟨none, 0, rfl, by simp, by simp, .inl rfl⟩
theorem irow_of_own {w : World} {base : Nat} {v : Value} {zs : List Int} (h : OwnI w base v zs) (hl : zs.length ≤ 1000000) : IRow w v zs := by
  by_cases h0 : zs = []
  · subst h0
    rcases h.2 with ⟨rfl, _⟩ | ⟨g, cap, cur, rfl, _⟩
    · exact IRow.nil w
    · exact ⟨_, cap, rfl, by simp, by simp, .inl rfl⟩
  · obtain ⟨g, cap, rfl, hc, _, hg⟩ := h.form h0
    exact ⟨_, cap, rfl, by omega, hc, .inr ⟨g, 0, rfl, hg, fun j hj => by rw [Nat.zero_add]; exact h.cell j hj⟩⟩
theorem str_ne {d : ByteArray} (h : d.size ≠ 0) : (d.toList == []) = false := by
  rw [ByteArray.toList_eq]
  obtain ⟨⟨l⟩⟩ := d
  cases l with
  | nil => exact absurd rfl h
  | cons b l => rfl
theorem str_nil {d : ByteArray} (h : d.size = 0) : d = { data := #[] } := by
  obtain ⟨⟨l⟩⟩ := d
  cases l with
  | nil => rfl
  | cons b l => exact absurd h (by show l.length + 1 ≠ 0; omega)

set_option maxRecDepth 100000 in
set_option maxHeartbeats 4000000 in
theorem isKind_calls (k : Int) (w : World) : Calls Tryd.prog 31 #[.int .i64 k] w fun e w' => e = .returned (.bool (kindB k)) ∧ w' = w := by
  by_cases h1 : 1 ≤ k
  · by_cases h2 : k ≤ 8
    · have e : kindB k = true := (kindB_iff k).2 ⟨h1, h2⟩
      rw [e]
      go_enter Tryd.func31, Tryd.ntmps31
      go_wp2
      go_ret
      exact ⟨by simp [h2], rfl⟩
    · have e : kindB k = false := by simp [kindB]; omega
      rw [e]
      go_enter Tryd.func31, Tryd.ntmps31
      go_wp2
      go_ret
      exact ⟨by simp [h2], rfl⟩
  · have e : kindB k = false := by simp [kindB]; omega
    rw [e]
    go_enter Tryd.func31, Tryd.ntmps31
    go_wp2
    go_ret
    exact ⟨rfl, rfl⟩

set_option maxRecDepth 100000 in
set_option maxHeartbeats 4000000 in
theorem isCount_ack (n : Nat) (w : World) (hl : n ≤ 9223372036854775807) : Calls Tryd.prog 48 #[.int .i64 2, .int .i64 (n : Int)] w fun e w' => e = .returned (.bool (cntB 2 n)) ∧ w' = w := by
  have e : Hid (cntB 2 n = decide (0 < n ∧ n % 2 = 0 ∧ n ≤ 24)) := by show _ = _; simp [cntB]
  have em : (n : Int).tmod 2 = (n : Int) % 2 := Int.tmod_eq_emod_of_nonneg (by omega)
  by_cases h0 : 0 < n
  · have g0 : (0 : Int) < (n : Int) := by omega
    by_cases h1 : n % 2 = 0
    · have g1 : (n : Int).tmod 2 = 0 := by rw [em]; omega
      clear em
      go_enter Tryd.func48, Tryd.ntmps48
      go_wp2
      go_ret
      exact ⟨by rw [e.out]; by_cases h2 : n ≤ 24 <;> simp [h0, h1, h2] <;> omega, rfl⟩
    · have g1 : ¬ (n : Int).tmod 2 = 0 := by rw [em]; omega
      clear em
      go_enter Tryd.func48, Tryd.ntmps48
      go_wp2
      go_ret
      exact ⟨by rw [e.out]; simp [h1], rfl⟩
  · have g0 : ¬ (0 : Int) < (n : Int) := by omega
    go_enter Tryd.func48, Tryd.ntmps48
    go_wp2
    go_ret
    exact ⟨by rw [e.out]; simp [h0], rfl⟩

set_option maxRecDepth 100000 in
set_option maxHeartbeats 4000000 in
theorem isCount_1 (n : Nat) (w : World) (hC : Cnts w) (hl : n ≤ 9223372036854775807) : Calls Tryd.prog 48 #[.int .i64 1, .int .i64 (n : Int)] w fun e w' => e = .returned (.bool (cntB 1 n)) ∧ w' = w := by
  have e : cntB 1 n = decide (n = 0) := by simp [cntB, cntK]
  have hc := hC.c1
  go_enter Tryd.func48, Tryd.ntmps48
  go_wp2
  go_ret
  exact ⟨by rw [e]; by_cases h : n = 0 <;> simp [h] <;> omega, rfl⟩

set_option maxRecDepth 100000 in
set_option maxHeartbeats 4000000 in
theorem isCount_3 (n : Nat) (w : World) (hC : Cnts w) (hl : n ≤ 9223372036854775807) : Calls Tryd.prog 48 #[.int .i64 3, .int .i64 (n : Int)] w fun e w' => e = .returned (.bool (cntB 3 n)) ∧ w' = w := by
  have e : cntB 3 n = decide (n = 1) := by simp [cntB, cntK]
  have hc := hC.c3
  go_enter Tryd.func48, Tryd.ntmps48
  go_wp2
  go_ret
  exact ⟨by rw [e]; by_cases h : n = 1 <;> simp [h] <;> omega, rfl⟩

set_option maxRecDepth 100000 in
set_option maxHeartbeats 4000000 in
theorem isCount_4 (n : Nat) (w : World) (hC : Cnts w) (hl : n ≤ 9223372036854775807) : Calls Tryd.prog 48 #[.int .i64 4, .int .i64 (n : Int)] w fun e w' => e = .returned (.bool (cntB 4 n)) ∧ w' = w := by
  have e : cntB 4 n = decide (n = 1) := by simp [cntB, cntK]
  have hc := hC.c4
  go_enter Tryd.func48, Tryd.ntmps48
  go_wp2
  go_ret
  exact ⟨by rw [e]; by_cases h : n = 1 <;> simp [h] <;> omega, rfl⟩

set_option maxRecDepth 100000 in
set_option maxHeartbeats 4000000 in
theorem isCount_5 (n : Nat) (w : World) (hC : Cnts w) (hl : n ≤ 9223372036854775807) : Calls Tryd.prog 48 #[.int .i64 5, .int .i64 (n : Int)] w fun e w' => e = .returned (.bool (cntB 5 n)) ∧ w' = w := by
  have e : cntB 5 n = decide (n = 1) := by simp [cntB, cntK]
  have hc := hC.c5
  go_enter Tryd.func48, Tryd.ntmps48
  go_wp2
  go_ret
  exact ⟨by rw [e]; by_cases h : n = 1 <;> simp [h] <;> omega, rfl⟩

set_option maxRecDepth 100000 in
set_option maxHeartbeats 4000000 in
theorem isCount_6 (n : Nat) (w : World) (hC : Cnts w) (hl : n ≤ 9223372036854775807) : Calls Tryd.prog 48 #[.int .i64 6, .int .i64 (n : Int)] w fun e w' => e = .returned (.bool (cntB 6 n)) ∧ w' = w := by
  have e : cntB 6 n = decide (n = 1) := by simp [cntB, cntK]
  have hc := hC.c6
  go_enter Tryd.func48, Tryd.ntmps48
  go_wp2
  go_ret
  exact ⟨by rw [e]; by_cases h : n = 1 <;> simp [h] <;> omega, rfl⟩

set_option maxRecDepth 100000 in
set_option maxHeartbeats 4000000 in
theorem isCount_7 (n : Nat) (w : World) (hC : Cnts w) (hl : n ≤ 9223372036854775807) : Calls Tryd.prog 48 #[.int .i64 7, .int .i64 (n : Int)] w fun e w' => e = .returned (.bool (cntB 7 n)) ∧ w' = w := by
  have e : cntB 7 n = decide (n = 2) := by simp [cntB, cntK]
  have hc := hC.c7
  go_enter Tryd.func48, Tryd.ntmps48
  go_wp2
  go_ret
  exact ⟨by rw [e]; by_cases h : n = 2 <;> simp [h] <;> omega, rfl⟩

set_option maxRecDepth 100000 in
set_option maxHeartbeats 4000000 in
theorem isCount_8 (n : Nat) (w : World) (hC : Cnts w) (hl : n ≤ 9223372036854775807) : Calls Tryd.prog 48 #[.int .i64 8, .int .i64 (n : Int)] w fun e w' => e = .returned (.bool (cntB 8 n)) ∧ w' = w := by
  have e : cntB 8 n = decide (n = 1) := by simp [cntB, cntK]
  have hc := hC.c8
  go_enter Tryd.func48, Tryd.ntmps48
  go_wp2
  go_ret
  exact ⟨by rw [e]; by_cases h : n = 1 <;> simp [h] <;> omega, rfl⟩

theorem isCount_calls (k : Int) (n : Nat) (w : World) (hC : Cnts w) (hk : kindB k = true) (hl : n ≤ 9223372036854775807) : Calls Tryd.prog 48 #[.int .i64 k, .int .i64 (n : Int)] w fun e w' => e = .returned (.bool (cntB k n)) ∧ w' = w := by
  have h := (kindB_iff k).1 hk
  have hs : k = 1 ∨ k = 2 ∨ k = 3 ∨ k = 4 ∨ k = 5 ∨ k = 6 ∨ k = 7 ∨ k = 8 := by omega
  rcases hs with rfl | rfl | rfl | rfl | rfl | rfl | rfl | rfl
  · exact isCount_1 n w hC hl
  · exact isCount_ack n w hl
  · exact isCount_3 n w hC hl
  · exact isCount_4 n w hC hl
  · exact isCount_5 n w hC hl
  · exact isCount_6 n w hC hl
  · exact isCount_7 n w hC hl
  · exact isCount_8 n w hC hl

set_option maxRecDepth 100000 in
set_option maxHeartbeats 4000000 in
theorem clos_calls (n : Int) (w : World) : Calls Tryd.prog 50 #[.int .i64 n] w fun e w' => e = .returned (.bool (!V.mayB n)) ∧ Below w.heap.size w w' := by
  by_cases h1 : n < 0
  · have e : V.mayB n = false := by simp [V.mayB]; omega
    rw [e]
    go_enter Tryd.func50, Tryd.ntmps50
    go_wp2
    go_ret
    exact ⟨rfl, Below.refl _ _⟩
  · by_cases h2 : 1073741823 < n
    · have e : V.mayB n = false := by simp [V.mayB]; omega
      rw [e]
      go_enter Tryd.func50, Tryd.ntmps50
      go_wp2
      go_ret
      exact ⟨by simp [h2], Below.refl _ _⟩
    · have e : V.mayB n = true := (mayB_iff n).2 (by omega)
      rw [e]
      go_enter Tryd.func50, Tryd.ntmps50
      go_wp2
      go_ret
      exact ⟨by simp [h2], Below.refl _ _⟩

set_option maxRecDepth 100000 in
set_option maxHeartbeats 4000000 in
theorem idx_near (ao : Option Addr) (len cap : Nat) (zs : List Int) (w : World) (hlen : zs.length = len) (hl : len ≤ 9223372036854775807) (hz : zs = [] ∨ ∃ b off, ao = some ⟨b, off, none⟩ ∧ b < w.heap.size ∧ ICells w b off zs) :
    Calls Tryd.prog 57 #[.slice ao len cap, .func (.func 50) #[] #[]] w fun e w' => ∃ i, e = .returned (.int .i64 i) ∧ ((i = -1 ∧ ∀ j, j < len → V.mayB (zs[j]?.getD 0) = true) ∨ ∃ k : Nat, i = (k : Int) ∧ k < len ∧ V.mayB (zs[k]?.getD 0) = false) ∧ Below w.heap.size w w' := by
  have HL : Hid (zs.length = len) := hlen
  have HZ : Hid (zs = [] ∨ ∃ b off, ao = some ⟨b, off, none⟩ ∧ b < w.heap.size ∧ ICells w b off zs) := hz
  clear hlen hz
  go_enter Tryd.func57, Tryd.ntmps57
  go_wp2_with fail
  go_loopg [5, 8] len (fun gg _ s8 wr => ∃ kk : Nat, kk ≤ len ∧ len - kk ≤ gg ∧ s8 = .int .i64 kk ∧ Hid (Below w.heap.size w wr) ∧ Hid (∀ j, j < kk → V.mayB (zs[j]?.getD 0) = true))
  case atStart => exact ⟨0, Nat.zero_le _, by omega, rfl, Below.refl _ w, fun j hj => absurd hj (Nat.not_lt_zero _)⟩
  case round =>
    obtain ⟨kk, hkk, hg, rfl, BW, HA⟩ := hrel
    by_cases hlt : kk < len
    · have hltz : (kk : Int) < (len : Int) := by omega
      have hkl : kk < zs.length := by have := HL.out; omega
      obtain ⟨b, off, rfl, hb, hC⟩ : ∃ b off, ao = some ⟨b, off, none⟩ ∧ b < w.heap.size ∧ ICells w b off zs := by
        rcases HZ.out with h | h
        · rw [h] at hkl; simp at hkl
        · exact h
      have c0 := hC.below hb BW.out kk hkl
      have hcall := clos_calls (zs[kk]?.getD 0) wr
      clear hC hkl
      generalize hy : zs[kk]?.getD 0 = y at c0 hcall
      have B : Hid (zs[kk]?.getD 0 = y) := hy
      clear hy
      cases hq : V.mayB y with
      | false =>
        rw [hq] at hcall
        simp only [Bool.not_false] at hcall
        go_wp2_with (go_at_call 50; refine hcall.mono ?_; rintro e w' ⟨rfl, hb'⟩)
        go_ret
        exact ⟨_, rfl, .inr ⟨kk, by go_num, hlt, by rw [B.out]; exact hq⟩, BW.out.trans (hb'.mono BW.out.size)⟩
      | true =>
        rw [hq] at hcall
        simp only [Bool.not_true] at hcall
        go_wp2_with (go_at_call 50; refine hcall.mono ?_; rintro e w' ⟨rfl, hb'⟩)
        go_roundg (len - (kk + 1))
        case measure => omega
        case rel =>
          refine ⟨kk + 1, by omega, by omega, by go_num, BW.out.trans (hb'.mono BW.out.size), (show Hid _ from fun j hj => ?_)⟩
          by_cases e : j = kk
          · subst e
            rw [B.out]; exact hq
          · exact HA.out j (by omega)
    · have hltz : ¬ (kk : Int) < (len : Int) := by omega
      obtain rfl : kk = len := by omega
      go_wp2_with fail
      go_ret
      exact ⟨-1, rfl, .inl ⟨rfl, HA.out⟩, BW.out⟩

theorem any_ints {zs : List Int} : anyB zs = true ↔ ∃ j, j < zs.length ∧ V.mayB (zs[j]?.getD 0) = false := by
  unfold anyB
  rw [List.any_eq_true]
  constructor
  · rintro ⟨r, hr, h⟩
    obtain ⟨j, hj, e⟩ := List.getElem_of_mem hr
    exact ⟨j, hj, by simp [hj, e]; simpa using h⟩
  · rintro ⟨j, hj, h⟩
    rw [List.getElem?_eq_getElem hj] at h
    exact ⟨_, List.getElem_mem hj, by simpa using h⟩
set_option maxRecDepth 100000 in
set_option maxHeartbeats 4000000 in
theorem cont_calls (v : Value) (zs : List Int) (w : World) (hR : IRow w v zs) :
    Calls Tryd.prog 49 #[v, .func (.func 50) #[] #[]] w fun e w' => e = .returned (.bool (anyB zs)) ∧ Below w.heap.size w w' := by
  obtain ⟨ao, c, rfl, hl, hn, hz⟩ := hR
  have hcon' : Calls Tryd.prog 57 #[.slice ao zs.length c, .func (.func 50) #[] #[]] w fun e w' => ∃ i : Int, e = .returned (.int .i64 i) ∧ (decide (0 ≤ i) = anyB zs) ∧ Below w.heap.size w w' := by
    refine (idx_near ao zs.length c zs w rfl hl hz).mono fun e w' ⟨i, he, hi, hb⟩ => ⟨i, he, ?_, hb⟩
    rcases hi with ⟨rfl, h⟩ | ⟨k, rfl, hk, h⟩
    · have : anyB zs = false := by
        cases e : anyB zs with
        | false => rfl
        | true => obtain ⟨j, hj, hh⟩ := any_ints.1 e; rw [h j hj] at hh; cases hh
      rw [this]; rfl
    · rw [any_ints.2 ⟨k, hk, h⟩]; simp
  clear hz hn
  generalize anyB zs = res at hcon' ⊢
  generalize zs.length = len at *
  go_enter Tryd.func49, Tryd.ntmps49
  go_wp2_with (go_at_call 57; refine hcon'.mono ?_; rintro e w' ⟨i, rfl, hi, hb1⟩)
  go_ret
  exact ⟨by rw [← hi]; rfl, hb1⟩

theorem infoB : (Tryd.prog.info? 5).map (fun i => (i.zero, i.size, i.bytes)) = some (some (.int .u8 0), 1, 1) := by kernel_rfl
set_option maxRecDepth 100000 in
set_option maxHeartbeats 4000000 in
theorem clonel_calls (s : ByteArray) (w : World) (hs : s.size ≤ 20) : Calls Tryd.prog 47 #[.string s] w fun e w' => e = .returned (.string s) ∧ Below w.heap.size w w' := by
  by_cases h0 : s.size = 0
  · obtain rfl := str_nil h0
    go_enter Tryd.func47, Tryd.ntmps47
    go_wp2
    go_ret
    exact ⟨rfl, Below.refl _ _⟩
  · obtain ⟨i0, hi, hz0, hz1, hz2⟩ := info_parts infoB
    have hinfo : (Tryd.prog.info? 5).map (·.size) = some 1 := by rw [hi]; simp [hz1]
    have hco : Tryd.prog.cellsOf 5 = 1 := by simp [Program.cellsOf, hi, hz1]
    -- the row that make lays, by a name of its own
    obtain ⟨M, hM⟩ : ∃ M, M = madeCells (Value.int .u8 0).cells (((s.size : Nat) : Int).toNat * i0.size) := ⟨_, rfl⟩
    have hMs : M.size = s.size := by rw [hM, size_madeCells, hz1]; simp
    have hmk : ∀ W : World, (Instr.makeSlice 86 (.int .i64 (s.size : Int)) (.int .i64 (s.size : Int))).run Tryd.prog W = .ok (.slice (some ⟨W.heap.size, 0, none⟩) s.size s.size) (W.alloc (.cells M 5)) := fun W => by
      have h := run_make (P := Tryd.prog) W 86 5 i0 (.int .u8 0) Tryd.underlying86 hi hz0 .i64 .i64 (s.size : Int) (s.size : Int) (by omega) (by omega) (by rw [hz2]; omega) (by omega)
      rw [← hM] at h
      simpa using h
    clear hM
    have hcp := Lib.run_copy_row_string (P := Tryd.prog) (w.alloc (.cells M 5)) 86 9 3 5 w.heap.size 0 s.size s.size s M 5 Tryd.underlying86 hinfo (heap_alloc_new w _) (Nat.le_refl _) (by omega)
    obtain ⟨Y, hY⟩ : ∃ Y, Y = (M.toList.take 0 ++ Lib.byteCells s.data.toList ++ M.toList.drop (0 + s.size)).toArray := ⟨_, rfl⟩
    rw [← hY] at hcp
    have hYl : Y.toList = Lib.byteCells s.data.toList := by
      rw [hY, List.toList_toArray, List.take_zero, List.nil_append, List.drop_of_length_le (by rw [Array.length_toList]; omega), List.append_nil]
    have hgY : ((w.alloc (.cells M 5)).setRow w.heap.size Y).heap[w.heap.size]? = some (.cells Y 5 (0, 0)) := setRow_heap _ _ M _ 5 (0, 0) (heap_alloc_new w _)
    have hne : s.data.toList ≠ [] := fun e => h0 (by rw [Lib.size_eq, e]; rfl)
    have hYs : Y.size = s.size := by rw [← Array.length_toList, hYl, Lib.byteCells_length, ← Lib.size_eq]
    have hUS := Lib.run_unsafeString_row (P := Tryd.prog) ((w.alloc (.cells M 5)).setRow w.heap.size Y) 116 3 9 5 Tryd.underlying116 hco w.heap.size Y.size (by unfold World.shape?; rw [hgY]) s.data.toList hne (by rw [← Lib.size_eq]; omega) (by rw [← Lib.size_eq]; omega)
      (fun j x hx => Lib.cells_of_row hgY Y.size j _ (by rw [List.take_of_length_le (by rw [Array.length_toList]; exact Nat.le_refl _), hYl]; simp [Lib.byteCells, hx]))
    rw [← Lib.size_eq] at hUS
    clear hY
    go_enter Tryd.func47, Tryd.ntmps47
    go_wp2
    go_ret
    have hb1 : Below w.heap.size w (w.alloc (.cells M 5)) := (Below.refl _ w).alloc (Nat.le_refl _) _
    have hb2 : Below w.heap.size (w.alloc (.cells M 5)) ((w.alloc (.cells M 5)).setRow w.heap.size Y) := ⟨rfl, rfl, rfl, by simp, fun k hk => setRow_other _ _ _ _ (by omega)⟩
    exact ⟨rfl, Lib.below_freeze (hb1.trans hb2) (p := ⟨w.heap.size, 0, none⟩) (Nat.le_refl _) _⟩
set_option maxRecDepth 100000 in
set_option maxHeartbeats 4000000 in
theorem clone_calls (s : ByteArray) (w : World) (hs : s.size ≤ 20) : Calls Tryd.prog 41 #[.string s] w fun e w' => e = .returned (.string s) ∧ Below w.heap.size w w' := by
  have HC := clonel_calls s w hs
  clear hs
  go_enter Tryd.func41, Tryd.ntmps41
  go_wp2_with (go_at_call 47; refine HC.mono ?_; rintro e w' ⟨rfl, hb1⟩)
  go_ret
  exact ⟨rfl, hb1⟩
end Go.Proofs.YtoabfilliiopmaaDoor
