/- What the document's own May, Long, Bytes and Get answer. -/
import Derived.Test.YtjpdembofiadbaaDoorVI
namespace Go.Proofs.YtjpdembofiadbaaDoor.V
open Go.RowKit Go.Lib
set_option linter.unusedVariables false
set_option linter.unusedSimpArgs false

theorem may_ref (n : Int) (w : World) : Calls Tryd.prog 12 #[.int .i64 n] w fun e w' => e = .returned (.bool (mayB n)) ∧ w = w' := by
  cases h : mayB n with
  | true =>
    obtain ⟨h0, h1⟩ := mayB_yes h
    have h1' : n ≤ 1073741823 := by omega
    go_enter Tryd.func12, Tryd.ntmps12
    go_wp2
    go_ret
    exact ⟨rfl, rfl⟩
  | false =>
    rcases mayB_no h with h0 | h0
    · go_enter Tryd.func12, Tryd.ntmps12
      go_wp2
      go_ret
      exact ⟨rfl, rfl⟩
    · have h1 : ¬ n ≤ 1073741823 := by omega
      have h2 : 0 ≤ n := by omega
      go_enter Tryd.func12, Tryd.ntmps12
      go_wp2
      go_ret
      exact ⟨congrArg (fun b => Ending.returned (.bool b)) (by simp <;> omega), rfl⟩

theorem long_ref (n : Int) (w : World) : Calls Tryd.prog 40 #[.int .i64 n] w fun e w' => e = .returned (.int .i64 (lng n)) ∧ w = w' := by
  by_cases a : n < 64
  · have e : lng n = 1 := by simp [lng, a]
    rw [e]
    go_enter Tryd.func40, Tryd.ntmps40
    go_wp2
    go_ret
    exact ⟨rfl, rfl⟩
  · by_cases b : n < 16384
    · have e : lng n = 2 := by simp [lng, a, b]
      rw [e]
      go_enter Tryd.func40, Tryd.ntmps40
      go_wp2
      go_ret
      exact ⟨rfl, rfl⟩
    · have e : lng n = 4 := by simp [lng, a, b]
      rw [e]
      go_enter Tryd.func40, Tryd.ntmps40
      go_wp2
      go_ret
      exact ⟨rfl, rfl⟩

theorem conv_new (xs : List Int) (w : World) (cs : Array Value) (hcs : cs = (xs.map (Value.int .u8)).toArray) :
    (convert 42 9 (.slice (some ⟨w.heap.size, 0, none⟩) xs.length xs.length)).run Tryd.prog (w.alloc (.cells cs 5)) = .ok (.string (strOfNums xs)) (w.alloc (.cells cs 5)) := by
  subst hcs
  refine run_convert_bytes_arg (w.alloc (.cells (xs.map (Value.int .u8)).toArray 5)) 42 5 Tryd.underlying42 Tryd.underlying5 w.heap.size 0 xs.length xs.length xs rfl (fun i hi => ?_) 9 Tryd.underlying9
  have h : Byt (w.alloc (.cells (xs.map (Value.int .u8)).toArray 5)) w.heap.size xs := World.alloc_heap_new w _
  rw [Nat.zero_add, h.cell i hi]
  simp [List.getD]

set_option maxHeartbeats 1000000 in
theorem bytes_ref (n : Int) (w : World) (h : mayB n = true) : Calls Tryd.prog 29 #[.int .i64 n] w fun e w' => e = .returned (.string (strOfNums (nums n))) ∧ Below w.heap.size w w' := by
  obtain ⟨h0, h1⟩ := mayB_yes h
  by_cases a : n < 64
  · have e : nums n = [n] := by simp [nums, a]
    have e1 : lng n = 1 := by simp [lng, a]
    have hc := conv_new [n] w #[.int .u8 n] rfl
    rw [e]
    simp only [List.length_cons, List.length_nil, Nat.reduceAdd] at hc
    go_enter Tryd.func29, Tryd.ntmps29
    go_wp2_with fail
    refine (long_ref n _).mono ?_
    rintro e w1 ⟨rfl, rfl⟩
    rw [e1]
    clear e1
    go_wp2_with fail
    go_ret
    exact ⟨rfl, (Below.refl _ _).alloc (Nat.le_refl _) _⟩
  · by_cases b : n < 16384
    · have e : nums n = [64 + n / 256, n % 256] := by simp [nums, a, b]
      have e1 : lng n = 2 := by simp [lng, a, b]
      have hc := conv_new [64 + n / 256, n % 256] w #[.int .u8 (64 + n / 256), .int .u8 (n % 256)] rfl
      rw [e]
      simp only [List.length_cons, List.length_nil, Nat.reduceAdd] at hc
      go_enter Tryd.func29, Tryd.ntmps29
      go_wp2_with fail
      refine (long_ref n _).mono ?_
      rintro e w1 ⟨rfl, rfl⟩
      rw [e1]
      clear e1
      go_wp2_with fail
      go_ret
      exact ⟨rfl, (Below.refl _ _).alloc (Nat.le_refl _) _⟩
    · have e : nums n = [128 + n / 16777216, n / 65536 % 256, n / 256 % 256, n % 256] := by simp [nums, a, b]
      have e1 : lng n = 4 := by simp [lng, a, b]
      have hc := conv_new [128 + n / 16777216, n / 65536 % 256, n / 256 % 256, n % 256] w #[.int .u8 (128 + n / 16777216), .int .u8 (n / 65536 % 256), .int .u8 (n / 256 % 256), .int .u8 (n % 256)] rfl
      rw [e]
      simp only [List.length_cons, List.length_nil, Nat.reduceAdd] at hc
      go_enter Tryd.func29, Tryd.ntmps29
      go_wp2_with fail
      refine (long_ref n _).mono ?_
      rintro e w1 ⟨rfl, rfl⟩
      rw [e1]
      clear e1
      go_wp2_with fail
      go_ret
      exact ⟨rfl, (Below.refl _ _).alloc (Nat.le_refl _) _⟩

def getRV : Option (Int × Int) → Value
  | none => .tuple #[.int .i64 0, .int .i64 0, .bool false]
  | some x => .tuple #[.int .i64 x.1, .int .i64 x.2, .bool true]

set_option maxRecDepth 100000 in
set_option maxHeartbeats 1000000 in
theorem rget_b3 (s : ByteArray) (w : World) (hl : s.size ≤ maxLen) (h : 0 < s.size) (hb : (192 : Int) ≤ (s[0].toNat : Int)) :
    Calls Tryd.prog 36 #[.string s] w fun e w' => e = .returned (.tuple #[.int .i64 0, .int .i64 0, .bool false]) ∧ Below w.heap.size w w' := by
  unfold maxLen at hl
  have hne : (s.toList == []) = false := by
    rw [ByteArray.toList_eq]
    obtain ⟨⟨l⟩⟩ := s
    cases l with
    | nil => exact absurd h (by decide)
    | cons b r => rfl
  have hnb : s.toList.isEmpty = false := by
    rw [ByteArray.toList_eq]
    obtain ⟨⟨l⟩⟩ := s
    cases l with
    | nil => exact absurd h (by decide)
    | cons b r => rfl
  go_enter Tryd.func36, Tryd.ntmps36
  go_wp2_with fail
  go_ret3
  exact ⟨rfl, Below.refl _ _⟩

set_option maxRecDepth 100000 in
set_option maxHeartbeats 1000000 in
theorem rget_b1short (s : ByteArray) (w : World) (hl : s.size ≤ maxLen) (h : 0 < s.size) (h2 : s.size < 2) (hb0 : (64 : Int) ≤ (s[0].toNat : Int)) (hb1 : (s[0].toNat : Int) < 128) :
    Calls Tryd.prog 36 #[.string s] w fun e w' => e = .returned (.tuple #[.int .i64 0, .int .i64 0, .bool false]) ∧ Below w.heap.size w w' := by
  unfold maxLen at hl
  have hne : (s.toList == []) = false := by
    rw [ByteArray.toList_eq]
    obtain ⟨⟨l⟩⟩ := s
    cases l with
    | nil => exact absurd h (by decide)
    | cons b r => rfl
  have hnb : s.toList.isEmpty = false := by
    rw [ByteArray.toList_eq]
    obtain ⟨⟨l⟩⟩ := s
    cases l with
    | nil => exact absurd h (by decide)
    | cons b r => rfl
  have hs : (s.size : Int) < 2 := by omega
  go_enter Tryd.func36, Tryd.ntmps36
  go_wp2_with fail
  go_ret3
  exact ⟨rfl, Below.refl _ _⟩

set_option maxRecDepth 100000 in
set_option maxHeartbeats 1000000 in
theorem rget_b2short (s : ByteArray) (w : World) (hl : s.size ≤ maxLen) (h : 0 < s.size) (h4 : s.size < 4) (hb0 : (128 : Int) ≤ (s[0].toNat : Int)) (hb1 : (s[0].toNat : Int) < 192) :
    Calls Tryd.prog 36 #[.string s] w fun e w' => e = .returned (.tuple #[.int .i64 0, .int .i64 0, .bool false]) ∧ Below w.heap.size w w' := by
  unfold maxLen at hl
  have hne : (s.toList == []) = false := by
    rw [ByteArray.toList_eq]
    obtain ⟨⟨l⟩⟩ := s
    cases l with
    | nil => exact absurd h (by decide)
    | cons b r => rfl
  have hnb : s.toList.isEmpty = false := by
    rw [ByteArray.toList_eq]
    obtain ⟨⟨l⟩⟩ := s
    cases l with
    | nil => exact absurd h (by decide)
    | cons b r => rfl
  have hs : (s.size : Int) < 4 := by omega
  go_enter Tryd.func36, Tryd.ntmps36
  go_wp2_with fail
  go_ret3
  exact ⟨rfl, Below.refl _ _⟩

set_option maxRecDepth 100000 in
set_option maxHeartbeats 1000000 in
theorem rget_0 (s : ByteArray) (w : World) (hl : s.size ≤ maxLen) (h : 0 < s.size) (hb1 : (s[0].toNat : Int) < 64) :
    Calls Tryd.prog 36 #[.string s] w fun e w' => e = .returned (.tuple #[.int .i64 ((s[0].toNat : Int) % (64 : Int)), .int .i64 1, .bool true]) ∧ Below w.heap.size w w' := by
  unfold maxLen at hl
  have hne : (s.toList == []) = false := by
    rw [ByteArray.toList_eq]
    obtain ⟨⟨l⟩⟩ := s
    cases l with
    | nil => exact absurd h (by decide)
    | cons b r => rfl
  have hnb : s.toList.isEmpty = false := by
    rw [ByteArray.toList_eq]
    obtain ⟨⟨l⟩⟩ := s
    cases l with
    | nil => exact absurd h (by decide)
    | cons b r => rfl
  have hs : ¬ (s.size : Int) < 1 := by omega
  go_enter Tryd.func36, Tryd.ntmps36
  go_wp2_with fail
  refine wp_loop_rounds 1 ?_
  rw [rounds_succ]; go_wp2_with fail
  refine (long_ref _ _).mono ?_
  rintro e w1 ⟨rfl, rfl⟩
  have hlg : (lng ((s[0].toNat : Int) % (64 : Int)) != 1) = false := by
    have a : (s[0].toNat : Int) % (64 : Int) < 64 := by omega
    simp [lng, a]
  go_wp2_with fail
  go_ret3
  exact ⟨rfl, Below.refl _ _⟩

set_option maxRecDepth 100000 in
set_option maxHeartbeats 1000000 in
theorem rget_1 (s : ByteArray) (w : World) (hl : s.size ≤ maxLen) (h1 : 1 < s.size) (hb0 : (64 : Int) ≤ (s[0].toNat : Int)) (hb1 : (s[0].toNat : Int) < 128) (hn : (64 : Int) ≤ ((256 : Int) * ((s[0].toNat : Int) % (64 : Int)) + (s[1].toNat : Int))) :
    Calls Tryd.prog 36 #[.string s] w fun e w' => e = .returned (.tuple #[.int .i64 ((256 : Int) * ((s[0].toNat : Int) % (64 : Int)) + (s[1].toNat : Int)), .int .i64 2, .bool true]) ∧ Below w.heap.size w w' := by
  unfold maxLen at hl
  have h : 0 < s.size := by omega
  have hne : (s.toList == []) = false := by
    rw [ByteArray.toList_eq]
    obtain ⟨⟨l⟩⟩ := s
    cases l with
    | nil => exact absurd h (by decide)
    | cons b r => rfl
  have hnb : s.toList.isEmpty = false := by
    rw [ByteArray.toList_eq]
    obtain ⟨⟨l⟩⟩ := s
    cases l with
    | nil => exact absurd h (by decide)
    | cons b r => rfl
  have v1 : (s[1].toNat : Int) < 256 := by have := s[1].toNat_lt; omega
  have hs : ¬ (s.size : Int) < 2 := by omega
  go_enter Tryd.func36, Tryd.ntmps36
  go_wp2_with fail
  refine wp_loop_rounds 2 ?_
  rw [rounds_succ]; go_wp2_with fail
  rw [rounds_succ]; go_wp2_with fail
  refine (long_ref _ _).mono ?_
  rintro e w1 ⟨rfl, rfl⟩
  have hlg : (lng ((256 : Int) * ((s[0].toNat : Int) % (64 : Int)) + (s[1].toNat : Int)) != 2) = false := by
    have a : ¬ ((256 : Int) * ((s[0].toNat : Int) % (64 : Int)) + (s[1].toNat : Int)) < 64 := by omega
    have b : ((256 : Int) * ((s[0].toNat : Int) % (64 : Int)) + (s[1].toNat : Int)) < 16384 := by omega
    simp [lng, a, b]
  go_wp2_with fail
  go_ret3
  exact ⟨rfl, Below.refl _ _⟩

set_option maxRecDepth 100000 in
set_option maxHeartbeats 1000000 in
theorem rget_1no (s : ByteArray) (w : World) (hl : s.size ≤ maxLen) (h1 : 1 < s.size) (hb0 : (64 : Int) ≤ (s[0].toNat : Int)) (hb1 : (s[0].toNat : Int) < 128) (hn : ((256 : Int) * ((s[0].toNat : Int) % (64 : Int)) + (s[1].toNat : Int)) < 64) :
    Calls Tryd.prog 36 #[.string s] w fun e w' => e = .returned (.tuple #[.int .i64 0, .int .i64 0, .bool false]) ∧ Below w.heap.size w w' := by
  unfold maxLen at hl
  have h : 0 < s.size := by omega
  have hne : (s.toList == []) = false := by
    rw [ByteArray.toList_eq]
    obtain ⟨⟨l⟩⟩ := s
    cases l with
    | nil => exact absurd h (by decide)
    | cons b r => rfl
  have hnb : s.toList.isEmpty = false := by
    rw [ByteArray.toList_eq]
    obtain ⟨⟨l⟩⟩ := s
    cases l with
    | nil => exact absurd h (by decide)
    | cons b r => rfl
  have v1 : (s[1].toNat : Int) < 256 := by have := s[1].toNat_lt; omega
  have hs : ¬ (s.size : Int) < 2 := by omega
  go_enter Tryd.func36, Tryd.ntmps36
  go_wp2_with fail
  refine wp_loop_rounds 2 ?_
  rw [rounds_succ]; go_wp2_with fail
  rw [rounds_succ]; go_wp2_with fail
  refine (long_ref _ _).mono ?_
  rintro e w1 ⟨rfl, rfl⟩
  have hlg : (lng ((256 : Int) * ((s[0].toNat : Int) % (64 : Int)) + (s[1].toNat : Int)) != 2) = true := by simp [lng, hn]
  go_wp2_with fail
  go_ret3
  exact ⟨rfl, Below.refl _ _⟩

set_option maxRecDepth 100000 in
set_option maxHeartbeats 1000000 in
theorem rget_2 (s : ByteArray) (w : World) (hl : s.size ≤ maxLen) (h3 : 3 < s.size) (hb0 : (128 : Int) ≤ (s[0].toNat : Int)) (hb1 : (s[0].toNat : Int) < 192) (hn : (16384 : Int) ≤ ((256 : Int) * ((256 : Int) * ((256 : Int) * ((s[0].toNat : Int) % (64 : Int)) + (s[1].toNat : Int)) + (s[2].toNat : Int)) + (s[3].toNat : Int))) :
    Calls Tryd.prog 36 #[.string s] w fun e w' => e = .returned (.tuple #[.int .i64 ((256 : Int) * ((256 : Int) * ((256 : Int) * ((s[0].toNat : Int) % (64 : Int)) + (s[1].toNat : Int)) + (s[2].toNat : Int)) + (s[3].toNat : Int)), .int .i64 4, .bool true]) ∧ Below w.heap.size w w' := by
  unfold maxLen at hl
  have h : 0 < s.size := by omega
  have hne : (s.toList == []) = false := by
    rw [ByteArray.toList_eq]
    obtain ⟨⟨l⟩⟩ := s
    cases l with
    | nil => exact absurd h (by decide)
    | cons b r => rfl
  have hnb : s.toList.isEmpty = false := by
    rw [ByteArray.toList_eq]
    obtain ⟨⟨l⟩⟩ := s
    cases l with
    | nil => exact absurd h (by decide)
    | cons b r => rfl
  have v1 : (s[1].toNat : Int) < 256 := by have := s[1].toNat_lt; omega
  have v2 : (s[2].toNat : Int) < 256 := by have := s[2].toNat_lt; omega
  have v3 : (s[3].toNat : Int) < 256 := by have := s[3].toNat_lt; omega
  have hs : ¬ (s.size : Int) < 4 := by omega
  have HN : Hid ((lng ((256 : Int) * ((256 : Int) * ((256 : Int) * ((s[0].toNat : Int) % (64 : Int)) + (s[1].toNat : Int)) + (s[2].toNat : Int)) + (s[3].toNat : Int)) != 4) = false) := by
    show (lng ((256 : Int) * ((256 : Int) * ((256 : Int) * ((s[0].toNat : Int) % (64 : Int)) + (s[1].toNat : Int)) + (s[2].toNat : Int)) + (s[3].toNat : Int)) != 4) = false
    have a : ¬ ((256 : Int) * ((256 : Int) * ((256 : Int) * ((s[0].toNat : Int) % (64 : Int)) + (s[1].toNat : Int)) + (s[2].toNat : Int)) + (s[3].toNat : Int)) < 64 := by omega
    have b : ¬ ((256 : Int) * ((256 : Int) * ((256 : Int) * ((s[0].toNat : Int) % (64 : Int)) + (s[1].toNat : Int)) + (s[2].toNat : Int)) + (s[3].toNat : Int)) < 16384 := by omega
    simp [lng, a, b]
  clear hn
  go_enter Tryd.func36, Tryd.ntmps36
  go_wp2_with fail
  refine wp_loop_rounds 4 ?_
  rw [rounds_succ]; go_wp2_with fail
  rw [rounds_succ]; go_wp2_with fail
  rw [rounds_succ]; go_wp2_with fail
  rw [rounds_succ]; go_wp2_with fail
  refine (long_ref _ _).mono ?_
  rintro e w1 ⟨rfl, rfl⟩
  have hlg : (lng ((256 : Int) * ((256 : Int) * ((256 : Int) * ((s[0].toNat : Int) % (64 : Int)) + (s[1].toNat : Int)) + (s[2].toNat : Int)) + (s[3].toNat : Int)) != 4) = false := HN.out
  go_wp2_with fail
  go_ret3
  exact ⟨rfl, Below.refl _ _⟩

set_option maxRecDepth 100000 in
set_option maxHeartbeats 1000000 in
theorem rget_2no (s : ByteArray) (w : World) (hl : s.size ≤ maxLen) (h3 : 3 < s.size) (hb0 : (128 : Int) ≤ (s[0].toNat : Int)) (hb1 : (s[0].toNat : Int) < 192) (hn : ((256 : Int) * ((256 : Int) * ((256 : Int) * ((s[0].toNat : Int) % (64 : Int)) + (s[1].toNat : Int)) + (s[2].toNat : Int)) + (s[3].toNat : Int)) < 16384) :
    Calls Tryd.prog 36 #[.string s] w fun e w' => e = .returned (.tuple #[.int .i64 0, .int .i64 0, .bool false]) ∧ Below w.heap.size w w' := by
  unfold maxLen at hl
  have h : 0 < s.size := by omega
  have hne : (s.toList == []) = false := by
    rw [ByteArray.toList_eq]
    obtain ⟨⟨l⟩⟩ := s
    cases l with
    | nil => exact absurd h (by decide)
    | cons b r => rfl
  have hnb : s.toList.isEmpty = false := by
    rw [ByteArray.toList_eq]
    obtain ⟨⟨l⟩⟩ := s
    cases l with
    | nil => exact absurd h (by decide)
    | cons b r => rfl
  have v1 : (s[1].toNat : Int) < 256 := by have := s[1].toNat_lt; omega
  have v2 : (s[2].toNat : Int) < 256 := by have := s[2].toNat_lt; omega
  have v3 : (s[3].toNat : Int) < 256 := by have := s[3].toNat_lt; omega
  have hs : ¬ (s.size : Int) < 4 := by omega
  have HN : Hid ((lng ((256 : Int) * ((256 : Int) * ((256 : Int) * ((s[0].toNat : Int) % (64 : Int)) + (s[1].toNat : Int)) + (s[2].toNat : Int)) + (s[3].toNat : Int)) != 4) = true) := by
    show (lng ((256 : Int) * ((256 : Int) * ((256 : Int) * ((s[0].toNat : Int) % (64 : Int)) + (s[1].toNat : Int)) + (s[2].toNat : Int)) + (s[3].toNat : Int)) != 4) = true
    by_cases a : ((256 : Int) * ((256 : Int) * ((256 : Int) * ((s[0].toNat : Int) % (64 : Int)) + (s[1].toNat : Int)) + (s[2].toNat : Int)) + (s[3].toNat : Int)) < 64
    · simp [lng, a]
    · simp [lng, a, hn]
  clear hn
  go_enter Tryd.func36, Tryd.ntmps36
  go_wp2_with fail
  refine wp_loop_rounds 4 ?_
  rw [rounds_succ]; go_wp2_with fail
  rw [rounds_succ]; go_wp2_with fail
  rw [rounds_succ]; go_wp2_with fail
  rw [rounds_succ]; go_wp2_with fail
  refine (long_ref _ _).mono ?_
  rintro e w1 ⟨rfl, rfl⟩
  have hlg : (lng ((256 : Int) * ((256 : Int) * ((256 : Int) * ((s[0].toNat : Int) % (64 : Int)) + (s[1].toNat : Int)) + (s[2].toNat : Int)) + (s[3].toNat : Int)) != 4) = true := HN.out
  go_wp2_with fail
  go_ret3
  exact ⟨rfl, Below.refl _ _⟩

theorem rget_empty (s : ByteArray) (w : World) (h : s = { data := #[] }) :
    Calls Tryd.prog 36 #[.string s] w fun e w' => e = .returned (.tuple #[.int .i64 0, .int .i64 0, .bool false]) ∧ Below w.heap.size w w' := by
  subst h
  go_enter Tryd.func36, Tryd.ntmps36
  go_wp2_with fail
  go_ret3
  exact ⟨rfl, Below.refl _ _⟩

end Go.Proofs.YtjpdembofiadbaaDoor.V
