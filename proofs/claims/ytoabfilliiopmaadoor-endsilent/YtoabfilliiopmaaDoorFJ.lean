/- What takeNums and Parse answer. -/
import Derived.Test.YtoabfilliiopmaaDoorFI
import Derived.Deep.Cut
namespace Go.Proofs.YtoabfilliiopmaaDoor
open Go.RowKit Go.Lib Go.Sort
set_option linter.unusedVariables false
set_option linter.unusedSimpArgs false


abbrev NumsPost (k : Int) (s : ByteArray) (w : World) (e : Ending) (w' : World) : Prop :=
  ((rdNums k (V.ints s) = none ∧ e = noNums) ∨ (∃ ns c v, rdNums k (V.ints s) = some (ns, c) ∧ e = .returned (.tuple #[v, .string (s.extract c s.size), .nilIface]) ∧ OwnI w' w.heap.size v ns)) ∧ Below w.heap.size w w'

set_option maxRecDepth 100000 in
set_option maxHeartbeats 4000000 in
theorem nums_ack (s : ByteArray) (w : World) (hF : V.Forms w) (hl : s.size ≤ maxLen) : Calls Tryd.prog 32 #[.int .i64 2, .string s] w (NumsPost 2 s w) := by
  have HE : Hid (rdNums 2 (V.ints s) = (rdAck (V.ints s)).map fun x => (unr x.1, x.2)) := by show _ = _; simp [rdNums]
  have HA : Calls Tryd.prog 38 #[.string s] w fun e w' => ∃ (v : Value) (r : ByteArray) (er : Value), e = .returned (.tuple #[v, .string r, er]) ∧ Hid (NumsPost 2 s w (.returned (.tuple #[v, .string r, er])) w') := by
    refine (takeAck_calls s w hF hl).mono ?_
    rintro e w' ⟨⟨h1, rfl⟩ | ⟨zs, c, v, h1, rfl, ho⟩, hb⟩
    · exact ⟨_, _, _, rfl, .inl ⟨by rw [HE.out, h1]; rfl, rfl⟩, hb⟩
    · exact ⟨_, _, _, rfl, .inr ⟨unr zs, c, v, by rw [HE.out, h1]; rfl, rfl, ho⟩, hb⟩
  clear HE hF hl
  go_enter Tryd.func32, Tryd.ntmps32
  go_wp2_with (first | (go_at_call 38; refine HA.mono ?_; rintro e w1 ⟨v, r, er, rfl, hp⟩))
  go_ret3
  exact hp.out

set_option maxRecDepth 100000 in
set_option maxHeartbeats 4000000 in
theorem nums_1 (s : ByteArray) (w : World) (hC : Cnts w) (hF : V.Forms w) (hl : s.size ≤ maxLen) : Calls Tryd.prog 32 #[.int .i64 1, .string s] w (NumsPost 1 s w) := by
  have HE : Hid (rdNums 1 (V.ints s) = tk 0 (V.ints s)) := by show _ = _; simp [rdNums, cntK]
  have HA : Calls Tryd.prog 39 #[.string s, .int .i64 0] w fun e w' => ∃ (v : Value) (r : ByteArray) (er : Value), e = .returned (.tuple #[v, .string r, er]) ∧ Hid (NumsPost 1 s w (.returned (.tuple #[v, .string r, er])) w') := by
    refine (take_calls s 0 w hF hl (by decide)).mono ?_
    rintro e w' ⟨⟨h1, rfl⟩ | ⟨ns, c, v, h1, rfl, ho⟩, hb⟩
    · exact ⟨_, _, _, rfl, .inl ⟨by rw [HE.out, h1], rfl⟩, hb⟩
    · exact ⟨_, _, _, rfl, .inr ⟨ns, c, v, by rw [HE.out, h1], rfl, ho⟩, hb⟩
  have hc := hC.c1
  clear HE hF hl hC
  go_enter Tryd.func32, Tryd.ntmps32
  go_wp2_with (first | (go_at_call 39; refine HA.mono ?_; rintro e w1 ⟨v, r, er, rfl, hp⟩))
  go_ret3
  exact hp.out

set_option maxRecDepth 100000 in
set_option maxHeartbeats 4000000 in
theorem nums_3 (s : ByteArray) (w : World) (hC : Cnts w) (hF : V.Forms w) (hl : s.size ≤ maxLen) : Calls Tryd.prog 32 #[.int .i64 3, .string s] w (NumsPost 3 s w) := by
  have HE : Hid (rdNums 3 (V.ints s) = tk 1 (V.ints s)) := by show _ = _; simp [rdNums, cntK]
  have HA : Calls Tryd.prog 39 #[.string s, .int .i64 1] w fun e w' => ∃ (v : Value) (r : ByteArray) (er : Value), e = .returned (.tuple #[v, .string r, er]) ∧ Hid (NumsPost 3 s w (.returned (.tuple #[v, .string r, er])) w') := by
    refine (take_calls s 1 w hF hl (by decide)).mono ?_
    rintro e w' ⟨⟨h1, rfl⟩ | ⟨ns, c, v, h1, rfl, ho⟩, hb⟩
    · exact ⟨_, _, _, rfl, .inl ⟨by rw [HE.out, h1], rfl⟩, hb⟩
    · exact ⟨_, _, _, rfl, .inr ⟨ns, c, v, by rw [HE.out, h1], rfl, ho⟩, hb⟩
  have hc := hC.c3
  clear HE hF hl hC
  go_enter Tryd.func32, Tryd.ntmps32
  go_wp2_with (first | (go_at_call 39; refine HA.mono ?_; rintro e w1 ⟨v, r, er, rfl, hp⟩))
  go_ret3
  exact hp.out

set_option maxRecDepth 100000 in
set_option maxHeartbeats 4000000 in
theorem nums_4 (s : ByteArray) (w : World) (hC : Cnts w) (hF : V.Forms w) (hl : s.size ≤ maxLen) : Calls Tryd.prog 32 #[.int .i64 4, .string s] w (NumsPost 4 s w) := by
  have HE : Hid (rdNums 4 (V.ints s) = tk 1 (V.ints s)) := by show _ = _; simp [rdNums, cntK]
  have HA : Calls Tryd.prog 39 #[.string s, .int .i64 1] w fun e w' => ∃ (v : Value) (r : ByteArray) (er : Value), e = .returned (.tuple #[v, .string r, er]) ∧ Hid (NumsPost 4 s w (.returned (.tuple #[v, .string r, er])) w') := by
    refine (take_calls s 1 w hF hl (by decide)).mono ?_
    rintro e w' ⟨⟨h1, rfl⟩ | ⟨ns, c, v, h1, rfl, ho⟩, hb⟩
    · exact ⟨_, _, _, rfl, .inl ⟨by rw [HE.out, h1], rfl⟩, hb⟩
    · exact ⟨_, _, _, rfl, .inr ⟨ns, c, v, by rw [HE.out, h1], rfl, ho⟩, hb⟩
  have hc := hC.c4
  clear HE hF hl hC
  go_enter Tryd.func32, Tryd.ntmps32
  go_wp2_with (first | (go_at_call 39; refine HA.mono ?_; rintro e w1 ⟨v, r, er, rfl, hp⟩))
  go_ret3
  exact hp.out

set_option maxRecDepth 100000 in
set_option maxHeartbeats 4000000 in
theorem nums_5 (s : ByteArray) (w : World) (hC : Cnts w) (hF : V.Forms w) (hl : s.size ≤ maxLen) : Calls Tryd.prog 32 #[.int .i64 5, .string s] w (NumsPost 5 s w) := by
  have HE : Hid (rdNums 5 (V.ints s) = tk 1 (V.ints s)) := by show _ = _; simp [rdNums, cntK]
  have HA : Calls Tryd.prog 39 #[.string s, .int .i64 1] w fun e w' => ∃ (v : Value) (r : ByteArray) (er : Value), e = .returned (.tuple #[v, .string r, er]) ∧ Hid (NumsPost 5 s w (.returned (.tuple #[v, .string r, er])) w') := by
    refine (take_calls s 1 w hF hl (by decide)).mono ?_
    rintro e w' ⟨⟨h1, rfl⟩ | ⟨ns, c, v, h1, rfl, ho⟩, hb⟩
    · exact ⟨_, _, _, rfl, .inl ⟨by rw [HE.out, h1], rfl⟩, hb⟩
    · exact ⟨_, _, _, rfl, .inr ⟨ns, c, v, by rw [HE.out, h1], rfl, ho⟩, hb⟩
  have hc := hC.c5
  clear HE hF hl hC
  go_enter Tryd.func32, Tryd.ntmps32
  go_wp2_with (first | (go_at_call 39; refine HA.mono ?_; rintro e w1 ⟨v, r, er, rfl, hp⟩))
  go_ret3
  exact hp.out

set_option maxRecDepth 100000 in
set_option maxHeartbeats 4000000 in
theorem nums_6 (s : ByteArray) (w : World) (hC : Cnts w) (hF : V.Forms w) (hl : s.size ≤ maxLen) : Calls Tryd.prog 32 #[.int .i64 6, .string s] w (NumsPost 6 s w) := by
  have HE : Hid (rdNums 6 (V.ints s) = tk 1 (V.ints s)) := by show _ = _; simp [rdNums, cntK]
  have HA : Calls Tryd.prog 39 #[.string s, .int .i64 1] w fun e w' => ∃ (v : Value) (r : ByteArray) (er : Value), e = .returned (.tuple #[v, .string r, er]) ∧ Hid (NumsPost 6 s w (.returned (.tuple #[v, .string r, er])) w') := by
    refine (take_calls s 1 w hF hl (by decide)).mono ?_
    rintro e w' ⟨⟨h1, rfl⟩ | ⟨ns, c, v, h1, rfl, ho⟩, hb⟩
    · exact ⟨_, _, _, rfl, .inl ⟨by rw [HE.out, h1], rfl⟩, hb⟩
    · exact ⟨_, _, _, rfl, .inr ⟨ns, c, v, by rw [HE.out, h1], rfl, ho⟩, hb⟩
  have hc := hC.c6
  clear HE hF hl hC
  go_enter Tryd.func32, Tryd.ntmps32
  go_wp2_with (first | (go_at_call 39; refine HA.mono ?_; rintro e w1 ⟨v, r, er, rfl, hp⟩))
  go_ret3
  exact hp.out

set_option maxRecDepth 100000 in
set_option maxHeartbeats 4000000 in
theorem nums_7 (s : ByteArray) (w : World) (hC : Cnts w) (hF : V.Forms w) (hl : s.size ≤ maxLen) : Calls Tryd.prog 32 #[.int .i64 7, .string s] w (NumsPost 7 s w) := by
  have HE : Hid (rdNums 7 (V.ints s) = tk 2 (V.ints s)) := by show _ = _; simp [rdNums, cntK]
  have HA : Calls Tryd.prog 39 #[.string s, .int .i64 2] w fun e w' => ∃ (v : Value) (r : ByteArray) (er : Value), e = .returned (.tuple #[v, .string r, er]) ∧ Hid (NumsPost 7 s w (.returned (.tuple #[v, .string r, er])) w') := by
    refine (take_calls s 2 w hF hl (by decide)).mono ?_
    rintro e w' ⟨⟨h1, rfl⟩ | ⟨ns, c, v, h1, rfl, ho⟩, hb⟩
    · exact ⟨_, _, _, rfl, .inl ⟨by rw [HE.out, h1], rfl⟩, hb⟩
    · exact ⟨_, _, _, rfl, .inr ⟨ns, c, v, by rw [HE.out, h1], rfl, ho⟩, hb⟩
  have hc := hC.c7
  clear HE hF hl hC
  go_enter Tryd.func32, Tryd.ntmps32
  go_wp2_with (first | (go_at_call 39; refine HA.mono ?_; rintro e w1 ⟨v, r, er, rfl, hp⟩))
  go_ret3
  exact hp.out

set_option maxRecDepth 100000 in
set_option maxHeartbeats 4000000 in
theorem nums_8 (s : ByteArray) (w : World) (hC : Cnts w) (hF : V.Forms w) (hl : s.size ≤ maxLen) : Calls Tryd.prog 32 #[.int .i64 8, .string s] w (NumsPost 8 s w) := by
  have HE : Hid (rdNums 8 (V.ints s) = tk 1 (V.ints s)) := by show _ = _; simp [rdNums, cntK]
  have HA : Calls Tryd.prog 39 #[.string s, .int .i64 1] w fun e w' => ∃ (v : Value) (r : ByteArray) (er : Value), e = .returned (.tuple #[v, .string r, er]) ∧ Hid (NumsPost 8 s w (.returned (.tuple #[v, .string r, er])) w') := by
    refine (take_calls s 1 w hF hl (by decide)).mono ?_
    rintro e w' ⟨⟨h1, rfl⟩ | ⟨ns, c, v, h1, rfl, ho⟩, hb⟩
    · exact ⟨_, _, _, rfl, .inl ⟨by rw [HE.out, h1], rfl⟩, hb⟩
    · exact ⟨_, _, _, rfl, .inr ⟨ns, c, v, by rw [HE.out, h1], rfl, ho⟩, hb⟩
  have hc := hC.c8
  clear HE hF hl hC
  go_enter Tryd.func32, Tryd.ntmps32
  go_wp2_with (first | (go_at_call 39; refine HA.mono ?_; rintro e w1 ⟨v, r, er, rfl, hp⟩))
  go_ret3
  exact hp.out

theorem nums_calls (k : Int) (s : ByteArray) (w : World) (hC : Cnts w) (hF : V.Forms w) (hl : s.size ≤ maxLen) (hk : kindB k = true) : Calls Tryd.prog 32 #[.int .i64 k, .string s] w (NumsPost k s w) := by
  have h := (kindB_iff k).1 hk
  have hs : k = 1 ∨ k = 2 ∨ k = 3 ∨ k = 4 ∨ k = 5 ∨ k = 6 ∨ k = 7 ∨ k = 8 := by omega
  rcases hs with rfl | rfl | rfl | rfl | rfl | rfl | rfl | rfl
  · exact nums_1 s w hC hF hl
  · exact nums_ack s w hF hl
  · exact nums_3 s w hC hF hl
  · exact nums_4 s w hC hF hl
  · exact nums_5 s w hC hF hl
  · exact nums_6 s w hC hF hl
  · exact nums_7 s w hC hF hl
  · exact nums_8 s w hC hF hl
theorem nums_no (k : Int) (s : ByteArray) (w : World) (hC : Cnts w) (hF : V.Forms w) (hl : s.size ≤ maxLen) (hk : kindB k = true) (h : rdNums k (V.ints s) = none) :
    Calls Tryd.prog 32 #[.int .i64 k, .string s] w fun e w' => e = noNums ∧ Below w.heap.size w w' := by
  refine (nums_calls k s w hC hF hl hk).mono ?_
  rintro e w' ⟨⟨_, he⟩ | ⟨ns, c, v, h1, _⟩, hb⟩
  · exact ⟨he, hb⟩
  · rw [h] at h1; cases h1
theorem nums_yes (k : Int) (s : ByteArray) (w : World) (hC : Cnts w) (hF : V.Forms w) (hl : s.size ≤ maxLen) (hk : kindB k = true) (ns : List Int) (c : Nat) (h : rdNums k (V.ints s) = some (ns, c)) :
    Calls Tryd.prog 32 #[.int .i64 k, .string s] w fun e w' => ∃ v, e = .returned (.tuple #[v, .string (s.extract c s.size), .nilIface]) ∧ OwnI w' w.heap.size v ns ∧ Below w.heap.size w w' := by
  refine (nums_calls k s w hC hF hl hk).mono ?_
  rintro e w' ⟨⟨h1, _⟩ | ⟨ns', c', v, h1, he, ho⟩, hb⟩
  · rw [h] at h1; cases h1
  · rw [h] at h1; cases h1; exact ⟨v, he, ho, hb⟩

/-- Block B is a frame's box. -/
def FBox (W : World) (B : Nat) (k : Int) (v : Value) (d : ByteArray) : Prop := W.heap[B]? = some (.cells #[.int .i64 k, v, .string d] 33 (0, 0))
theorem FBox.lt {W : World} {B : Nat} {k : Int} {v : Value} {d : ByteArray} (h : FBox W B k v d) : B < W.heap.size := (Array.getElem?_eq_some_iff.1 h).1
theorem FBox.c0 {W : World} {B : Nat} {k : Int} {v : Value} {d : ByteArray} (h : FBox W B k v d) : W.cell? ⟨B, 0, none⟩ = some (.int .i64 k) := by simp [World.cell?, show W.heap[B]? = _ from h]
theorem FBox.c1 {W : World} {B : Nat} {k : Int} {v : Value} {d : ByteArray} (h : FBox W B k v d) : W.cell? ⟨B, 1, none⟩ = some v := by simp [World.cell?, show W.heap[B]? = _ from h]
theorem FBox.c2 {W : World} {B : Nat} {k : Int} {v : Value} {d : ByteArray} (h : FBox W B k v d) : W.cell? ⟨B, 2, none⟩ = some (.string d) := by simp [World.cell?, show W.heap[B]? = _ from h]
theorem FBox.fz {W : World} {B : Nat} {k : Int} {v : Value} {d : ByteArray} (h : FBox W B k v d) (j : Nat) : W.frozen? ⟨B, j, none⟩ = false := by simp [World.frozen?, show W.heap[B]? = _ from h]
theorem FBox.new (W : World) (k : Int) (v : Value) (d : ByteArray) : FBox (W.alloc (.cells #[.int .i64 k, v, .string d] 33)) W.heap.size k v d := World.alloc_heap_new W _
theorem FBox.alloc {W : World} {B : Nat} {k : Int} {v : Value} {d : ByteArray} (h : FBox W B k v d) (o : Obj) : FBox (W.alloc o) B k v d := (Below.block (((Below.refl W.heap.size W).alloc (Nat.le_refl _) o)) B h.lt).trans h
theorem FBox.below {W W' : World} {n B : Nat} {k : Int} {v : Value} {d : ByteArray} (h : FBox W B k v d) (hb : Below n W W') (hn : B < n) : FBox W' B k v d := (hb.block B hn).trans h
theorem FBox.set {W : World} {B : Nat} {k : Int} {v : Value} {d : ByteArray} (h : FBox W B k v d) (k' : Int) (v' : Value) (d' : ByteArray) : FBox (((W.setCell ⟨B, 0, none⟩ (.int .i64 k')).setCell ⟨B, 1, none⟩ v').setCell ⟨B, 2, none⟩ (.string d')) B k' v' d' :=
  set_block (set_block (set_block h 0 (.int .i64 k')) 1 v') 2 (.string d')
theorem FBox.set1 {W : World} {B : Nat} {k : Int} {v : Value} {d : ByteArray} (h : FBox W B k v d) (v' : Value) : FBox (W.setCell ⟨B, 1, none⟩ v') B k v' d := set_block h 1 v'
theorem FBox.set2 {W : World} {B : Nat} {k : Int} {v : Value} {d : ByteArray} (h : FBox W B k v d) (d' : ByteArray) : FBox (W.setCell ⟨B, 2, none⟩ (.string d')) B k v d' := set_block h 2 (.string d')
theorem FBox.other {W : World} {B B' j : Nat} {k : Int} {v : Value} {d : ByteArray} (h : FBox W B k v d) (hne : B ≠ B') (u : Value) : FBox (W.setCell ⟨B', j, none⟩ u) B k v d := (Below.heap_setCell _ _ _ B hne).trans h
theorem results_cell3 {fn : Func} {p u q : Tmp} {ty : TypeId} (h : fn.results = #[.cell p ty, .tmp u, .tmp q]) (tmps : Array Value) (P : Program) (w : World) :
    (results fn tmps).run P w = ((asAddr (tmps.getD p undef)).run P w).andThen fun a w₁ => ((loadVar ty a).run P w₁).andThen fun v w₂ => .ok (.tuple #[v, tmps.getD u undef, tmps.getD q undef]) w₂ := by
  simp only [results, h]
  simp [Sem.run_bind, Result.andThen]
abbrev zeroF : Value := .agg #[.int .i64 0, .slice none 0 0, .string { data := #[] }]
abbrev noFrame : Ending := .returned (.tuple #[zeroF, .int .i64 0, errS])
theorem zeroFrame : (zeroValue 33).run Tryd.prog = fun w => .ok zeroF w := by funext w; kernel_rfl

end Go.Proofs.YtoabfilliiopmaaDoor
