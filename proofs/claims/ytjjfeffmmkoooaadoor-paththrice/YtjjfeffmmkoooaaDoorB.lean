/- What Check, Came, Send, Room and Prove answer; paths in boxes of their own. -/
import Derived.Test.YtjjfeffmmkoooaaDoorA
namespace Go.Proofs.YtjjfeffmmkoooaaDoor
open Go.RowKit Go.Lib Go.Sort
set_option linter.unusedVariables false
set_option linter.unusedSimpArgs false

/-- The block b holds a path, and may be written. -/
structure Box (w : World) (b : Nat) (i o : Int) (k : Bool) : Prop where
  lt : b < w.heap.size
  c0 : w.cell? ⟨b, 0, none⟩ = some (.int .i64 i)
  c1 : w.cell? ⟨b, 1, none⟩ = some (.int .i64 o)
  c2 : w.cell? ⟨b, 2, none⟩ = some (.bool k)
  f0 : w.frozen? ⟨b, 0, none⟩ = false
  f1 : w.frozen? ⟨b, 1, none⟩ = false
  f2 : w.frozen? ⟨b, 2, none⟩ = false
theorem frozen_below {w w' : World} {a : Addr} (hb : Below w.heap.size w w') (h : a.block < w.heap.size) : w'.frozen? a = w.frozen? a := by
  unfold World.frozen?; rw [hb.block _ h]
theorem Box.below {w w' : World} {b : Nat} {i o : Int} {k : Bool} (h : Box w b i o k) (hb : Below w.heap.size w w') : Box w' b i o k :=
  ⟨Nat.lt_of_lt_of_le h.lt hb.size, (hb.cell (p := ⟨b, 0, none⟩) h.lt).trans h.c0, (hb.cell (p := ⟨b, 1, none⟩) h.lt).trans h.c1, (hb.cell (p := ⟨b, 2, none⟩) h.lt).trans h.c2,
    (frozen_below hb h.lt).trans h.f0, (frozen_below hb h.lt).trans h.f1, (frozen_below hb h.lt).trans h.f2⟩
theorem Box.new (w : World) (i o : Int) (k : Bool) : Box (put w i o k) w.heap.size i o k :=
  ⟨by simp, by simp, by simp, by simp, by simp, by simp, by simp⟩
abbrev set3 (w : World) (b : Nat) (i o : Int) (k : Bool) : World := ((w.setCell ⟨b, 0, none⟩ (.int .i64 i)).setCell ⟨b, 1, none⟩ (.int .i64 o)).setCell ⟨b, 2, none⟩ (.bool k)
/-- A path is written into its box. -/
theorem Box.set {w : World} {b : Nat} {i o : Int} {k : Bool} (h : Box w b i o k) (i' o' : Int) (k' : Bool) : Box (set3 w b i' o' k') b i' o' k' := by
  have a0 : (w.setCell ⟨b, 0, none⟩ (.int .i64 i')).cell? ⟨b, 0, none⟩ = some (.int .i64 i') := World.cell?_setCell_same _ _ _ h.c0
  have a1 : (w.setCell ⟨b, 0, none⟩ (.int .i64 i')).cell? ⟨b, 1, none⟩ = some (.int .i64 o) := by rw [World.cell?_setCell_other _ _ _ _ (by simp)]; exact h.c1
  have a2 : (w.setCell ⟨b, 0, none⟩ (.int .i64 i')).cell? ⟨b, 2, none⟩ = some (.bool k) := by rw [World.cell?_setCell_other _ _ _ _ (by simp)]; exact h.c2
  have b2 : ((w.setCell ⟨b, 0, none⟩ (.int .i64 i')).setCell ⟨b, 1, none⟩ (.int .i64 o')).cell? ⟨b, 2, none⟩ = some (.bool k) := by rw [World.cell?_setCell_other _ _ _ _ (by simp)]; exact a2
  refine ⟨by simpa using h.lt, ?_, ?_, World.cell?_setCell_same _ _ _ b2, ?_, ?_, ?_⟩
  · rw [World.cell?_setCell_other _ _ _ _ (by simp), World.cell?_setCell_other _ _ _ _ (by simp)]; exact a0
  · rw [World.cell?_setCell_other _ _ _ _ (by simp)]; exact World.cell?_setCell_same _ _ _ a1
  · simpa using h.f0
  · simpa using h.f1
  · simpa using h.f2
theorem below_set3 {B : Nat} {w w' : World} {b : Nat} (h : Below B w w') (hb : B ≤ b) (i o : Int) (k : Bool) : Below B w (set3 w' b i o k) :=
  ((h.setCell hb _).setCell hb _).setCell hb _
theorem Box.set_far {w : World} {b q : Nat} {i o : Int} {k : Bool} (h : Box w b i o k) (hq : q ≠ b) (i' o' : Int) (k' : Bool) : Box (set3 w q i' o' k') b i o k := by
  have far : ∀ (u : World) (o : Nat) (y : Value) (a : Addr), a.block = b → (u.setCell ⟨q, o, none⟩ y).cell? a = u.cell? a := fun u o y a ha => World.cell?_setCell_other _ _ _ _ (by intro e; apply hq; rw [← ha, ← e])
  refine ⟨by simpa using h.lt, ?_, ?_, ?_, by simpa using h.f0, by simpa using h.f1, by simpa using h.f2⟩
  · rw [far _ _ _ _ rfl, far _ _ _ _ rfl, far _ _ _ _ rfl]; exact h.c0
  · rw [far _ _ _ _ rfl, far _ _ _ _ rfl, far _ _ _ _ rfl]; exact h.c1
  · rw [far _ _ _ _ rfl, far _ _ _ _ rfl, far _ _ _ _ rfl]; exact h.c2
/-- Two boxes made since w: the path that came in, and the one that is answered. -/
structure Pair (w W : World) (P Q : Nat) (i o : Int) (k : Bool) : Prop where
  p : Box W P i o k
  q : Box W Q 0 0 false
  bel : Below w.heap.size w W
  leP : w.heap.size ≤ P
  leQ : w.heap.size ≤ Q
  ne : P ≠ Q
  ne' : Q ≠ P
theorem Pair.below {w W W' : World} {P Q : Nat} {i o : Int} {k : Bool} (h : Pair w W P Q i o k) (hb : Below W.heap.size W W') : Pair w W' P Q i o k :=
  ⟨h.p.below hb, h.q.below hb, h.bel.trans (hb.mono h.bel.size), h.leP, h.leQ, h.ne, h.ne'⟩
theorem below_put (w : World) (i o : Int) (k : Bool) : Below w.heap.size w (put w i o k) := (Below.refl _ _).alloc (Nat.le_refl _) _
theorem pair_start (w : World) (i o : Int) (k : Bool) : Pair w (put (put w i o k) 0 0 false) w.heap.size (w.heap.size + 1) i o k := by
  have k2 := Box.new (put w i o k) 0 0 false
  rw [show (put w i o k).heap.size = w.heap.size + 1 by simp] at k2
  exact ⟨(Box.new w i o k).below (below_put _ _ _ _), k2, (below_put w i o k).trans ((below_put _ _ _ _).mono (by simp)), by omega, by omega, by omega, by omega⟩

set_option maxRecDepth 100000 in
set_option maxHeartbeats 2000000 in
theorem check_i (i o : Int) (k : Bool) (w : World) (hi : byB i = false) :
    Calls Tryd.prog 8 #[path i o k] w fun e w' => e = .returned (.iface 41 (.int .i64 1)) ∧ Below w.heap.size w w' := by
  go_enter Tryd.func8, Tryd.ntmps8
  go_wp2_with fail
  refine (isBytes_calls i _).mono ?_
  rintro e w1 ⟨rfl, rfl⟩
  rw [hi]
  go_wp2_with fail
  go_ret
  exact ⟨rfl, below_put _ _ _ _⟩
set_option maxRecDepth 100000 in
set_option maxHeartbeats 2000000 in
theorem check_o (i o : Int) (k : Bool) (w : World) (hi : byB i = true) (ho : byB o = false) :
    Calls Tryd.prog 8 #[path i o k] w fun e w' => e = .returned (.iface 41 (.int .i64 1)) ∧ Below w.heap.size w w' := by
  go_enter Tryd.func8, Tryd.ntmps8
  go_wp2_with fail
  refine (isBytes_calls i _).mono ?_
  rintro e w1 ⟨rfl, rfl⟩
  rw [hi]
  go_wp2_with fail
  refine (isBytes_calls o _).mono ?_
  rintro e w1 ⟨rfl, rfl⟩
  rw [ho]
  go_wp2_with fail
  go_ret
  exact ⟨rfl, below_put _ _ _ _⟩
theorem check_ok (i o : Int) (k : Bool) (w : World) (h : flt i o k = 0) : Calls Tryd.prog 8 #[path i o k] w fun e w' => e = .returned .nilIface ∧ Below w.heap.size w w' := by
  obtain ⟨hi, ho, hb⟩ := flt_zero h
  exact check_in i o k w hi ho false (decide_eq_false (by omega))
theorem check_no (i o : Int) (k : Bool) (f : Int) (w : World) (h : flt i o k = f) (h0 : f ≠ 0) : Calls Tryd.prog 8 #[path i o k] w fun e w' => e = .returned (.iface 41 (.int .i64 f)) ∧ Below w.heap.size w w' := by
  cases hi : byB i with
  | false => have e : f = 1 := by rw [← h]; simp [flt, hi]
             subst e; exact check_i i o k w hi
  | true => cases ho : byB o with
    | false => have e : f = 1 := by rw [← h]; simp [flt, ho]
               subst e; exact check_o i o k w hi ho
    | true => have e : bnd i k < o ∧ f = 3 := by
                simp [flt, hi, ho] at h
                split at h
                · exact ⟨by assumption, h.symm⟩
                · exact absurd h.symm h0
              obtain ⟨hb, rfl⟩ := e
              exact check_in i o k w hi ho true (decide_eq_true hb)

set_option maxRecDepth 100000 in
set_option maxHeartbeats 2000000 in
theorem came_f (i o : Int) (k : Bool) (n : Int) (w : World) (f : Int) (h : flt i o k = f) (h0 : f ≠ 0) : Calls Tryd.prog 10 #[path i o k, .int .i64 n] w fun e w' => e = .returned (.tuple #[path 0 0 false, .iface 41 (.int .i64 f)]) ∧ Below w.heap.size w w' := by
  go_enter Tryd.func10, Tryd.ntmps10
  go_wp2_with fail
  have hP := pair_start w i o k
  generalize w.heap.size = P at hP ⊢
  generalize P + 1 = Q at hP ⊢
  refine (check_no i o k f _ h h0).mono ?_
  rintro e w1 ⟨rfl, hb1⟩
  have hP := hP.below hb1
  clear hb1
  have hPc := hP
  obtain ⟨⟨pl, p0, p1, p2, pf0, pf1, pf2⟩, ⟨ql, q0, q1, q2, qf0, qf1, qf2⟩, hbel, hleP, hleQ, hne, hne'⟩ := hPc
  go_wp2_with fail
  (try simp only [Exit.inBlock, Exit.then])
  refine bodyPost_ret (v := .tuple #[path 0 0 false, .iface 41 (.int .i64 f)]) ?_ rfl ⟨rfl, ?_⟩
  · rw [results_cell_tmp rfl]; go_simp
  · repeat (first | exact hbel | (refine Below.alloc ?_ (by simp <;> omega) _) | (refine Below.setCell ?_ (by simp <;> omega) _))
set_option maxRecDepth 100000 in
set_option maxHeartbeats 2000000 in
theorem came_n (i o : Int) (k : Bool) (n : Int) (w : World) (h : flt i o k = 0) (hn : pkB n = false) : Calls Tryd.prog 10 #[path i o k, .int .i64 n] w fun e w' => e = .returned (.tuple #[path 0 0 false, .iface 41 (.int .i64 1)]) ∧ Below w.heap.size w w' := by
  obtain ⟨hi, ho, hbd⟩ := flt_zero h
  obtain ⟨i0, i1⟩ := byB_yes hi
  obtain ⟨o0, o1⟩ := byB_yes ho
  go_enter Tryd.func10, Tryd.ntmps10
  go_wp2_with fail
  have hP := pair_start w i o k
  generalize w.heap.size = P at hP ⊢
  generalize P + 1 = Q at hP ⊢
  refine (check_ok i o k _ h).mono ?_
  rintro e w1 ⟨rfl, hb1⟩
  have hP := hP.below hb1
  clear hb1
  have hPc := hP
  obtain ⟨⟨pl, p0, p1, p2, pf0, pf1, pf2⟩, ⟨ql, q0, q1, q2, qf0, qf1, qf2⟩, hbel, hleP, hleQ, hne, hne'⟩ := hPc
  go_wp2_with fail
  refine (isPacket_calls n _).mono ?_
  rintro e w2 ⟨rfl, rfl⟩
  rw [hn]
  go_wp2_with fail
  (try simp only [Exit.inBlock, Exit.then])
  refine bodyPost_ret (v := .tuple #[path 0 0 false, .iface 41 (.int .i64 1)]) ?_ rfl ⟨rfl, ?_⟩
  · rw [results_cell_tmp rfl]; go_simp
  · repeat (first | exact hbel | (refine Below.alloc ?_ (by simp <;> omega) _) | (refine Below.setCell ?_ (by simp <;> omega) _))
set_option maxRecDepth 100000 in
set_option maxHeartbeats 2000000 in
theorem came_s (i o : Int) (k : Bool) (n : Int) (w : World) (h : flt i o k = 0) (hn : pkB n = true) (hs : byB (i + n) = false) : Calls Tryd.prog 10 #[path i o k, .int .i64 n] w fun e w' => e = .returned (.tuple #[path 0 0 false, .iface 41 (.int .i64 1)]) ∧ Below w.heap.size w w' := by
  obtain ⟨hi, ho, hbd⟩ := flt_zero h
  obtain ⟨i0, i1⟩ := byB_yes hi
  obtain ⟨o0, o1⟩ := byB_yes ho
  obtain ⟨n0, n1⟩ := pkB_yes hn
  go_enter Tryd.func10, Tryd.ntmps10
  go_wp2_with fail
  have hP := pair_start w i o k
  generalize w.heap.size = P at hP ⊢
  generalize P + 1 = Q at hP ⊢
  refine (check_ok i o k _ h).mono ?_
  rintro e w1 ⟨rfl, hb1⟩
  have hP := hP.below hb1
  clear hb1
  have hPc := hP
  obtain ⟨⟨pl, p0, p1, p2, pf0, pf1, pf2⟩, ⟨ql, q0, q1, q2, qf0, qf1, qf2⟩, hbel, hleP, hleQ, hne, hne'⟩ := hPc
  go_wp2_with fail
  refine (isPacket_calls n _).mono ?_
  rintro e w2 ⟨rfl, rfl⟩
  rw [hn]
  go_wp2_with fail
  refine (isBytes_calls (i + n) _).mono ?_
  rintro e w2 ⟨rfl, rfl⟩
  rw [hs]
  go_wp2_with fail
  (try simp only [Exit.inBlock, Exit.then])
  refine bodyPost_ret (v := .tuple #[path 0 0 false, .iface 41 (.int .i64 1)]) ?_ rfl ⟨rfl, ?_⟩
  · rw [results_cell_tmp rfl]; go_simp
  · repeat (first | exact hbel | (refine Below.alloc ?_ (by simp <;> omega) _) | (refine Below.setCell ?_ (by simp <;> omega) _))
set_option maxRecDepth 100000 in
set_option maxHeartbeats 2000000 in
theorem came_ok (i o : Int) (k : Bool) (n : Int) (w : World) (h : flt i o k = 0) (hn : pkB n = true) (hs : byB (i + n) = true) : Calls Tryd.prog 10 #[path i o k, .int .i64 n] w fun e w' => e = .returned (.tuple #[path (i + n) o k, .nilIface]) ∧ Below w.heap.size w w' := by
  obtain ⟨hi, ho, hbd⟩ := flt_zero h
  obtain ⟨i0, i1⟩ := byB_yes hi
  obtain ⟨o0, o1⟩ := byB_yes ho
  obtain ⟨n0, n1⟩ := pkB_yes hn
  go_enter Tryd.func10, Tryd.ntmps10
  go_wp2_with fail
  have hP := pair_start w i o k
  generalize w.heap.size = P at hP ⊢
  generalize P + 1 = Q at hP ⊢
  refine (check_ok i o k _ h).mono ?_
  rintro e w1 ⟨rfl, hb1⟩
  have hP := hP.below hb1
  clear hb1
  have hPc := hP
  obtain ⟨⟨pl, p0, p1, p2, pf0, pf1, pf2⟩, ⟨ql, q0, q1, q2, qf0, qf1, qf2⟩, hbel, hleP, hleQ, hne, hne'⟩ := hPc
  go_wp2_with fail
  refine (isPacket_calls n _).mono ?_
  rintro e w2 ⟨rfl, rfl⟩
  rw [hn]
  go_wp2_with fail
  refine (isBytes_calls (i + n) _).mono ?_
  rintro e w2 ⟨rfl, rfl⟩
  rw [hs]
  go_wp2_with fail
  (try simp only [Exit.inBlock, Exit.then])
  refine bodyPost_ret (v := .tuple #[path (i + n) o k, .nilIface]) ?_ rfl ⟨rfl, ?_⟩
  · rw [results_cell_tmp rfl]; go_simp
  · repeat (first | exact hbel | (refine Below.alloc ?_ (by simp <;> omega) _) | (refine Below.setCell ?_ (by simp <;> omega) _))
set_option maxRecDepth 100000 in
set_option maxHeartbeats 2000000 in
theorem prove_f (i o : Int) (k : Bool) (w : World) (f : Int) (h : flt i o k = f) (h0 : f ≠ 0) : Calls Tryd.prog 14 #[path i o k] w fun e w' => e = .returned (.tuple #[path 0 0 false, .iface 41 (.int .i64 f)]) ∧ Below w.heap.size w w' := by
  go_enter Tryd.func14, Tryd.ntmps14
  go_wp2_with fail
  have hP := pair_start w i o k
  generalize w.heap.size = P at hP ⊢
  generalize P + 1 = Q at hP ⊢
  refine (check_no i o k f _ h h0).mono ?_
  rintro e w1 ⟨rfl, hb1⟩
  have hP := hP.below hb1
  clear hb1
  have hPc := hP
  obtain ⟨⟨pl, p0, p1, p2, pf0, pf1, pf2⟩, ⟨ql, q0, q1, q2, qf0, qf1, qf2⟩, hbel, hleP, hleQ, hne, hne'⟩ := hPc
  go_wp2_with fail
  (try simp only [Exit.inBlock, Exit.then])
  refine bodyPost_ret (v := .tuple #[path 0 0 false, .iface 41 (.int .i64 f)]) ?_ rfl ⟨rfl, ?_⟩
  · rw [results_cell_tmp rfl]; go_simp
  · repeat (first | exact hbel | (refine Below.alloc ?_ (by simp <;> omega) _) | (refine Below.setCell ?_ (by simp <;> omega) _))
set_option maxRecDepth 100000 in
set_option maxHeartbeats 2000000 in
theorem prove_0 (o : Int) (k : Bool) (w : World) (h : flt 0 o k = 0) : Calls Tryd.prog 14 #[path 0 o k] w fun e w' => e = .returned (.tuple #[path 0 0 false, .iface 41 (.int .i64 5)]) ∧ Below w.heap.size w w' := by
  go_enter Tryd.func14, Tryd.ntmps14
  go_wp2_with fail
  have hP := pair_start w 0 o k
  generalize w.heap.size = P at hP ⊢
  generalize P + 1 = Q at hP ⊢
  refine (check_ok 0 o k _ h).mono ?_
  rintro e w1 ⟨rfl, hb1⟩
  have hP := hP.below hb1
  clear hb1
  have hPc := hP
  obtain ⟨⟨pl, p0, p1, p2, pf0, pf1, pf2⟩, ⟨ql, q0, q1, q2, qf0, qf1, qf2⟩, hbel, hleP, hleQ, hne, hne'⟩ := hPc
  go_wp2_with fail
  (try simp only [Exit.inBlock, Exit.then])
  refine bodyPost_ret (v := .tuple #[path 0 0 false, .iface 41 (.int .i64 5)]) ?_ rfl ⟨rfl, ?_⟩
  · rw [results_cell_tmp rfl]; go_simp
  · repeat (first | exact hbel | (refine Below.alloc ?_ (by simp <;> omega) _) | (refine Below.setCell ?_ (by simp <;> omega) _))
set_option maxRecDepth 100000 in
set_option maxHeartbeats 2000000 in
theorem prove_ok (i o : Int) (k : Bool) (w : World) (h : flt i o k = 0) (hz : i ≠ 0) : Calls Tryd.prog 14 #[path i o k] w fun e w' => e = .returned (.tuple #[path i o true, .nilIface]) ∧ Below w.heap.size w w' := by
  go_enter Tryd.func14, Tryd.ntmps14
  go_wp2_with fail
  have hP := pair_start w i o k
  generalize w.heap.size = P at hP ⊢
  generalize P + 1 = Q at hP ⊢
  refine (check_ok i o k _ h).mono ?_
  rintro e w1 ⟨rfl, hb1⟩
  have hP := hP.below hb1
  clear hb1
  have hPc := hP
  obtain ⟨⟨pl, p0, p1, p2, pf0, pf1, pf2⟩, ⟨ql, q0, q1, q2, qf0, qf1, qf2⟩, hbel, hleP, hleQ, hne, hne'⟩ := hPc
  go_wp2_with fail
  (try simp only [Exit.inBlock, Exit.then])
  refine bodyPost_ret (v := .tuple #[path i o true, .nilIface]) ?_ rfl ⟨rfl, ?_⟩
  · rw [results_cell_tmp rfl]; go_simp
  · repeat (first | exact hbel | (refine Below.alloc ?_ (by simp <;> omega) _) | (refine Below.setCell ?_ (by simp <;> omega) _))
end Go.Proofs.YtjjfeffmmkoooaaDoor
