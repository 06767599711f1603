/- The texts A,B,C of path, at this seat. -/
import Derived.Test.YtpnblfabdioanaaDoorEO
import Derived.Test.YtpnblfabdioanaaDoorChecked
import Derived.WalkKit
import Derived.WalkSpells
import Derived.WalkLawsBesides
import Derived.LoopN
import Derived.Outline
import Derived.BigQuiet
import Derived.Deep.RegionWith
import Derived.Deep.DeepCutAuto
import Derived.Shelf.SlSortCmp.QuietGrown
import Derived.KernelRfl
import Derived.Laws.ResultCell
namespace Go.Proofs.YtpnblfabdioanaaDoor.Px
open Go.RowKit Go.Lib Go.Sort
set_option linter.unusedVariables false
set_option linter.unusedSimpArgs false


abbrev path (i o : Int) (k : Bool) : Value := .agg #[.int .i64 i, .int .i64 o, .bool k]
/-- Can so many bytes have come, or been sent? -/
def byB (n : Int) : Bool := decide (0 ≤ n ∧ n ≤ 1073741823)
/-- Can a packet be so long? -/
def pkB (n : Int) : Bool := decide (0 ≤ n ∧ n ≤ 200)
/-- How many bytes in all may be sent. -/
def bnd (i : Int) : Bool → Int
  | true => 1073741823
  | false => if 3 * i < 1073741823 then 3 * i else 1073741823
/-- What is wrong with a path: the error's number, or 0. -/
def flt (i o : Int) (k : Bool) : Int := if byB i = true ∧ byB o = true then (if bnd i k < o then 3 else 0) else 1
/-- What is wrong with so many that came. -/
def cameF (i o : Int) (k : Bool) (n : Int) : Int := if flt i o k = 0 then (if pkB n = true ∧ byB (i + n) = true then 0 else 1) else flt i o k
/-- What is wrong with so many that are sent. -/
def sendF (i o : Int) (k : Bool) (n : Int) : Int := if flt i o k = 0 then (if pkB n = true ∧ byB (o + n) = true then (if bnd i k < o + n then 8 else 0) else 1) else flt i o k
/-- How many may be sent in one packet. -/
def rm (i o : Int) (k : Bool) : Int := if bnd i k - o < 200 then bnd i k - o else 200
theorem byB_yes {n : Int} (h : byB n = true) : 0 ≤ n ∧ n ≤ 1073741823 := of_decide_eq_true h
theorem byB_no {n : Int} (h : byB n = false) : n < 0 ∨ 1073741823 < n := by
  have : ¬ (0 ≤ n ∧ n ≤ 1073741823) := of_decide_eq_false h
  omega
theorem pkB_yes {n : Int} (h : pkB n = true) : 0 ≤ n ∧ n ≤ 200 := of_decide_eq_true h
theorem pkB_no {n : Int} (h : pkB n = false) : n < 0 ∨ 200 < n := by
  have : ¬ (0 ≤ n ∧ n ≤ 200) := of_decide_eq_false h
  omega
theorem bnd_le (i : Int) (k : Bool) : bnd i k ≤ 1073741823 := by
  cases k
  · show (if 3 * i < 1073741823 then 3 * i else 1073741823) ≤ (1073741823 : Int); split <;> omega
  · exact Int.le_refl _
theorem bnd_three (i : Int) : bnd i false ≤ 3 * i := by
  show (if 3 * i < 1073741823 then 3 * i else 1073741823) ≤ 3 * i; split <;> omega
theorem flt_zero {i o : Int} {k : Bool} (h : flt i o k = 0) : byB i = true ∧ byB o = true ∧ o ≤ bnd i k := by
  unfold flt at h
  split at h
  · rename_i hb
    split at h
    · omega
    · exact ⟨hb.1, hb.2, by omega⟩
  · omega
theorem flt_cases (i o : Int) (k : Bool) : flt i o k = 0 ∨ flt i o k = 1 ∨ flt i o k = 3 := by
  unfold flt
  split
  · split <;> simp
  · simp

set_option maxRecDepth 100000 in
set_option maxHeartbeats 2000000 in
theorem isBytes_calls (n : Int) (w : World) : Calls Tryd.prog 48 #[.int .i64 n] w fun e w' => e = .returned (.bool (byB n)) ∧ w' = w := by
  by_cases h1 : 0 ≤ n
  · by_cases h2 : n ≤ 1073741823
    · go_enter Tryd.func48, Tryd.ntmps48
      go_wp2
      go_ret
      exact ⟨by simp [byB, h1, h2], rfl⟩
    · go_enter Tryd.func48, Tryd.ntmps48
      go_wp2
      go_ret
      exact ⟨by simp [byB, h1, h2], rfl⟩
  · go_enter Tryd.func48, Tryd.ntmps48
    go_wp2
    go_ret
    exact ⟨by simp [byB] <;> omega, rfl⟩
set_option maxRecDepth 100000 in
set_option maxHeartbeats 2000000 in
theorem isPacket_calls (n : Int) (w : World) : Calls Tryd.prog 47 #[.int .i64 n] w fun e w' => e = .returned (.bool (pkB n)) ∧ w' = w := by
  by_cases h1 : 0 ≤ n
  · by_cases h2 : n ≤ 200
    · go_enter Tryd.func47, Tryd.ntmps47
      go_wp2
      go_ret
      exact ⟨by simp [pkB, h1, h2], rfl⟩
    · go_enter Tryd.func47, Tryd.ntmps47
      go_wp2
      go_ret
      exact ⟨by simp [pkB, h1, h2], rfl⟩
  · go_enter Tryd.func47, Tryd.ntmps47
    go_wp2
    go_ret
    exact ⟨by simp [pkB] <;> omega, rfl⟩
/-- A path in a block of its own. -/
abbrev put (w : World) (i o : Int) (k : Bool) : World := w.alloc (.cells #[.int .i64 i, .int .i64 o, .bool k] 47)
set_option maxRecDepth 100000 in
set_option maxHeartbeats 2000000 in
theorem bound_known (i o : Int) (w : World) : Calls Tryd.prog 53 #[path i o true] w fun e w' => e = .returned (.int .i64 (bnd i true)) ∧ w' = put w i o true := by
  go_enter Tryd.func53, Tryd.ntmps53
  go_wp2
  go_ret
  exact ⟨rfl, rfl⟩
set_option maxRecDepth 100000 in
set_option maxHeartbeats 2000000 in
theorem bound_less (i o : Int) (w : World) (h0 : 0 ≤ i) (h1 : i ≤ 1073741823) (h : 3 * i < 1073741823) : Calls Tryd.prog 53 #[path i o false] w fun e w' => e = .returned (.int .i64 (bnd i false)) ∧ w' = put w i o false := by
  rw [show bnd i false = 3 * i from if_pos h]
  go_enter Tryd.func53, Tryd.ntmps53
  go_wp2
  go_ret
  exact ⟨by simp <;> omega, rfl⟩
set_option maxRecDepth 100000 in
set_option maxHeartbeats 2000000 in
theorem bound_more (i o : Int) (w : World) (h0 : 0 ≤ i) (h1 : i ≤ 1073741823) (h : 1073741823 ≤ 3 * i) : Calls Tryd.prog 53 #[path i o false] w fun e w' => e = .returned (.int .i64 (bnd i false)) ∧ w' = put w i o false := by
  rw [show bnd i false = 1073741823 from if_neg (by omega)]
  go_enter Tryd.func53, Tryd.ntmps53
  go_wp2
  all_goals go_ret
  all_goals exact ⟨by simp <;> omega, rfl⟩
theorem bound_calls (i o : Int) (k : Bool) (w : World) (h : byB i = true) : Calls Tryd.prog 53 #[path i o k] w fun e w' => e = .returned (.int .i64 (bnd i k)) ∧ w' = put w i o k := by
  obtain ⟨h0, h1⟩ := byB_yes h
  cases k
  · by_cases h2 : 3 * i < 1073741823
    · exact bound_less i o w h0 h1 h2
    · exact bound_more i o w h0 h1 (by omega)
  · exact bound_known i o w

set_option maxRecDepth 100000 in
set_option maxHeartbeats 2000000 in
theorem check_in (i o : Int) (k : Bool) (w : World) (hi : byB i = true) (ho : byB o = true) (c : Bool) (hc : decide (bnd i k < o) = c) :
    Calls Tryd.prog 46 #[path i o k] w fun e w' => e = .returned (if c then .iface 72 (.int .i64 3) else .nilIface) ∧ Below w.heap.size w w' := by
  go_enter Tryd.func46, Tryd.ntmps46
  go_wp2_with fail
  refine (isBytes_calls i _).mono ?_
  rintro e w1 ⟨rfl, rfl⟩
  rw [hi]
  go_wp2_with fail
  refine (isBytes_calls o _).mono ?_
  rintro e w1 ⟨rfl, rfl⟩
  rw [ho]
  go_wp2_with fail
  go_cut [18] (fun s18 wx => s18 = .bool c ∧ Below w.heap.size w wx)
  case first =>
    go_region_with (go_at_call 53; refine (bound_calls i o k _ hi).mono ?_; rintro e w3 ⟨rfl, rfl⟩)
    all_goals (try go_wp2_with fail)
    all_goals go_meet
    all_goals exact ⟨by simp [← hc], by repeat (first | exact Below.refl _ _ | (refine Below.drew ?_) | (refine Below.alloc ?_ (by simp <;> omega) _))⟩
  case rest =>
    obtain ⟨rfl, hB⟩ := hcut
    cases c
    · go_wp2_with fail
      go_ret
      exact ⟨rfl, hB⟩
    · go_wp2_with fail
      go_ret
      exact ⟨rfl, hB⟩



/-- The block b holds a path, and may be written. -/
structure Box (w : World) (b : Nat) (i o : Int) (k : Bool) : Prop where
  lt : b < w.heap.size
  c0 : w.cell? ⟨b, 0, none⟩ = some (.int .i64 i)
  c1 : w.cell? ⟨b, 1, none⟩ = some (.int .i64 o)
  c2 : w.cell? ⟨b, 2, none⟩ = some (.bool k)
  f0 : w.frozen? ⟨b, 0, none⟩ = false
  f1 : w.frozen? ⟨b, 1, none⟩ = false
  f2 : w.frozen? ⟨b, 2, none⟩ = false
theorem frozen_below {w w' : World} {a : Addr} (hb : Below w.heap.size w w') (h : a.block < w.heap.size) : w'.frozen? a = w.frozen? a := by
  unfold World.frozen?; rw [hb.block _ h]
theorem Box.below {w w' : World} {b : Nat} {i o : Int} {k : Bool} (h : Box w b i o k) (hb : Below w.heap.size w w') : Box w' b i o k :=
  ⟨Nat.lt_of_lt_of_le h.lt hb.size, (hb.cell (p := ⟨b, 0, none⟩) h.lt).trans h.c0, (hb.cell (p := ⟨b, 1, none⟩) h.lt).trans h.c1, (hb.cell (p := ⟨b, 2, none⟩) h.lt).trans h.c2,
    (frozen_below hb h.lt).trans h.f0, (frozen_below hb h.lt).trans h.f1, (frozen_below hb h.lt).trans h.f2⟩
theorem Box.new (w : World) (i o : Int) (k : Bool) : Box (put w i o k) w.heap.size i o k :=
  ⟨by simp, by simp, by simp, by simp, by simp, by simp, by simp⟩
abbrev set3 (w : World) (b : Nat) (i o : Int) (k : Bool) : World := ((w.setCell ⟨b, 0, none⟩ (.int .i64 i)).setCell ⟨b, 1, none⟩ (.int .i64 o)).setCell ⟨b, 2, none⟩ (.bool k)
/-- A path is written into its box. -/
theorem Box.set {w : World} {b : Nat} {i o : Int} {k : Bool} (h : Box w b i o k) (i' o' : Int) (k' : Bool) : Box (set3 w b i' o' k') b i' o' k' := by
  have a0 : (w.setCell ⟨b, 0, none⟩ (.int .i64 i')).cell? ⟨b, 0, none⟩ = some (.int .i64 i') := World.cell?_setCell_same _ _ _ h.c0
  have a1 : (w.setCell ⟨b, 0, none⟩ (.int .i64 i')).cell? ⟨b, 1, none⟩ = some (.int .i64 o) := by rw [World.cell?_setCell_other _ _ _ _ (by simp)]; exact h.c1
  have a2 : (w.setCell ⟨b, 0, none⟩ (.int .i64 i')).cell? ⟨b, 2, none⟩ = some (.bool k) := by rw [World.cell?_setCell_other _ _ _ _ (by simp)]; exact h.c2
  have b2 : ((w.setCell ⟨b, 0, none⟩ (.int .i64 i')).setCell ⟨b, 1, none⟩ (.int .i64 o')).cell? ⟨b, 2, none⟩ = some (.bool k) := by rw [World.cell?_setCell_other _ _ _ _ (by simp)]; exact a2
  refine ⟨by simpa using h.lt, ?_, ?_, World.cell?_setCell_same _ _ _ b2, ?_, ?_, ?_⟩
  · rw [World.cell?_setCell_other _ _ _ _ (by simp), World.cell?_setCell_other _ _ _ _ (by simp)]; exact a0
  · rw [World.cell?_setCell_other _ _ _ _ (by simp)]; exact World.cell?_setCell_same _ _ _ a1
  · simpa using h.f0
  · simpa using h.f1
  · simpa using h.f2
theorem below_set3 {B : Nat} {w w' : World} {b : Nat} (h : Below B w w') (hb : B ≤ b) (i o : Int) (k : Bool) : Below B w (set3 w' b i o k) :=
  ((h.setCell hb _).setCell hb _).setCell hb _
theorem Box.set_far {w : World} {b q : Nat} {i o : Int} {k : Bool} (h : Box w b i o k) (hq : q ≠ b) (i' o' : Int) (k' : Bool) : Box (set3 w q i' o' k') b i o k := by
  have far : ∀ (u : World) (o : Nat) (y : Value) (a : Addr), a.block = b → (u.setCell ⟨q, o, none⟩ y).cell? a = u.cell? a := fun u o y a ha => World.cell?_setCell_other _ _ _ _ (by intro e; apply hq; rw [← ha, ← e])
  refine ⟨by simpa using h.lt, ?_, ?_, ?_, by simpa using h.f0, by simpa using h.f1, by simpa using h.f2⟩
  · rw [far _ _ _ _ rfl, far _ _ _ _ rfl, far _ _ _ _ rfl]; exact h.c0
  · rw [far _ _ _ _ rfl, far _ _ _ _ rfl, far _ _ _ _ rfl]; exact h.c1
  · rw [far _ _ _ _ rfl, far _ _ _ _ rfl, far _ _ _ _ rfl]; exact h.c2
/-- Two boxes made since w: the path that came in, and the one that is answered. -/
structure Pair (w W : World) (P Q : Nat) (i o : Int) (k : Bool) : Prop where
  p : Box W P i o k
  q : Box W Q 0 0 false
  bel : Below w.heap.size w W
  leP : w.heap.size ≤ P
  leQ : w.heap.size ≤ Q
  ne : P ≠ Q
  ne' : Q ≠ P
theorem Pair.below {w W W' : World} {P Q : Nat} {i o : Int} {k : Bool} (h : Pair w W P Q i o k) (hb : Below W.heap.size W W') : Pair w W' P Q i o k :=
  ⟨h.p.below hb, h.q.below hb, h.bel.trans (hb.mono h.bel.size), h.leP, h.leQ, h.ne, h.ne'⟩
theorem below_put (w : World) (i o : Int) (k : Bool) : Below w.heap.size w (put w i o k) := (Below.refl _ _).alloc (Nat.le_refl _) _
theorem pair_start (w : World) (i o : Int) (k : Bool) : Pair w (put (put w i o k) 0 0 false) w.heap.size (w.heap.size + 1) i o k := by
  have k2 := Box.new (put w i o k) 0 0 false
  rw [show (put w i o k).heap.size = w.heap.size + 1 by simp] at k2
  exact ⟨(Box.new w i o k).below (below_put _ _ _ _), k2, (below_put w i o k).trans ((below_put _ _ _ _).mono (by simp)), by omega, by omega, by omega, by omega⟩

set_option maxRecDepth 100000 in
set_option maxHeartbeats 2000000 in
theorem check_i (i o : Int) (k : Bool) (w : World) (hi : byB i = false) :
    Calls Tryd.prog 46 #[path i o k] w fun e w' => e = .returned (.iface 72 (.int .i64 1)) ∧ Below w.heap.size w w' := by
  go_enter Tryd.func46, Tryd.ntmps46
  go_wp2_with fail
  refine (isBytes_calls i _).mono ?_
  rintro e w1 ⟨rfl, rfl⟩
  rw [hi]
  go_wp2_with fail
  go_ret
  exact ⟨rfl, below_put _ _ _ _⟩
set_option maxRecDepth 100000 in
set_option maxHeartbeats 2000000 in
theorem check_o (i o : Int) (k : Bool) (w : World) (hi : byB i = true) (ho : byB o = false) :
    Calls Tryd.prog 46 #[path i o k] w fun e w' => e = .returned (.iface 72 (.int .i64 1)) ∧ Below w.heap.size w w' := by
  go_enter Tryd.func46, Tryd.ntmps46
  go_wp2_with fail
  refine (isBytes_calls i _).mono ?_
  rintro e w1 ⟨rfl, rfl⟩
  rw [hi]
  go_wp2_with fail
  refine (isBytes_calls o _).mono ?_
  rintro e w1 ⟨rfl, rfl⟩
  rw [ho]
  go_wp2_with fail
  go_ret
  exact ⟨rfl, below_put _ _ _ _⟩
theorem check_ok (i o : Int) (k : Bool) (w : World) (h : flt i o k = 0) : Calls Tryd.prog 46 #[path i o k] w fun e w' => e = .returned .nilIface ∧ Below w.heap.size w w' := by
  obtain ⟨hi, ho, hb⟩ := flt_zero h
  exact check_in i o k w hi ho false (decide_eq_false (by omega))
theorem check_no (i o : Int) (k : Bool) (f : Int) (w : World) (h : flt i o k = f) (h0 : f ≠ 0) : Calls Tryd.prog 46 #[path i o k] w fun e w' => e = .returned (.iface 72 (.int .i64 f)) ∧ Below w.heap.size w w' := by
  cases hi : byB i with
  | false => have e : f = 1 := by rw [← h]; simp [flt, hi]
             subst e; exact check_i i o k w hi
  | true => cases ho : byB o with
    | false => have e : f = 1 := by rw [← h]; simp [flt, ho]
               subst e; exact check_o i o k w hi ho
    | true => have e : bnd i k < o ∧ f = 3 := by
                simp [flt, hi, ho] at h
                split at h
                · exact ⟨by assumption, h.symm⟩
                · exact absurd h.symm h0
              obtain ⟨hb, rfl⟩ := e
              exact check_in i o k w hi ho true (decide_eq_true hb)

set_option maxRecDepth 100000 in
set_option maxHeartbeats 2000000 in
theorem came_f (i o : Int) (k : Bool) (n : Int) (w : World) (f : Int) (h : flt i o k = f) (h0 : f ≠ 0) : Calls Tryd.prog 29 #[path i o k, .int .i64 n] w fun e w' => e = .returned (.tuple #[path 0 0 false, .iface 72 (.int .i64 f)]) ∧ Below w.heap.size w w' := by
  go_enter Tryd.func29, Tryd.ntmps29
  go_wp2_with fail
  have hP := pair_start w i o k
  generalize w.heap.size = P at hP ⊢
  generalize P + 1 = Q at hP ⊢
  refine (check_no i o k f _ h h0).mono ?_
  rintro e w1 ⟨rfl, hb1⟩
  have hP := hP.below hb1
  clear hb1
  have hPc := hP
  obtain ⟨⟨pl, p0, p1, p2, pf0, pf1, pf2⟩, ⟨ql, q0, q1, q2, qf0, qf1, qf2⟩, hbel, hleP, hleQ, hne, hne'⟩ := hPc
  go_wp2_with fail
  (try simp only [Exit.inBlock, Exit.then])
  refine bodyPost_ret (v := .tuple #[path 0 0 false, .iface 72 (.int .i64 f)]) ?_ rfl ⟨rfl, ?_⟩
  · rw [results_cell_tmp rfl]; go_simp
  · repeat (first | exact hbel | (refine Below.alloc ?_ (by simp <;> omega) _) | (refine Below.setCell ?_ (by simp <;> omega) _))
set_option maxRecDepth 100000 in
set_option maxHeartbeats 2000000 in
theorem came_n (i o : Int) (k : Bool) (n : Int) (w : World) (h : flt i o k = 0) (hn : pkB n = false) : Calls Tryd.prog 29 #[path i o k, .int .i64 n] w fun e w' => e = .returned (.tuple #[path 0 0 false, .iface 72 (.int .i64 1)]) ∧ Below w.heap.size w w' := by
  obtain ⟨hi, ho, hbd⟩ := flt_zero h
  obtain ⟨i0, i1⟩ := byB_yes hi
  obtain ⟨o0, o1⟩ := byB_yes ho
  go_enter Tryd.func29, Tryd.ntmps29
  go_wp2_with fail
  have hP := pair_start w i o k
  generalize w.heap.size = P at hP ⊢
  generalize P + 1 = Q at hP ⊢
  refine (check_ok i o k _ h).mono ?_
  rintro e w1 ⟨rfl, hb1⟩
  have hP := hP.below hb1
  clear hb1
  have hPc := hP
  obtain ⟨⟨pl, p0, p1, p2, pf0, pf1, pf2⟩, ⟨ql, q0, q1, q2, qf0, qf1, qf2⟩, hbel, hleP, hleQ, hne, hne'⟩ := hPc
  go_wp2_with fail
  refine (isPacket_calls n _).mono ?_
  rintro e w2 ⟨rfl, rfl⟩
  rw [hn]
  go_wp2_with fail
  (try simp only [Exit.inBlock, Exit.then])
  refine bodyPost_ret (v := .tuple #[path 0 0 false, .iface 72 (.int .i64 1)]) ?_ rfl ⟨rfl, ?_⟩
  · rw [results_cell_tmp rfl]; go_simp
  · repeat (first | exact hbel | (refine Below.alloc ?_ (by simp <;> omega) _) | (refine Below.setCell ?_ (by simp <;> omega) _))
set_option maxRecDepth 100000 in
set_option maxHeartbeats 2000000 in
theorem came_s (i o : Int) (k : Bool) (n : Int) (w : World) (h : flt i o k = 0) (hn : pkB n = true) (hs : byB (i + n) = false) : Calls Tryd.prog 29 #[path i o k, .int .i64 n] w fun e w' => e = .returned (.tuple #[path 0 0 false, .iface 72 (.int .i64 1)]) ∧ Below w.heap.size w w' := by
  obtain ⟨hi, ho, hbd⟩ := flt_zero h
  obtain ⟨i0, i1⟩ := byB_yes hi
  obtain ⟨o0, o1⟩ := byB_yes ho
  obtain ⟨n0, n1⟩ := pkB_yes hn
  go_enter Tryd.func29, Tryd.ntmps29
  go_wp2_with fail
  have hP := pair_start w i o k
  generalize w.heap.size = P at hP ⊢
  generalize P + 1 = Q at hP ⊢
  refine (check_ok i o k _ h).mono ?_
  rintro e w1 ⟨rfl, hb1⟩
  have hP := hP.below hb1
  clear hb1
  have hPc := hP
  obtain ⟨⟨pl, p0, p1, p2, pf0, pf1, pf2⟩, ⟨ql, q0, q1, q2, qf0, qf1, qf2⟩, hbel, hleP, hleQ, hne, hne'⟩ := hPc
  go_wp2_with fail
  refine (isPacket_calls n _).mono ?_
  rintro e w2 ⟨rfl, rfl⟩
  rw [hn]
  go_wp2_with fail
  refine (isBytes_calls (i + n) _).mono ?_
  rintro e w2 ⟨rfl, rfl⟩
  rw [hs]
  go_wp2_with fail
  (try simp only [Exit.inBlock, Exit.then])
  refine bodyPost_ret (v := .tuple #[path 0 0 false, .iface 72 (.int .i64 1)]) ?_ rfl ⟨rfl, ?_⟩
  · rw [results_cell_tmp rfl]; go_simp
  · repeat (first | exact hbel | (refine Below.alloc ?_ (by simp <;> omega) _) | (refine Below.setCell ?_ (by simp <;> omega) _))
set_option maxRecDepth 100000 in
set_option maxHeartbeats 2000000 in
theorem came_ok (i o : Int) (k : Bool) (n : Int) (w : World) (h : flt i o k = 0) (hn : pkB n = true) (hs : byB (i + n) = true) : Calls Tryd.prog 29 #[path i o k, .int .i64 n] w fun e w' => e = .returned (.tuple #[path (i + n) o k, .nilIface]) ∧ Below w.heap.size w w' := by
  obtain ⟨hi, ho, hbd⟩ := flt_zero h
  obtain ⟨i0, i1⟩ := byB_yes hi
  obtain ⟨o0, o1⟩ := byB_yes ho
  obtain ⟨n0, n1⟩ := pkB_yes hn
  go_enter Tryd.func29, Tryd.ntmps29
  go_wp2_with fail
  have hP := pair_start w i o k
  generalize w.heap.size = P at hP ⊢
  generalize P + 1 = Q at hP ⊢
  refine (check_ok i o k _ h).mono ?_
  rintro e w1 ⟨rfl, hb1⟩
  have hP := hP.below hb1
  clear hb1
  have hPc := hP
  obtain ⟨⟨pl, p0, p1, p2, pf0, pf1, pf2⟩, ⟨ql, q0, q1, q2, qf0, qf1, qf2⟩, hbel, hleP, hleQ, hne, hne'⟩ := hPc
  go_wp2_with fail
  refine (isPacket_calls n _).mono ?_
  rintro e w2 ⟨rfl, rfl⟩
  rw [hn]
  go_wp2_with fail
  refine (isBytes_calls (i + n) _).mono ?_
  rintro e w2 ⟨rfl, rfl⟩
  rw [hs]
  go_wp2_with fail
  (try simp only [Exit.inBlock, Exit.then])
  refine bodyPost_ret (v := .tuple #[path (i + n) o k, .nilIface]) ?_ rfl ⟨rfl, ?_⟩
  · rw [results_cell_tmp rfl]; go_simp
  · repeat (first | exact hbel | (refine Below.alloc ?_ (by simp <;> omega) _) | (refine Below.setCell ?_ (by simp <;> omega) _))
set_option maxRecDepth 100000 in
set_option maxHeartbeats 2000000 in
theorem prove_f (i o : Int) (k : Bool) (w : World) (f : Int) (h : flt i o k = f) (h0 : f ≠ 0) : Calls Tryd.prog 36 #[path i o k] w fun e w' => e = .returned (.tuple #[path 0 0 false, .iface 72 (.int .i64 f)]) ∧ Below w.heap.size w w' := by
  go_enter Tryd.func36, Tryd.ntmps36
  go_wp2_with fail
  have hP := pair_start w i o k
  generalize w.heap.size = P at hP ⊢
  generalize P + 1 = Q at hP ⊢
  refine (check_no i o k f _ h h0).mono ?_
  rintro e w1 ⟨rfl, hb1⟩
  have hP := hP.below hb1
  clear hb1
  have hPc := hP
  obtain ⟨⟨pl, p0, p1, p2, pf0, pf1, pf2⟩, ⟨ql, q0, q1, q2, qf0, qf1, qf2⟩, hbel, hleP, hleQ, hne, hne'⟩ := hPc
  go_wp2_with fail
  (try simp only [Exit.inBlock, Exit.then])
  refine bodyPost_ret (v := .tuple #[path 0 0 false, .iface 72 (.int .i64 f)]) ?_ rfl ⟨rfl, ?_⟩
  · rw [results_cell_tmp rfl]; go_simp
  · repeat (first | exact hbel | (refine Below.alloc ?_ (by simp <;> omega) _) | (refine Below.setCell ?_ (by simp <;> omega) _))
set_option maxRecDepth 100000 in
set_option maxHeartbeats 2000000 in
theorem prove_0 (o : Int) (k : Bool) (w : World) (h : flt 0 o k = 0) : Calls Tryd.prog 36 #[path 0 o k] w fun e w' => e = .returned (.tuple #[path 0 0 false, .iface 72 (.int .i64 5)]) ∧ Below w.heap.size w w' := by
  go_enter Tryd.func36, Tryd.ntmps36
  go_wp2_with fail
  have hP := pair_start w 0 o k
  generalize w.heap.size = P at hP ⊢
  generalize P + 1 = Q at hP ⊢
  refine (check_ok 0 o k _ h).mono ?_
  rintro e w1 ⟨rfl, hb1⟩
  have hP := hP.below hb1
  clear hb1
  have hPc := hP
  obtain ⟨⟨pl, p0, p1, p2, pf0, pf1, pf2⟩, ⟨ql, q0, q1, q2, qf0, qf1, qf2⟩, hbel, hleP, hleQ, hne, hne'⟩ := hPc
  go_wp2_with fail
  (try simp only [Exit.inBlock, Exit.then])
  refine bodyPost_ret (v := .tuple #[path 0 0 false, .iface 72 (.int .i64 5)]) ?_ rfl ⟨rfl, ?_⟩
  · rw [results_cell_tmp rfl]; go_simp
  · repeat (first | exact hbel | (refine Below.alloc ?_ (by simp <;> omega) _) | (refine Below.setCell ?_ (by simp <;> omega) _))
set_option maxRecDepth 100000 in
set_option maxHeartbeats 2000000 in
theorem prove_ok (i o : Int) (k : Bool) (w : World) (h : flt i o k = 0) (hz : i ≠ 0) : Calls Tryd.prog 36 #[path i o k] w fun e w' => e = .returned (.tuple #[path i o true, .nilIface]) ∧ Below w.heap.size w w' := by
  go_enter Tryd.func36, Tryd.ntmps36
  go_wp2_with fail
  have hP := pair_start w i o k
  generalize w.heap.size = P at hP ⊢
  generalize P + 1 = Q at hP ⊢
  refine (check_ok i o k _ h).mono ?_
  rintro e w1 ⟨rfl, hb1⟩
  have hP := hP.below hb1
  clear hb1
  have hPc := hP
  obtain ⟨⟨pl, p0, p1, p2, pf0, pf1, pf2⟩, ⟨ql, q0, q1, q2, qf0, qf1, qf2⟩, hbel, hleP, hleQ, hne, hne'⟩ := hPc
  go_wp2_with fail
  (try simp only [Exit.inBlock, Exit.then])
  refine bodyPost_ret (v := .tuple #[path i o true, .nilIface]) ?_ rfl ⟨rfl, ?_⟩
  · rw [results_cell_tmp rfl]; go_simp
  · repeat (first | exact hbel | (refine Below.alloc ?_ (by simp <;> omega) _) | (refine Below.setCell ?_ (by simp <;> omega) _))



theorem wrap_small (x : Int) (h0 : -4000000000 ≤ x) (h1 : x ≤ 4000000000) : IntKind.i64.wrap x = x := by simp [IntKind.wrap, IntKind.bits, IntKind.signed]; omega

set_option maxRecDepth 100000 in
set_option maxHeartbeats 2000000 in
theorem send_f (i o : Int) (k : Bool) (n : Int) (w : World) (f : Int) (h : flt i o k = f) (h0 : f ≠ 0) : Calls Tryd.prog 40 #[path i o k, .int .i64 n] w fun e w' => e = .returned (.tuple #[path 0 0 false, .iface 72 (.int .i64 f)]) ∧ Below w.heap.size w w' := by
  go_enter Tryd.func40, Tryd.ntmps40
  go_wp2_with fail
  have hP := pair_start w i o k
  generalize w.heap.size = P at hP ⊢
  generalize P + 1 = Q at hP ⊢
  refine (check_no i o k f _ h h0).mono ?_
  rintro e w1 ⟨rfl, hb1⟩
  have hP := hP.below hb1
  clear hb1
  have hPc := hP
  obtain ⟨⟨pl, p0, p1, p2, pf0, pf1, pf2⟩, ⟨ql, q0, q1, q2, qf0, qf1, qf2⟩, hbel, hleP, hleQ, hne, hne'⟩ := hPc
  go_wp2_with fail
  (try simp only [Exit.inBlock, Exit.then])
  refine bodyPost_ret (v := .tuple #[path 0 0 false, .iface 72 (.int .i64 f)]) ?_ rfl ⟨rfl, ?_⟩
  · rw [results_cell_tmp rfl]; go_simp
  · repeat (first | exact hbel | (refine Below.alloc ?_ (by simp <;> omega) _) | (refine Below.setCell ?_ (by simp <;> omega) _))
set_option maxRecDepth 100000 in
set_option maxHeartbeats 2000000 in
theorem send_n (i o : Int) (k : Bool) (n : Int) (w : World) (h : flt i o k = 0) (hn : pkB n = false) : Calls Tryd.prog 40 #[path i o k, .int .i64 n] w fun e w' => e = .returned (.tuple #[path 0 0 false, .iface 72 (.int .i64 1)]) ∧ Below w.heap.size w w' := by
  obtain ⟨hi, ho, hbd⟩ := flt_zero h
  obtain ⟨i0, i1⟩ := byB_yes hi
  obtain ⟨o0, o1⟩ := byB_yes ho
  go_enter Tryd.func40, Tryd.ntmps40
  go_wp2_with fail
  have hP := pair_start w i o k
  generalize w.heap.size = P at hP ⊢
  generalize P + 1 = Q at hP ⊢
  refine (check_ok i o k _ h).mono ?_
  rintro e w1 ⟨rfl, hb1⟩
  have hP := hP.below hb1
  clear hb1
  have hPc := hP
  obtain ⟨⟨pl, p0, p1, p2, pf0, pf1, pf2⟩, ⟨ql, q0, q1, q2, qf0, qf1, qf2⟩, hbel, hleP, hleQ, hne, hne'⟩ := hPc
  go_wp2_with fail
  refine (isPacket_calls n _).mono ?_
  rintro e w2 ⟨rfl, rfl⟩
  rw [hn]
  go_wp2_with fail
  (try simp only [Exit.inBlock, Exit.then])
  refine bodyPost_ret (v := .tuple #[path 0 0 false, .iface 72 (.int .i64 1)]) ?_ rfl ⟨rfl, ?_⟩
  · rw [results_cell_tmp rfl]; go_simp
  · repeat (first | exact hbel | (refine Below.alloc ?_ (by simp <;> omega) _) | (refine Below.setCell ?_ (by simp <;> omega) _))
set_option maxRecDepth 100000 in
set_option maxHeartbeats 2000000 in
theorem send_s (i o : Int) (k : Bool) (n : Int) (w : World) (h : flt i o k = 0) (hn : pkB n = true) (hs : byB (o + n) = false) : Calls Tryd.prog 40 #[path i o k, .int .i64 n] w fun e w' => e = .returned (.tuple #[path 0 0 false, .iface 72 (.int .i64 1)]) ∧ Below w.heap.size w w' := by
  obtain ⟨hi, ho, hbd⟩ := flt_zero h
  obtain ⟨i0, i1⟩ := byB_yes hi
  obtain ⟨o0, o1⟩ := byB_yes ho
  obtain ⟨n0, n1⟩ := pkB_yes hn
  go_enter Tryd.func40, Tryd.ntmps40
  go_wp2_with fail
  have hP := pair_start w i o k
  generalize w.heap.size = P at hP ⊢
  generalize P + 1 = Q at hP ⊢
  refine (check_ok i o k _ h).mono ?_
  rintro e w1 ⟨rfl, hb1⟩
  have hP := hP.below hb1
  clear hb1
  have hPc := hP
  obtain ⟨⟨pl, p0, p1, p2, pf0, pf1, pf2⟩, ⟨ql, q0, q1, q2, qf0, qf1, qf2⟩, hbel, hleP, hleQ, hne, hne'⟩ := hPc
  go_wp2_with fail
  refine (isPacket_calls n _).mono ?_
  rintro e w2 ⟨rfl, rfl⟩
  rw [hn]
  go_wp2_with fail
  refine (isBytes_calls (o + n) _).mono ?_
  rintro e w2 ⟨rfl, rfl⟩
  rw [hs]
  go_wp2_with fail
  (try simp only [Exit.inBlock, Exit.then])
  refine bodyPost_ret (v := .tuple #[path 0 0 false, .iface 72 (.int .i64 1)]) ?_ rfl ⟨rfl, ?_⟩
  · rw [results_cell_tmp rfl]; go_simp
  · repeat (first | exact hbel | (refine Below.alloc ?_ (by simp <;> omega) _) | (refine Below.setCell ?_ (by simp <;> omega) _))
set_option maxRecDepth 100000 in
set_option maxHeartbeats 2000000 in
theorem send_w (i o : Int) (k : Bool) (n : Int) (w : World) (h : flt i o k = 0) (hn : pkB n = true) (hs : byB (o + n) = true) (hw : bnd i k < o + n) : Calls Tryd.prog 40 #[path i o k, .int .i64 n] w fun e w' => e = .returned (.tuple #[path 0 0 false, .iface 72 (.int .i64 8)]) ∧ Below w.heap.size w w' := by
  obtain ⟨hi, ho, hbd⟩ := flt_zero h
  obtain ⟨i0, i1⟩ := byB_yes hi
  obtain ⟨o0, o1⟩ := byB_yes ho
  obtain ⟨n0, n1⟩ := pkB_yes hn
  go_enter Tryd.func40, Tryd.ntmps40
  go_wp2_with fail
  have hP := pair_start w i o k
  generalize w.heap.size = P at hP ⊢
  generalize P + 1 = Q at hP ⊢
  refine (check_ok i o k _ h).mono ?_
  rintro e w1 ⟨rfl, hb1⟩
  have hP := hP.below hb1
  clear hb1
  have hPc := hP
  obtain ⟨⟨pl, p0, p1, p2, pf0, pf1, pf2⟩, ⟨ql, q0, q1, q2, qf0, qf1, qf2⟩, hbel, hleP, hleQ, hne, hne'⟩ := hPc
  go_wp2_with fail
  refine (isPacket_calls n _).mono ?_
  rintro e w2 ⟨rfl, rfl⟩
  rw [hn]
  go_wp2_with fail
  refine (isBytes_calls (o + n) _).mono ?_
  rintro e w2 ⟨rfl, rfl⟩
  rw [hs]
  go_wp2_with fail
  have hP2 := hP.below (below_put w2 i o k)
  have hPc := hP2
  obtain ⟨⟨pl', p0', p1', p2', pf0', pf1', pf2'⟩, _⟩ := hPc
  have hwr : IntKind.i64.wrap (o + n) = o + n := wrap_small _ (by omega) (by omega)
  go_cut [32] (fun s32 wx => s32 = .bool true ∧ ∃ W, wx = W.drew ∧ Pair w W P Q i o k)
  case first =>
    go_region_with (go_at_call 53; refine (bound_calls i o k _ hi).mono ?_; rintro e w3 ⟨rfl, rfl⟩)
    all_goals (try go_wp2_with fail)
    all_goals go_meet
    all_goals exact ⟨by simp <;> omega, _, rfl, hP2⟩
  case rest =>
  obtain ⟨rfl, W, rfl, hP3⟩ := hcut
  clear pl p0 p1 p2 pf0 pf1 pf2 ql q0 q1 q2 qf0 qf1 qf2 hbel hleP hleQ hne hne' pl' p0' p1' p2' pf0' pf1' pf2' hP hP2
  have hP := hP3
  clear hP3
  have hPc := hP
  obtain ⟨⟨pl, p0, p1, p2, pf0, pf1, pf2⟩, ⟨ql, q0, q1, q2, qf0, qf1, qf2⟩, hbel, hleP, hleQ, hne, hne'⟩ := hPc
  go_wp2_with fail
  (try simp only [Exit.inBlock, Exit.then])
  refine bodyPost_ret (v := .tuple #[path 0 0 false, .iface 72 (.int .i64 8)]) ?_ rfl ⟨rfl, ?_⟩
  · rw [results_cell_tmp rfl]; go_simp
  · repeat (first | (refine Below.drew ?_) | exact hbel | (refine Below.alloc ?_ (by simp <;> omega) _) | (refine Below.setCell ?_ (by simp <;> omega) _))
set_option maxRecDepth 100000 in
set_option maxHeartbeats 2000000 in
theorem send_ok (i o : Int) (k : Bool) (n : Int) (w : World) (h : flt i o k = 0) (hn : pkB n = true) (hs : byB (o + n) = true) (hw : o + n ≤ bnd i k) : Calls Tryd.prog 40 #[path i o k, .int .i64 n] w fun e w' => e = .returned (.tuple #[path i (o + n) k, .nilIface]) ∧ Below w.heap.size w w' := by
  obtain ⟨hi, ho, hbd⟩ := flt_zero h
  obtain ⟨i0, i1⟩ := byB_yes hi
  obtain ⟨o0, o1⟩ := byB_yes ho
  obtain ⟨n0, n1⟩ := pkB_yes hn
  go_enter Tryd.func40, Tryd.ntmps40
  go_wp2_with fail
  have hP := pair_start w i o k
  generalize w.heap.size = P at hP ⊢
  generalize P + 1 = Q at hP ⊢
  refine (check_ok i o k _ h).mono ?_
  rintro e w1 ⟨rfl, hb1⟩
  have hP := hP.below hb1
  clear hb1
  have hPc := hP
  obtain ⟨⟨pl, p0, p1, p2, pf0, pf1, pf2⟩, ⟨ql, q0, q1, q2, qf0, qf1, qf2⟩, hbel, hleP, hleQ, hne, hne'⟩ := hPc
  go_wp2_with fail
  refine (isPacket_calls n _).mono ?_
  rintro e w2 ⟨rfl, rfl⟩
  rw [hn]
  go_wp2_with fail
  refine (isBytes_calls (o + n) _).mono ?_
  rintro e w2 ⟨rfl, rfl⟩
  rw [hs]
  go_wp2_with fail
  have hP2 := hP.below (below_put w2 i o k)
  have hPc := hP2
  obtain ⟨⟨pl', p0', p1', p2', pf0', pf1', pf2'⟩, _⟩ := hPc
  have hwr : IntKind.i64.wrap (o + n) = o + n := wrap_small _ (by omega) (by omega)
  go_cut [32] (fun s32 wx => s32 = .bool false ∧ ∃ W, wx = W.drew ∧ Pair w W P Q i o k)
  case first =>
    go_region_with (go_at_call 53; refine (bound_calls i o k _ hi).mono ?_; rintro e w3 ⟨rfl, rfl⟩)
    all_goals (try go_wp2_with fail)
    all_goals go_meet
    all_goals exact ⟨by simp <;> omega, _, rfl, hP2⟩
  case rest =>
  obtain ⟨rfl, W, rfl, hP3⟩ := hcut
  clear pl p0 p1 p2 pf0 pf1 pf2 ql q0 q1 q2 qf0 qf1 qf2 hbel hleP hleQ hne hne' pl' p0' p1' p2' pf0' pf1' pf2' hP hP2
  have hP := hP3
  clear hP3
  have hPc := hP
  obtain ⟨⟨pl, p0, p1, p2, pf0, pf1, pf2⟩, ⟨ql, q0, q1, q2, qf0, qf1, qf2⟩, hbel, hleP, hleQ, hne, hne'⟩ := hPc
  go_wp2_with fail
  (try simp only [Exit.inBlock, Exit.then])
  refine bodyPost_ret (v := .tuple #[path i (o + n) k, .nilIface]) ?_ rfl ⟨rfl, ?_⟩
  · rw [results_cell_tmp rfl]; go_simp
  · repeat (first | (refine Below.drew ?_) | exact hbel | (refine Below.alloc ?_ (by simp <;> omega) _) | (refine Below.setCell ?_ (by simp <;> omega) _))
theorem check_calls (i o : Int) (k : Bool) (w : World) : Calls Tryd.prog 46 #[path i o k] w fun e w' => e = .returned (errV (flt i o k)) ∧ Below w.heap.size w w' := by
  by_cases h : flt i o k = 0
  · rw [h]; exact check_ok i o k w h
  · rw [errV_f h]; exact check_no i o k _ w rfl h
/-- What came is answered: the path. -/
def cameI (i o : Int) (k : Bool) (n : Int) : Int := if cameF i o k n = 0 then i + n else 0
def cameO (i o : Int) (k : Bool) (n : Int) : Int := if cameF i o k n = 0 then o else 0
def cameK (i o : Int) (k : Bool) (n : Int) : Bool := if cameF i o k n = 0 then k else false
def sendI (i o : Int) (k : Bool) (n : Int) : Int := if sendF i o k n = 0 then i else 0
def sendO (i o : Int) (k : Bool) (n : Int) : Int := if sendF i o k n = 0 then o + n else 0
def sendK (i o : Int) (k : Bool) (n : Int) : Bool := if sendF i o k n = 0 then k else false
abbrev cameP (i o : Int) (k : Bool) (n : Int) : Value := path (cameI i o k n) (cameO i o k n) (cameK i o k n)
abbrev sendP (i o : Int) (k : Bool) (n : Int) : Value := path (sendI i o k n) (sendO i o k n) (sendK i o k n)
theorem cameP_ok {i o : Int} {k : Bool} {n : Int} (h : cameF i o k n = 0) : cameP i o k n = path (i + n) o k := by simp [cameP, cameI, cameO, cameK, h]
theorem cameP_no {i o : Int} {k : Bool} {n : Int} (h : cameF i o k n ≠ 0) : cameP i o k n = path 0 0 false := by simp [cameP, cameI, cameO, cameK, h]
theorem sendP_ok {i o : Int} {k : Bool} {n : Int} (h : sendF i o k n = 0) : sendP i o k n = path i (o + n) k := by simp [sendP, sendI, sendO, sendK, h]
theorem sendP_no {i o : Int} {k : Bool} {n : Int} (h : sendF i o k n ≠ 0) : sendP i o k n = path 0 0 false := by simp [sendP, sendI, sendO, sendK, h]
theorem came_calls (i o : Int) (k : Bool) (n : Int) (w : World) : Calls Tryd.prog 29 #[path i o k, .int .i64 n] w fun e w' => e = .returned (.tuple #[cameP i o k n, errV (cameF i o k n)]) ∧ Below w.heap.size w w' := by
  by_cases h : flt i o k = 0
  · cases hn : pkB n with
    | false => have e : cameF i o k n = 1 := by simp [cameF, h, hn]
               rw [cameP_no (by omega), e]; exact came_n i o k n w h hn
    | true => cases hs : byB (i + n) with
      | false => have e : cameF i o k n = 1 := by simp [cameF, h, hs]
                 rw [cameP_no (by omega), e]; exact came_s i o k n w h hn hs
      | true => have e : cameF i o k n = 0 := by simp [cameF, h, hn, hs]
                rw [cameP_ok e, e]; exact came_ok i o k n w h hn hs
  · have e : cameF i o k n = flt i o k := by simp [cameF, h]
    rw [cameP_no (by omega), e, errV_f h]; exact came_f i o k n w _ rfl h
theorem send_calls (i o : Int) (k : Bool) (n : Int) (w : World) : Calls Tryd.prog 40 #[path i o k, .int .i64 n] w fun e w' => e = .returned (.tuple #[sendP i o k n, errV (sendF i o k n)]) ∧ Below w.heap.size w w' := by
  by_cases h : flt i o k = 0
  · cases hn : pkB n with
    | false => have e : sendF i o k n = 1 := by simp [sendF, h, hn]
               rw [sendP_no (by omega), e]; exact send_n i o k n w h hn
    | true => cases hs : byB (o + n) with
      | false => have e : sendF i o k n = 1 := by simp [sendF, h, hs]
                 rw [sendP_no (by omega), e]; exact send_s i o k n w h hn hs
      | true =>
        by_cases hw : bnd i k < o + n
        · have e : sendF i o k n = 8 := by simp [sendF, h, hn, hs, hw]
          rw [sendP_no (by omega), e]; exact send_w i o k n w h hn hs hw
        · have e : sendF i o k n = 0 := by simp [sendF, h, hn, hs, hw]
          rw [sendP_ok e, e]; exact send_ok i o k n w h hn hs (by omega)
  · have e : sendF i o k n = flt i o k := by simp [sendF, h]
    rw [sendP_no (by omega), e, errV_f h]; exact send_f i o k n w _ rfl h
end Go.Proofs.YtpnblfabdioanaaDoor.Px
