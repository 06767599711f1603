/- What the laws of package run need. -/
import Derived.Test.YtdokgalidhmbbaaGreatDoorHO
import Derived.Laws.BytesArg
import Derived.Deep.LoopGhost
import Derived.Deep.DeepCutAuto
set_option linter.unusedVariables false
set_option linter.unusedSimpArgs false
set_option maxRecDepth 100000
set_option maxHeartbeats 8000000
namespace Go.Proofs.YtdokgalidhmbbaaGreatDoor.Sx
open Go.RowKit Go.Lib Go.Sort


/-- The byte at each place, whether one came there, and how many were taken. -/
structure St where
  byt : Nat → Int
  cm : Nat → Bool
  tk : Nat
def bat (d : ByteArray) (i : Nat) : Int := ((d.data[i]?.getD 0).toNat : Int)
theorem bat_range (d : ByteArray) (i : Nat) : 0 ≤ bat d i ∧ bat d i ≤ 255 := by
  have := (d.data[i]?.getD 0).toNat_lt
  unfold bat
  omega
theorem bat_get {d : ByteArray} {i : Nat} (h : i < d.size) : ((d[i].toNat : Nat) : Int) = bat d i := by
  have h' : i < d.data.size := h
  rw [bat, Array.getElem?_eq_getElem h']
  rfl
def newS : St := ⟨fun _ => 0, fun _ => false, 0⟩
def placeB (n : Int) : Bool := decide (0 ≤ n ∧ n ≤ 60)
def cl (s : St) (a : Nat) (d : ByteArray) (i : Nat) : Bool := s.cm (a + i) && (s.byt (a + i) != bat d i)
def clB (s : St) (a : Nat) (d : ByteArray) : Bool := (List.range d.size).any (cl s a d)
theorem clB_yes {s : St} {a : Nat} {d : ByteArray} {i : Nat} (hi : i < d.size) (h : cl s a d i = true) : clB s a d = true :=
  List.any_eq_true.2 ⟨i, by simpa using hi, h⟩
theorem clB_no {s : St} {a : Nat} {d : ByteArray} (h : ∀ i, i < d.size → cl s a d i = false) : clB s a d = false := by
  refine List.any_eq_false.2 fun i hi => ?_
  rw [h i (by simpa using hi)]
  simp
/-- The first n bytes of d came from the place a on. -/
def upS (s : St) (a : Nat) (d : ByteArray) (n : Nat) : St := ⟨fun j => if a ≤ j ∧ j < a + n then bat d (j - a) else s.byt j, fun j => decide (a ≤ j ∧ j < a + n) || s.cm j, s.tk⟩
theorem upS_zero (s : St) (a : Nat) (d : ByteArray) : upS s a d 0 = s := by
  have e : ∀ j, ¬ (a ≤ j ∧ j < a + 0) := fun j => by omega
  cases s
  simp only [upS, e, if_false, decide_false, Bool.false_or]
theorem upS_byt (s : St) (a : Nat) (d : ByteArray) (n : Nat) : (upS s a d (n + 1)).byt = fun j => if j = a + n then bat d n else (upS s a d n).byt j := by
  funext j
  simp only [upS]
  by_cases h : j = a + n
  · subst h
    rw [if_pos (by omega), if_pos rfl]
    congr 1; omega
  · rw [if_neg h]
    by_cases h2 : a ≤ j ∧ j < a + n
    · rw [if_pos (by omega), if_pos h2]
    · rw [if_neg (by omega), if_neg h2]
theorem upS_cm (s : St) (a : Nat) (d : ByteArray) (n : Nat) : (upS s a d (n + 1)).cm = fun j => if j = a + n then true else (upS s a d n).cm j := by
  funext j
  simp only [upS]
  by_cases h : j = a + n
  · rw [if_pos h]
    have : a ≤ j ∧ j < a + (n + 1) := by omega
    simp [this]
  · rw [if_neg h]
    have : (a ≤ j ∧ j < a + (n + 1)) ↔ (a ≤ j ∧ j < a + n) := by omega
    simp [this]
def putF (s : St) (p : Int) (d : ByteArray) : Int := if placeB p = false then 1 else if 60 < p + (d.size : Int) then 4 else if clB s p.toNat d = true then 7 else 0
def putS (s : St) (p : Int) (d : ByteArray) : St := if putF s p d = 0 then upS s p.toNat d d.size else s
theorem putF_range {s : St} {p : Int} {d : ByteArray} (h : placeB p = false) : putF s p d = 1 := if_pos h
theorem putF_full {s : St} {p : Int} {d : ByteArray} (h : placeB p = true) (h2 : 60 < p + (d.size : Int)) : putF s p d = 4 := by simp [putF, h, h2]
theorem putF_clash {s : St} {p : Int} {d : ByteArray} (h : placeB p = true) (h2 : p + (d.size : Int) ≤ 60) (h3 : clB s p.toNat d = true) : putF s p d = 7 := by
  have : ¬ 60 < p + (d.size : Int) := by omega
  simp [putF, h, this, h3]
theorem putF_yes {s : St} {p : Int} {d : ByteArray} (h : placeB p = true) (h2 : p + (d.size : Int) ≤ 60) (h3 : clB s p.toNat d = false) : putF s p d = 0 := by
  have : ¬ 60 < p + (d.size : Int) := by omega
  simp [putF, h, this, h3]
theorem putS_yes {s : St} {p : Int} {d : ByteArray} (h : putF s p d = 0) : putS s p d = upS s p.toNat d d.size := if_pos h
theorem putS_no {s : St} {p : Int} {d : ByteArray} (h : putF s p d ≠ 0) : putS s p d = s := if_neg h
structure Inv (s : St) : Prop where
  t : s.tk ≤ 60
  b : ∀ i, 0 ≤ s.byt i ∧ s.byt i ≤ 255
theorem Inv.new : Inv newS := ⟨by simp [newS], fun i => by simp [newS]⟩
theorem Inv.up {s : St} (h : Inv s) (a : Nat) (d : ByteArray) (n : Nat) : Inv (upS s a d n) := by
  refine ⟨h.t, fun i => ?_⟩
  simp only [upS]
  split
  · exact bat_range _ _
  · exact h.b i
theorem Inv.put {s : St} (h : Inv s) (p : Int) (d : ByteArray) : Inv (putS s p d) := by
  unfold putS
  split
  · exact h.up _ _ _
  · exact h
/-- How many came one behind the other from the place t on, of k. -/
def run (cm : Nat → Bool) (t : Nat) : Nat → Nat
  | 0 => 0
  | k + 1 => if cm t then 1 + run cm (t + 1) k else 0
theorem run_stop (cm : Nat → Bool) : ∀ (k t n : Nat), (∀ i, i < n → cm (t + i) = true) → n < k → cm (t + n) = false → run cm t k = n
  | 0, t, n, _, h, _ => by omega
  | k + 1, t, 0, _, _, h => by simp [run, show cm t = false from h]
  | k + 1, t, n + 1, h1, h2, h3 => by
    have := run_stop cm k (t + 1) n (fun i hi => by have := h1 (i + 1) (by omega); rwa [show t + (i + 1) = t + 1 + i by omega] at this) (by omega) (by rwa [show t + (n + 1) = t + 1 + n by omega] at h3)
    have h0 : cm t = true := h1 0 (by omega)
    simp [run, h0, this]
    omega
theorem run_all (cm : Nat → Bool) : ∀ (k t : Nat), (∀ i, i < k → cm (t + i) = true) → run cm t k = k
  | 0, t, _ => rfl
  | k + 1, t, h => by
    have := run_all cm k (t + 1) (fun i hi => by have := h (i + 1) (by omega); rwa [show t + (i + 1) = t + 1 + i by omega] at this)
    have h0 : cm t = true := h 0 (by omega)
    simp [run, h0, this]
    omega
theorem run_le (cm : Nat → Bool) : ∀ (k t : Nat), run cm t k ≤ k
  | 0, t => Nat.le_refl _
  | k + 1, t => by
    have := run_le cm k (t + 1)
    simp only [run]
    split <;> omega
def rdy (s : St) : Nat := run s.cm s.tk (60 - s.tk)
theorem rdy_le (s : St) : rdy s ≤ 60 - s.tk := run_le _ _ _
def takeN (s : St) (n : Int) : Nat := min n.toNat (rdy s)
def takeL (s : St) (n : Int) : List Int := (List.range (takeN s n)).map fun i => s.byt (s.tk + i)
def takeS (s : St) (n : Int) : St := ⟨s.byt, s.cm, s.tk + takeN s n⟩
theorem takeN_le (s : St) (n : Int) : takeN s n ≤ 60 - s.tk := Nat.le_trans (Nat.min_le_right _ _) (rdy_le s)
theorem Inv.take {s : St} (h : Inv s) (n : Int) : Inv (takeS s n) := ⟨by have := takeN_le s n; have := h.t; show s.tk + takeN s n ≤ 60; omega, h.b⟩

theorem wrap_small (n : Int) (h0 : -10000000000 ≤ n) (h1 : n ≤ 10000000000) : IntKind.i64.wrap n = n := by simp [IntKind.wrap, IntKind.bits, IntKind.signed]; omega
theorem index_at {d : ByteArray} {k : Nat} (h : k < d.size) (w : World) : (Instr.index 9 (.string d) (.int .i64 (k : Int))).run Tryz.prog w = .ok (.int .u8 (bat d k)) w := by
  rw [run_index_string w 9 d .i64 k (by kernel_rfl), dif_pos (by omega)]
  simp only [Int.toNat_natCast]
  rw [bat_get h]
theorem cell_next {w : World} {a b : Addr} {u v : Value} (h : w.cell? a = some v) (e : a.off ≠ b.off) : (w.setCell b u).cell? a = some v := by
  rw [World.cell?_setCell_other _ _ _ _ (by intro e'; subst e'; exact e rfl)]; exact h
/-- The program's stream, in the block sb, not below the block B. -/
structure Obj (w : World) (B sb : Nat) (s : St) : Prop where
  inv : Inv s
  cb : ∀ i, i < 60 → w.cell? ⟨sb, i, none⟩ = some (.int .u8 (s.byt i))
  cc : ∀ i, i < 60 → w.cell? ⟨sb, 60 + i, none⟩ = some (.bool (s.cm i))
  ct : w.cell? ⟨sb, 120, none⟩ = some (.int .i64 s.tk)
  fz : ∀ i, i < 121 → w.frozen? ⟨sb, i, none⟩ = false
  hs : B ≤ sb
section
variable {w w' : World} {B sb : Nat} {s : St}
theorem Obj.lt (h : Obj w B sb s) : sb < w.heap.size := World.block_lt_of_cell? w _ h.ct
theorem Obj.le (h : Obj w B sb s) : B ≤ w.heap.size := by have := h.hs; have := h.lt; omega
theorem Obj.off {K : Nat → Prop} (h : Obj w B sb s) (ho : Off K w w') (hK : ¬ K sb) : Obj w' B sb s :=
  ⟨h.inv, fun i hi => ho.cell (h.cb i hi) hK, fun i hi => ho.cell (h.cc i hi) hK, ho.cell h.ct hK, fun i hi => (ho.frozen (p := ⟨sb, i, none⟩) h.lt hK).trans (h.fz i hi), h.hs⟩
theorem Obj.below (h : Obj w B sb s) (hb : Below w.heap.size w w') : Obj w' B sb s := h.off (Off.of_below (K := fun _ => False) hb) id
/-- So many more were taken. -/
theorem Obj.take (h : Obj w B sb s) {n : Int} {z : Int} (hz : z = ((s.tk + takeN s n : Nat) : Int)) : Obj (w.setCell ⟨sb, 120, none⟩ (.int .i64 z)) B sb (takeS s n) := by
  subst hz
  exact ⟨h.inv.take n, fun i hi => cell_next (h.cb i hi) (by show i ≠ 120; omega), fun i hi => cell_next (h.cc i hi) (by show 60 + i ≠ 120; omega), World.cell?_setCell_same _ _ _ h.ct, fun i hi => by simpa using h.fz i hi, h.hs⟩
end
def zc : Array Value := Array.replicate 60 (.int .u8 0) ++ Array.replicate 60 (.bool false) ++ #[.int .i64 0]
theorem zc_b (i : Nat) (h : i < 60) : zc[i]? = some (.int .u8 0) := by simp [zc, Array.getElem?_append, h]
theorem zc_c (i : Nat) (h : i < 60) : zc[60 + i]? = some (.bool false) := by
  have a : ¬ 60 + i < 60 := by omega
  have b : 60 + i < 120 := by omega
  simp [zc, Array.getElem?_append, Array.getElem?_push, h, a, b]; omega
theorem zc_t : zc[120]? = some (.int .i64 0) := by simp [zc, Array.getElem?_append, Array.getElem_push]
theorem Obj.new (w : World) : Obj (w.alloc (.cells zc 100)) w.heap.size w.heap.size newS := by
  refine ⟨Inv.new, fun i hi => ?_, fun i hi => ?_, ?_, fun i hi => ?_, Nat.le_refl _⟩
  · simp [zc_b i hi, newS]
  · simp [zc_c i hi, newS]
  · simp [zc_t, newS]
  · simp
theorem zero_stream (w : World) : (zeroValue 100).run Tryz.prog w = .ok (.agg zc) w := by kernel_rfl
/-- The stream in sb is now s; all else is as it was. -/
def Turned (w w' : World) (B sb : Nat) (s : St) : Prop := Obj w' B sb s ∧ Off (fun k => k = sb) w w'
theorem Turned.same {w : World} {B sb : Nat} {s : St} (h : Obj w B sb s) : Turned w w B sb s := ⟨h, Off.refl _ _⟩
set_option maxRecDepth 100000 in
set_option maxHeartbeats 4000000 in
theorem isPlace_calls (n : Int) (w : World) : Calls Tryz.prog 212 #[.int .i64 n] w fun e w' => e = .returned (.bool (placeB n)) ∧ w' = w := by
  by_cases h1 : 0 ≤ n
  · by_cases h2 : n ≤ 60
    · go_enter Tryz.func212, Tryz.ntmps212
      go_wp2
      go_ret
      exact ⟨by simp [placeB] <;> omega, rfl⟩
    · go_enter Tryz.func212, Tryz.ntmps212
      go_wp2
      go_ret
      exact ⟨by simp [placeB] <;> omega, rfl⟩
  · go_enter Tryz.func212, Tryz.ntmps212
    go_wp2
    go_ret
    exact ⟨by simp [placeB] <;> omega, rfl⟩

set_option maxRecDepth 100000 in
set_option maxHeartbeats 4000000 in
theorem new_calls (w : World) : Calls Tryz.prog 68 #[] w fun e w' => e = .returned (.pointer (some ⟨w.heap.size, 0, none⟩)) ∧ Obj w' w.heap.size w.heap.size newS ∧ Below w.heap.size w w' := by
  have hO := Obj.new w
  have hz := zero_stream
  generalize zc = z at hO hz
  go_enter Tryz.func68, Tryz.ntmps68
  go_wp2_with fail
  go_ret
  exact ⟨rfl, hO, (Below.refl _ _).alloc (Nat.le_refl _) _⟩
theorem box_cells (w : World) (p : Int) (d : ByteArray) : (w.alloc (.cells #[.int .i64 p, .string d] 146)).cell? ⟨w.heap.size, 0, none⟩ = some (.int .i64 p) ∧ (w.alloc (.cells #[.int .i64 p, .string d] 146)).cell? ⟨w.heap.size, 1, none⟩ = some (.string d) := by simp
theorem cell_away {w : World} {b sb j i : Nat} {u v : Value} (h : w.cell? ⟨b, i, none⟩ = some v) (e : b ≠ sb) : (w.setCell ⟨sb, j, none⟩ u).cell? ⟨b, i, none⟩ = some v := by
  rw [World.cell?_setCell_other _ _ _ _ (by intro e'; injection e' with e' _ _; exact e (by first | exact e' | exact e'.symm))]; exact h
set_option maxRecDepth 100000 in
set_option maxHeartbeats 4000000 in
theorem ready_quiet {w : World} {B sb : Nat} {s : St} (h : Obj w B sb s) : Calls Tryz.prog 191 #[.pointer (some ⟨sb, 0, none⟩)] w fun e w' => e = .returned (.int .i64 (rdy s : Int)) ∧ ∃ m, w' = w.drewN m := by
  have ht := h.inv.t
  have c0 := h.ct
  have HS : Hid (∀ n, n < 60 - s.tk → (∀ i, i < n → s.cm (s.tk + i) = true) → s.cm (s.tk + n) = false → (rdy s : Int) = n) := by
    show ∀ n, _ → _ → _ → _
    intro n h1 h2 h3
    rw [rdy, run_stop _ _ _ n h2 h1 h3]
  have HA : Hid ((∀ i, i < 60 - s.tk → s.cm (s.tk + i) = true) → (rdy s : Int) = 60 - (s.tk : Int)) := by
    show _ → _
    intro h1
    rw [rdy, run_all _ _ _ h1]
    omega
  obtain ⟨r, hr⟩ : ∃ r : Int, (rdy s : Int) = r := ⟨_, rfl⟩
  rw [hr]
  rw [hr] at HS HA
  clear hr
  have HC : Hid (∀ i, i < 60 → w.cell? ⟨sb, 60 + i, none⟩ = some (.bool (s.cm i))) := h.cc
  have hr0 := wrap_small (60 - (s.tk : Int)) (by omega) (by omega)
  clear h
  generalize hT : s.tk = T at *
  have HM : Hid (∀ i, s.cm i = s.cm i) := fun _ => rfl
  generalize s.cm = cm at HS HA HC
  clear HM hT
  go_enter Tryz.func191, Tryz.ntmps191
  go_wp2_with fail
  go_loopg [11] (60 - T) (fun gk s11 wr => ∃ k m : Nat, gk + k = 60 - T ∧ s11 = .int .i64 k ∧ Hid (∀ i, i < k → cm (T + i) = true) ∧ Hid (wr = w.drewN m))
  case atStart => exact ⟨0, 0, rfl, rfl, (show ∀ i, i < 0 → cm (T + i) = true from fun i hi => by omega), rfl⟩
  case round =>
    obtain ⟨k, m, hk, rfl, hE, HW⟩ := hrel
    have HK : Hid (gk + k = 60 - T) := hk
    clear hk
    have d0 : wr.cell? ⟨sb, 120, none⟩ = some (.int .i64 (T : Int)) := by rw [HW.out]; exact c0
    have HW2 : Hid (∀ q, ∃ m, wr.drewN q = w.drewN m) := by show ∀ q, _; intro q; rw [HW.out, World.drewN_drewN]; exact ⟨_, rfl⟩
    by_cases g : (k : Int) < 60 - (T : Int)
    · have x1 : wr.cell? ⟨sb, 60 + (T + k), none⟩ = some (.bool (cm (T + k))) := by rw [HW.out]; exact HC.out (T + k) (by omega)
      have u1 := wrap_small ((T : Int) + (k : Int)) (by omega) (by omega)
      cases hc : cm (T + k) with
      | true =>
        rw [hc] at x1
        have HE : Hid (∀ i, i < k + 1 → cm (T + i) = true) := by
          show ∀ i, _ → _
          intro i hi
          by_cases e : i = k
          · rw [e]; exact hc
          · exact hE.out i (by omega)
        clear hc hE
        go_wp2_with fail
        go_quiet (fail)
        go_wp2_with fail
        go_roundg (60 - T - (k + 1))
        case measure => have := HK.out; omega
        case rel =>
          obtain ⟨m2, e2⟩ := HW2.out _
          exact ⟨k + 1, m2, by have := HK.out; omega, by go_num, HE, e2⟩
      | false =>
        rw [hc] at x1
        have HR : Hid (r = (k : Int)) := HS.out k (by omega) hE.out hc
        clear hc hE
        go_wp2_with fail
        go_quiet (fail)
        go_wp2_with fail
        go_ret
        exact ⟨by rw [HR.out]; rfl, HW2.out _⟩
    · have HR : Hid (r = 60 - (T : Int)) := HA.out fun i hi => hE.out i (by have := HK.out; omega)
      go_wp2_with fail
      go_ret
      exact ⟨by rw [HR.out]; rfl, HW2.out 0⟩
def offAt (T : Nat) : Nat := if 60 = T then 0 else T
theorem run_slice60 (w : World) (sb T : Nat) (k : Int) (h0 : 0 ≤ k) (h1 : (T : Int) + k ≤ 60) : (Instr.sliceAt 96 (.pointer (some ⟨sb, 0, none⟩)) (some (.int .i64 (T : Int))) (some (.int .i64 ((T : Int) + k))) none).run Tryz.prog w = .ok (.slice (some ⟨sb, offAt T, none⟩) k.toNat (60 - T)) w := by
  have hl : Tryz.prog.arrayLen 96 = 60 := by kernel_rfl
  have he : (sizeOf (Tryz.prog.elem 96)).run Tryz.prog w = .ok 1 w := by kernel_rfl
  rw [run_sliceAt_array_lh w 96 ⟨sb, 0, none⟩ (by kernel_rfl) .i64 .i64 (T : Int) ((T : Int) + k) (by omega) (by omega) (by rw [hl]; omega), he]
  simp only [Result.andThen, slicedAt, hl, offAt, Addr.add_lit]
  by_cases e : 60 = T
  · subst e
    simp
    omega
  · have e2 : ¬ 60 = (T : Int).toNat := by omega
    rw [if_neg e2, if_neg e]
    simp
    omega
set_option maxRecDepth 100000 in
set_option maxHeartbeats 4000000 in
theorem take_no {w : World} {B sb : Nat} {s : St} (h : Obj w B sb s) (n : Int) (hn : n < 0) : Calls Tryz.prog 163 #[.pointer (some ⟨sb, 0, none⟩), .int .i64 n] w fun e w' => e = .returned (.tuple #[.string ByteArray.empty, .iface 133 (.int .i64 1)]) ∧ Turned w w' B sb s := by
  go_enter Tryz.func163, Tryz.ntmps163
  go_wp2_with fail
  go_ret2
  exact ⟨rfl, Turned.same h⟩

set_option maxRecDepth 100000 in
set_option maxHeartbeats 4000000 in
theorem take_calls {w : World} {B sb : Nat} {s : St} (h : Obj w B sb s) (n : Int) (hn : 0 ≤ n) : Calls Tryz.prog 163 #[.pointer (some ⟨sb, 0, none⟩), .int .i64 n] w fun e w' => e = .returned (.tuple #[.string (strOfNums (takeL s n)), .nilIface]) ∧ Turned w w' B sb (takeS s n) := by
  have ht := h.inv.t
  have ct := h.ct
  have f0 := h.fz 120 (by omega)
  have hle := rdy_le s
  obtain ⟨z, hz, ek⟩ : ∃ z : Int, (if (rdy s : Int) < n then (rdy s : Int) else n) = z ∧ takeN s n = z.toNat := by
    refine ⟨_, rfl, ?_⟩
    unfold takeN
    split <;> omega
  have hz0 : 0 ≤ z := by split at hz <;> omega
  have hz1 : z ≤ 60 - (s.tk : Int) := by split at hz <;> omega
  have HT : Hid (∀ q, Turned w ((w.setCell ⟨sb, 120, none⟩ (.int .i64 ((s.tk : Int) + z))).drewN q) B sb (takeS s n)) := by
    show ∀ q, _
    intro q
    have o := h.take (n := n) (z := (s.tk : Int) + z) (by rw [ek]; omega)
    exact ⟨o.below (below_drewN (Below.refl _ _) q), ((Off.refl _ _).setCell (K := fun k => k = sb) (a := ⟨sb, 120, none⟩) rfl _).trans (Off.of_below (below_drewN (Below.refl _ _) q))⟩
  have hcv : ∀ q, (convert 37 9 (.slice (some ⟨sb, offAt s.tk, none⟩) z.toNat (60 - s.tk))).run Tryz.prog ((w.setCell ⟨sb, 120, none⟩ (.int .i64 ((s.tk : Int) + z))).drewN q) = .ok (.string (strOfNums (takeL s n))) ((w.setCell ⟨sb, 120, none⟩ (.int .i64 ((s.tk : Int) + z))).drewN q) := fun q =>
    run_convert_bytes_arg _ 37 5 Tryz.underlying37 Tryz.underlying5 sb (offAt s.tk) _ _ (takeL s n) (by simp [takeL, ek]) (fun i hi => by
      have hi' : i < takeN s n := by rw [ek]; exact hi
      have hl := takeN_le s n
      have hT : offAt s.tk = s.tk := by unfold offAt; rw [if_neg (by omega)]
      rw [hT, World.cell?_drewN, cell_next (h.cb (s.tk + i) (by omega)) (by show s.tk + i ≠ 120; omega)]
      simp [takeL, hi']) 9 Tryz.underlying9
  have hsl : ∀ w, (Instr.sliceAt 96 (.pointer (some ⟨sb, 0, none⟩)) (some (.int .i64 (s.tk : Int))) (some (.int .i64 ((s.tk : Int) + z))) none).run Tryz.prog w = .ok (.slice (some ⟨sb, offAt s.tk, none⟩) z.toNat (60 - s.tk)) w := fun w => run_slice60 w sb s.tk (z) (by omega) (by omega)
  have hq := fun q => ready_quiet (h.below (below_drewN (Below.refl w.heap.size w) q))
  have ct2 : (w.setCell ⟨sb, 120, none⟩ (.int .i64 ((s.tk : Int) + z))).cell? ⟨sb, 120, none⟩ = some (.int .i64 ((s.tk : Int) + z)) := World.cell?_setCell_same _ _ _ ct
  have HZ : Hid (IntKind.i64.wrap ((s.tk : Int) + if (rdy s : Int) < n then (rdy s : Int) else n) = (s.tk : Int) + z) := by show _ = _; rw [hz]; exact wrap_small _ (by omega) (by omega)
  have HCV : Hid (∀ q, (convert 37 9 (.slice (some ⟨sb, offAt s.tk, none⟩) z.toNat (60 - s.tk))).run Tryz.prog ((w.setCell ⟨sb, 120, none⟩ (.int .i64 ((s.tk : Int) + z))).drewN q) = .ok (.string (strOfNums (takeL s n))) ((w.setCell ⟨sb, 120, none⟩ (.int .i64 ((s.tk : Int) + z))).drewN q)) := hcv
  have CT2 : Hid ((w.setCell ⟨sb, 120, none⟩ (.int .i64 ((s.tk : Int) + z))).cell? ⟨sb, 120, none⟩ = some (.int .i64 ((s.tk : Int) + z))) := ct2
  clear h ek hcv ct2 hz
  generalize takeL s n = L at HCV ⊢
  generalize rdy s = r at *
  generalize s.tk = T at *
  go_enter Tryz.func163, Tryz.ntmps163
  go_wp2_with fail
  go_cut [] (fun wx => Hid (∃ q, wx = (w.setCell ⟨sb, 120, none⟩ (.int .i64 ((T : Int) + z))).drewN q))
  case first =>
    go_region_with (go_at_call 191; refine (hq _).mono ?_; rintro e w2 ⟨rfl, m, rfl⟩)
    all_goals (try go_wp2_with fail)
    all_goals go_meet
    all_goals exact (show ∃ q, _ from ⟨1 + m, by have e := HZ.out; split at e <;> first | (rw [e]; rfl) | (exfalso; omega)⟩)
  case rest =>
    have hct : wc.cell? ⟨sb, 120, none⟩ = some (.int .i64 ((T : Int) + z)) := by obtain ⟨q, e⟩ := hcut.out; rw [e]; exact CT2.out
    have hcv : (convert 37 9 (.slice (some ⟨sb, offAt T, none⟩) z.toNat (60 - T))).run Tryz.prog wc.drew = .ok (.string (strOfNums L)) wc.drew := by
      rw [World.drew_is_drewN]
      obtain ⟨q, e⟩ := hcut.out
      rw [e, World.drewN_drewN]
      exact HCV.out _
    have HT2 : Hid (Turned w wc.drew B sb (takeS s n)) := by
      show Turned _ _ _ _ _
      rw [World.drew_is_drewN]
      obtain ⟨q, e⟩ := hcut.out
      rw [e, World.drewN_drewN]
      exact HT.out _
    clear hcut HCV HT HZ CT2 hq ct f0
    go_wp2_with fail
    go_region
    all_goals go_wp2_with fail
    all_goals go_ret2
    all_goals exact ⟨rfl, HT2.out⟩
end Go.Proofs.YtdokgalidhmbbaaGreatDoor.Sx
namespace Go.Proofs.YtdokgalidhmbbaaGreatDoor.Sy
open Go.RowKit Go.Lib Go.Sort


open Sx (St Inv bat bat_range bat_get placeB cl clB clB_yes clB_no upS upS_zero upS_byt upS_cm putF putS putF_range putF_full putF_clash putF_yes putS_yes putS_no rdy run_stop run_all wrap_small index_at cell_next cell_away box_cells)
/-- A stream from the place 125 of the block sb on. -/
structure Obj (w : World) (sb : Nat) (s : St) : Prop where
  inv : Inv s
  cb : ∀ i, i < 60 → w.cell? ⟨sb, 125 + i, none⟩ = some (.int .u8 (s.byt i))
  cc : ∀ i, i < 60 → w.cell? ⟨sb, 185 + i, none⟩ = some (.bool (s.cm i))
  ct : w.cell? ⟨sb, 245, none⟩ = some (.int .i64 s.tk)
  fz1 : ∀ i, i < 60 → w.frozen? ⟨sb, 125 + i, none⟩ = false
  fz2 : ∀ i, i < 60 → w.frozen? ⟨sb, 185 + i, none⟩ = false
/-- But for the stream's own places, and new blocks, the world is as it was. -/
structure OffS (sb : Nat) (w w' : World) : Prop where
  off : Off (fun k => k = sb) w w'
  rest : ∀ i, i < 125 ∨ 245 ≤ i → w'.cell? ⟨sb, i, none⟩ = w.cell? ⟨sb, i, none⟩
  fz : ∀ i, w'.frozen? ⟨sb, i, none⟩ = w.frozen? ⟨sb, i, none⟩
theorem OffS.refl (sb : Nat) (w : World) : OffS sb w w := ⟨Off.refl _ _, fun _ _ => rfl, fun _ => rfl⟩
theorem OffS.trans {sb : Nat} {a b c : World} (h : OffS sb a b) (k : OffS sb b c) : OffS sb a c := ⟨h.off.trans k.off, fun i hi => (k.rest i hi).trans (h.rest i hi), fun i => (k.fz i).trans (h.fz i)⟩
theorem OffS.of_below {sb : Nat} {w w' : World} (hl : sb < w.heap.size) (h : Below w.heap.size w w') : OffS sb w w' :=
  ⟨Off.of_below h, fun i _ => h.cell (p := ⟨sb, i, none⟩) hl, fun i => World.frozen?_of_block (h.block sb hl)⟩
theorem OffS.up' {sb : Nat} {w w' : World} (h : OffS sb w w') {i j : Nat} (i0 : 125 ≤ i) (i1 : i < 245) (j0 : 125 ≤ j) (j1 : j < 245) (u v : Value) : OffS sb w ((w'.setCell ⟨sb, i, none⟩ u).drew.setCell ⟨sb, j, none⟩ v).drew := by
  refine h.trans ⟨(((Off.refl (fun k => k = sb) w').setCell (a := ⟨sb, i, none⟩) rfl u).setCell (a := ⟨sb, j, none⟩) rfl v).trans (Off.of_below ⟨rfl, rfl, rfl, Nat.le_refl _, fun _ _ => rfl⟩), fun k hk => ?_, fun k => ?_⟩
  · show ((w'.setCell ⟨sb, i, none⟩ u).setCell ⟨sb, j, none⟩ v).cell? _ = _
    rw [World.cell?_setCell_other _ _ _ _ (fun e => by injection e; omega), World.cell?_setCell_other _ _ _ _ (fun e => by injection e; omega)]
  · show ((w'.setCell ⟨sb, i, none⟩ u).setCell ⟨sb, j, none⟩ v).frozen? _ = _
    simp
section
variable {w w' : World} {sb : Nat} {s : St}
theorem Obj.offS (h : Obj w sb s) (hl : sb < w.heap.size) (hb : Below w.heap.size w w') : Obj w' sb s := by
  have f : ∀ i, w'.frozen? ⟨sb, i, none⟩ = w.frozen? ⟨sb, i, none⟩ := fun i => World.frozen?_of_block (hb.block sb hl)
  exact ⟨h.inv, fun i hi => (hb.cell (p := ⟨sb, 125 + i, none⟩) hl).trans (h.cb i hi), fun i hi => (hb.cell (p := ⟨sb, 185 + i, none⟩) hl).trans (h.cc i hi), (hb.cell (p := ⟨sb, 245, none⟩) hl).trans h.ct, fun i hi => (f _).trans (h.fz1 i hi), fun i hi => (f _).trans (h.fz2 i hi)⟩
theorem Obj.below (h : Obj w sb s) (hl : sb < w.heap.size) (hb : Below w.heap.size w w') : Obj w' sb s := h.offS hl hb
/-- One byte of a piece, stored with its mark. -/
theorem Obj.up {a n : Nat} {d : ByteArray} (h : Obj w sb (upS s a d n)) (hn : a + n < 60) :
    Obj ((w.setCell ⟨sb, 125 + (a + n), none⟩ (.int .u8 (bat d n))).setCell ⟨sb, 185 + (a + n), none⟩ (.bool true)) sb (upS s a d (n + 1)) := by
  refine ⟨?_, fun i hi => ?_, fun i hi => ?_, ?_, fun i hi => by simpa using h.fz1 i hi, fun i hi => by simpa using h.fz2 i hi⟩
  · refine ⟨h.inv.t, fun i => ?_⟩
    rw [upS_byt]
    by_cases e : i = a + n
    · simp only [e, if_true]; exact bat_range _ _
    · simp only [e, if_false]; exact h.inv.b i
  · rw [upS_byt]
    refine cell_next ?_ (by show 125 + i ≠ 185 + (a + n); omega)
    by_cases e : i = a + n
    · subst e
      simp only [if_true]
      exact World.cell?_setCell_same _ _ _ (h.cb _ hi)
    · simp only [e, if_false]
      exact cell_next (h.cb i hi) (by show 125 + i ≠ 125 + (a + n); omega)
  · rw [upS_cm]
    by_cases e : i = a + n
    · subst e
      simp only [if_true]
      exact World.cell?_setCell_same _ _ _ (cell_next (h.cc _ hi) (by show 185 + (a + n) ≠ 125 + (a + n); omega))
    · simp only [e, if_false]
      exact cell_next (cell_next (h.cc i hi) (by show 185 + i ≠ 125 + (a + n); omega)) (by show 185 + i ≠ 185 + (a + n); omega)
  · exact cell_next (cell_next h.ct (by show 245 ≠ 125 + (a + n); omega)) (by show 245 ≠ 185 + (a + n); omega)
theorem Obj.up' {a n : Nat} {d : ByteArray} (h : Obj w sb (upS s a d n)) (hn : a + n < 60) :
    Obj ((w.setCell ⟨sb, 125 + (a + n), none⟩ (.int .u8 (bat d n))).drew.setCell ⟨sb, 185 + (a + n), none⟩ (.bool true)).drew sb (upS s a d (n + 1)) := by
  obtain ⟨a1, a2, a3, a4, a5, a6⟩ := h.up hn
  exact ⟨a1, a2, a3, a4, a5, a6⟩
end
/-- The stream is now s; all else is as it was. -/
def Turned (w w' : World) (sb : Nat) (s : St) : Prop := Obj w' sb s ∧ OffS sb w w'
theorem Turned.below {w w' : World} {sb : Nat} {s : St} (h : Obj w sb s) (hl : sb < w.heap.size) (hb : Below w.heap.size w w') : Turned w w' sb s := ⟨h.below hl hb, OffS.of_below hl hb⟩
set_option maxRecDepth 100000 in
set_option maxHeartbeats 4000000 in
theorem clashes_calls {w : World} {sb : Nat} {s : St} (h : Obj w sb s) (hlt : sb < w.heap.size) (a : Nat) (d : ByteArray) (hd : a + d.size ≤ 60) : Calls Tryz.prog 213 #[.pointer (some ⟨sb, 125, none⟩), .agg #[.int .i64 a, .string d]] w fun e w' => e = .returned (.bool (clB s a d)) ∧ Below w.heap.size w w' := by
  have hb0 : Below w.heap.size w (w.alloc (.cells #[.int .i64 a, .string d] 146)) := (Below.refl _ _).alloc (Nat.le_refl _) _
  have HO : Hid (Obj (w.alloc (.cells #[.int .i64 a, .string d] 146)) sb s) := h.below hlt hb0
  have HB : Hid (Below w.heap.size w (w.alloc (.cells #[.int .i64 a, .string d] 146))) := hb0
  have HQ : Hid (w.heap.size < (w.alloc (.cells #[.int .i64 a, .string d] 146)).heap.size) := by show _ < _; simp
  obtain ⟨q0, q1⟩ := box_cells w a d
  have HL : Hid (sb < (w.alloc (.cells #[.int .i64 a, .string d] 146)).heap.size) := Nat.lt_of_lt_of_le hlt hb0.size
  clear h hb0 hlt
  go_enter Tryz.func213, Tryz.ntmps213
  go_wp2_with fail
  generalize w.alloc (.cells #[.int .i64 a, .string d] 146) = W at HO HB HQ HL q0 q1 ⊢
  go_loopg [9] d.size (fun gk s9 wr => ∃ k : Nat, gk + k = d.size ∧ s9 = .int .i64 k ∧ Hid (∀ i, i < k → cl s a d i = false) ∧ Below W.heap.size W wr)
  case atStart => exact ⟨0, rfl, rfl, (show ∀ i, i < 0 → cl s a d i = false from fun i hi => by omega), Below.refl _ _⟩
  case round =>
    obtain ⟨k, hk, rfl, hE, hW⟩ := hrel
    have HK : Hid (gk + k = d.size) := hk
    clear hk
    have p0 := (hW.cell (p := ⟨w.heap.size, 0, none⟩) HQ.out).trans q0
    have p1 := (hW.cell (p := ⟨w.heap.size, 1, none⟩) HQ.out).trans q1
    by_cases g : (k : Int) < (d.size : Int)
    · have x0 := (HO.out.below HL.out hW).cb (a + k) (by omega)
      have x1 := (HO.out.below HL.out hW).cc (a + k) (by omega)
      have hix := fun w => index_at (d := d) (k := k) (by omega) w
      have u1 := wrap_small ((a : Int) + (k : Int)) (by omega) (by omega)
      have HN : Hid (cl s a d k = false → ∀ i, i < k + 1 → cl s a d i = false) := by
        show _ → _
        intro hc i hi
        by_cases e : i = k
        · rw [e]; exact hc
        · exact hE.out i (by omega)
      have HY : Hid (cl s a d k = true → clB s a d = true) := fun hc => clB_yes (by omega) hc
      have HC : Hid (cl s a d k = (s.cm (a + k) && (s.byt (a + k) != bat d k))) := rfl
      clear hE
      generalize s.cm (a + k) = c at x1 HC
      generalize s.byt (a + k) = y at x0 HC
      generalize bat d k = z at hix HC
      cases c with
      | false =>
        have hc : cl s a d k = false := by rw [HC.out]; rfl
        have HM : Hid (∀ i, i < k + 1 → cl s a d i = false) := HN.out hc
        clear HN HY HC hc
        go_wp2_with fail
        go_quiet (fail)
        go_wp2_with fail
        go_roundg (d.size - (k + 1))
        case measure => have := HK.out; omega
        case rel => exact ⟨k + 1, by have := HK.out; omega, by go_num, HM, below_drewN hW _⟩
      | true =>
        by_cases e : y = z
        · subst e
          have hc : cl s a d k = false := by rw [HC.out]; simp
          have HM : Hid (∀ i, i < k + 1 → cl s a d i = false) := HN.out hc
          clear HN HY HC hc
          go_wp2_with fail
          go_quiet (fail)
          go_wp2_with fail
          go_roundg (d.size - (k + 1))
          case measure => have := HK.out; omega
          case rel => exact ⟨k + 1, by have := HK.out; omega, by go_num, HM, below_drewN hW _⟩
        · have hc : cl s a d k = true := by rw [HC.out]; simp [e]
          have HM : Hid (clB s a d = true) := HY.out hc
          clear HN HY HC hc
          go_wp2_with fail
          go_quiet (fail)
          go_wp2_with fail
          go_ret
          exact ⟨by rw [HM.out]; rfl, HB.out.trans ((below_drewN hW _).mono (Nat.le_of_lt HQ.out))⟩
    · have HM : Hid (clB s a d = false) := clB_no fun i hi => hE.out i (by omega)
      go_wp2_with fail
      go_ret
      exact ⟨by rw [HM.out]; rfl, HB.out.trans (hW.mono (Nat.le_of_lt HQ.out))⟩
set_option maxRecDepth 100000 in
set_option maxHeartbeats 4000000 in
theorem put_range {w : World} {sb : Nat} {s : St} (h : Obj w sb s) (hlt : sb < w.heap.size) (p : Int) (d : ByteArray) (hp : placeB p = false) : Calls Tryz.prog 186 #[.pointer (some ⟨sb, 125, none⟩), .agg #[.int .i64 p, .string d]] w fun e w' => e = .returned (.iface 133 (.int .i64 1)) ∧ Turned w w' sb s := by
  have hb0 : Below w.heap.size w (w.alloc (.cells #[.int .i64 p, .string d] 146)) := (Below.refl _ _).alloc (Nat.le_refl _) _
  obtain ⟨q0, q1⟩ := box_cells w p d
  go_enter Tryz.func186, Tryz.ntmps186
  go_wp2_with (go_at_call 212; refine (Sx.isPlace_calls p _).mono ?_; rintro e w1 ⟨rfl, rfl⟩; rw [hp])
  go_ret
  exact ⟨rfl, Turned.below h hlt hb0⟩

set_option maxRecDepth 100000 in
set_option maxHeartbeats 4000000 in
theorem put_full {w : World} {sb : Nat} {s : St} (h : Obj w sb s) (hlt : sb < w.heap.size) (p : Int) (d : ByteArray) (hp : placeB p = true) (h2 : 60 < p + (d.size : Int)) (hd : d.size ≤ 140737488351232) : Calls Tryz.prog 186 #[.pointer (some ⟨sb, 125, none⟩), .agg #[.int .i64 p, .string d]] w fun e w' => e = .returned (.iface 133 (.int .i64 4)) ∧ Turned w w' sb s := by
  have hb0 : Below w.heap.size w (w.alloc (.cells #[.int .i64 p, .string d] 146)) := (Below.refl _ _).alloc (Nat.le_refl _) _
  obtain ⟨q0, q1⟩ := box_cells w p d
  obtain ⟨p0, p1⟩ : 0 ≤ p ∧ p ≤ 60 := of_decide_eq_true hp
  have h3 : 60 - p < (d.size : Int) := by omega
  go_enter Tryz.func186, Tryz.ntmps186
  go_wp2_with (go_at_call 212; refine (Sx.isPlace_calls p _).mono ?_; rintro e w1 ⟨rfl, rfl⟩; rw [hp])
  go_ret
  exact ⟨rfl, Turned.below h hlt hb0⟩

set_option maxRecDepth 100000 in
set_option maxHeartbeats 4000000 in
theorem put_clash {w : World} {sb : Nat} {s : St} (h : Obj w sb s) (hlt : sb < w.heap.size) (a : Nat) (d : ByteArray) (hd : a + d.size ≤ 60) (hc : clB s a d = true) : Calls Tryz.prog 186 #[.pointer (some ⟨sb, 125, none⟩), .agg #[.int .i64 (a : Int), .string d]] w fun e w' => e = .returned (.iface 133 (.int .i64 7)) ∧ Turned w w' sb s := by
  have hb0 : Below w.heap.size w (w.alloc (.cells #[.int .i64 (a : Int), .string d] 146)) := (Below.refl _ _).alloc (Nat.le_refl _) _
  obtain ⟨q0, q1⟩ := box_cells w (a : Int) d
  have p0 : (a : Int) ≤ 60 := by omega
  have hp : placeB (a : Int) = true := decide_eq_true ⟨by omega, by omega⟩
  have h3 : (d.size : Int) ≤ 60 - (a : Int) := by omega
  go_enter Tryz.func186, Tryz.ntmps186
  go_wp2_with (go_at_call 212; refine (Sx.isPlace_calls (a : Int) _).mono ?_; rintro e w1 ⟨rfl, rfl⟩; rw [hp])
  refine (clashes_calls (h.below hlt hb0) (Nat.lt_of_lt_of_le hlt hb0.size) a d hd).mono ?_
  rintro e w2 ⟨rfl, hb2⟩
  have HB2 : Hid (Below w.heap.size w w2) := hb0.trans (hb2.mono hb0.size)
  have r0 := (hb2.cell (p := ⟨w.heap.size, 0, none⟩) (by simp)).trans q0
  have r1 := (hb2.cell (p := ⟨w.heap.size, 1, none⟩) (by simp)).trans q1
  rw [hc]
  clear hb0 hb2 q0 q1
  go_wp2_with fail
  go_ret
  exact ⟨rfl, Turned.below h hlt HB2.out⟩

set_option maxRecDepth 100000 in
set_option maxHeartbeats 4000000 in
theorem put_yes {w : World} {sb : Nat} {s : St} (h : Obj w sb s) (hlt : sb < w.heap.size) (a : Nat) (d : ByteArray) (hd : a + d.size ≤ 60) (hc : clB s a d = false) : Calls Tryz.prog 186 #[.pointer (some ⟨sb, 125, none⟩), .agg #[.int .i64 (a : Int), .string d]] w fun e w' => e = .returned .nilIface ∧ Turned w w' sb (upS s a d d.size) := by
  have hb0 : Below w.heap.size w (w.alloc (.cells #[.int .i64 (a : Int), .string d] 146)) := (Below.refl _ _).alloc (Nat.le_refl _) _
  obtain ⟨q0, q1⟩ := box_cells w (a : Int) d
  have p0 : (a : Int) ≤ 60 := by omega
  have hp : placeB (a : Int) = true := decide_eq_true ⟨by omega, by omega⟩
  have h3 : (d.size : Int) ≤ 60 - (a : Int) := by omega
  go_enter Tryz.func186, Tryz.ntmps186
  go_wp2_with (go_at_call 212; refine (Sx.isPlace_calls (a : Int) _).mono ?_; rintro e w1 ⟨rfl, rfl⟩; rw [hp])
  refine (clashes_calls (h.below hlt hb0) (Nat.lt_of_lt_of_le hlt hb0.size) a d hd).mono ?_
  rintro e w2 ⟨rfl, hb2⟩
  have HB2 : Hid (Below w.heap.size w w2) := hb0.trans (hb2.mono hb0.size)
  have r0 := (hb2.cell (p := ⟨w.heap.size, 0, none⟩) (by simp)).trans q0
  have r1 := (hb2.cell (p := ⟨w.heap.size, 1, none⟩) (by simp)).trans q1
  rw [hc]
  clear hb0 hb2 q0 q1
  have HO : Hid (Obj w2 sb (upS s a d 0)) := by show Obj _ _ _; rw [upS_zero]; exact h.below hlt HB2.out
  have HX : Hid (w.heap.size ≠ sb ∧ w.heap.size < w2.heap.size) := ⟨by omega, World.block_lt_of_cell? w2 _ r0⟩
  clear h hc
  go_wp2_with fail
  go_loopg [26] d.size (fun gk s26 wr => ∃ k : Nat, gk + k = d.size ∧ s26 = .int .i64 k ∧ Obj wr sb (upS s a d k) ∧ OffS sb w2 wr)
  case atStart => exact ⟨0, rfl, rfl, HO.out, OffS.refl _ _⟩
  case round =>
    obtain ⟨k, hk, rfl, hO, hW⟩ := hrel
    have HK : Hid (gk + k = d.size) := hk
    clear hk
    have p0 := hW.off.cell (p := ⟨w.heap.size, 0, none⟩) r0 HX.out.1
    have p1 := hW.off.cell (p := ⟨w.heap.size, 1, none⟩) r1 HX.out.1
    by_cases g : (k : Int) < (d.size : Int)
    · have x0 := hO.cb (a + k) (by omega)
      have x1 := hO.cc (a + k) (by omega)
      have f0 := hO.fz1 (a + k) (by omega)
      have f1 := hO.fz2 (a + k) (by omega)
      have hix := fun w => index_at (d := d) (k := k) (by omega) w
      have u1 := wrap_small ((a : Int) + (k : Int)) (by omega) (by omega)
      have hO2 := hO.up' (show a + k < 60 by omega)
      have hW2 := hW.up' (i := 125 + (a + k)) (j := 185 + (a + k)) (by omega) (by omega) (by omega) (by omega) (.int .u8 (bat d k)) (.bool true)
      have p2 := cell_away (v := .int .i64 a) (j := 125 + (a + k)) (u := .int .u8 (bat d k)) p0 HX.out.1
      have x2 := cell_next (b := ⟨sb, 125 + (a + k), none⟩) (u := .int .u8 (bat d k)) x1 (by show 185 + (a + k) ≠ 125 + (a + k); omega)
      have f2 : (wr.setCell ⟨sb, 125 + (a + k), none⟩ (.int .u8 (bat d k))).frozen? ⟨sb, 185 + (a + k), none⟩ = false := by simpa using f1
      have HO2 : Hid (Obj ((wr.setCell ⟨sb, 125 + (a + k), none⟩ (.int .u8 (bat d k))).drew.setCell ⟨sb, 185 + (a + k), none⟩ (.bool true)).drew sb (upS s a d (k + 1))) := hO2
      have HW2 : Hid (OffS sb w2 ((wr.setCell ⟨sb, 125 + (a + k), none⟩ (.int .u8 (bat d k))).drew.setCell ⟨sb, 185 + (a + k), none⟩ (.bool true)).drew) := hW2
      clear hO2 hW2
      go_wp2_with fail
      go_region
      clear p0 p1 x0 x1 f0 f1 hO hW hix
      generalize wr.setCell ⟨sb, 125 + (a + k), none⟩ (.int .u8 (bat d k)) = W1 at p2 x2 f2 HO2 HW2 ⊢
      go_wp2_with fail
      go_region
      go_wp2_with fail
      go_roundg (d.size - (k + 1))
      case measure => have := HK.out; omega
      case rel => exact ⟨k + 1, by have := HK.out; omega, by go_num, HO2.out, HW2.out⟩
    · have e : k = d.size := by have := HK.out; omega
      subst e
      go_wp2_with fail
      go_ret
      exact ⟨rfl, hO, (OffS.of_below hlt HB2.out).trans hW⟩

theorem put_calls {w : World} {sb : Nat} {s : St} (h : Obj w sb s) (hlt : sb < w.heap.size) (p : Int) (d : ByteArray) (hd : d.size ≤ 140737488351232) : Calls Tryz.prog 186 #[.pointer (some ⟨sb, 125, none⟩), .agg #[.int .i64 p, .string d]] w fun e w' => e = .returned (errV (putF s p d)) ∧ Turned w w' sb (putS s p d) := by
  cases hp : placeB p with
  | false => rw [putS_no (by rw [putF_range hp]; decide), putF_range hp, errV_f (by decide)]; exact put_range h hlt p d hp
  | true =>
    by_cases h2 : 60 < p + (d.size : Int)
    · rw [putS_no (by rw [putF_full hp h2]; decide), putF_full hp h2, errV_f (by decide)]; exact put_full h hlt p d hp h2 hd
    · obtain ⟨p0, p1⟩ : 0 ≤ p ∧ p ≤ 60 := of_decide_eq_true hp
      obtain ⟨a, rfl⟩ : ∃ a : Nat, p = (a : Int) := ⟨p.toNat, by omega⟩
      cases hc : clB s a d with
      | true =>
        have e := putF_clash (s := s) (d := d) hp (by omega) (by simpa using hc)
        rw [putS_no (by rw [e]; decide), e, errV_f (by decide)]; exact put_clash h hlt a d (by omega) hc
      | false =>
        have e := putF_yes (s := s) (d := d) hp (by omega) (by simpa using hc)
        rw [putS_yes e, e, errV_0]; exact put_yes h hlt a d (by omega) hc
end Go.Proofs.YtdokgalidhmbbaaGreatDoor.Sy
