/- What All answers: the bytes of each number, one behind the other; or the error. -/
import Derived.Test.YtjpdembofiadbaaDoorVD
import Derived.Lib.AppendStr
namespace Go.Proofs.YtjpdembofiadbaaDoor.V
open Go.RowKit Go.Lib
set_option linter.unusedVariables false
set_option linter.unusedSimpArgs false

theorem own_below {w w' : World} {B e size n : Nat} {v : Value} {xs : List Value} (h : w.ownsRow B e size v n xs) (hb : Below w.heap.size w w') : w'.ownsRow B e size v n xs := by
  refine ⟨h.1, ?_⟩
  rcases h.2 with hn | ⟨g, cap, cur, rfl, hB, hgg, hr⟩
  · exact .inl hn
  · exact .inr ⟨g, cap, cur, rfl, hB, (hb.block g (Array.getElem?_eq_some_iff.1 hgg).1).trans hgg, hr⟩

theorem str_ints (s : ByteArray) : strOfNums (s.data.toList.map fun b => (b.toNat : Int)) = s := by
  obtain ⟨⟨l⟩⟩ := s
  simp [strOfNums, Function.comp_def]

/-- A row that the call made, turned into a string. -/
theorem own_string {w : World} {B n : Nat} {v : Value} {s : ByteArray} (h : w.ownsRow B 5 1 v n (strCells s)) : (convert 42 9 v).run Tryd.prog w = .ok (.string s) w := by
  have hl : s.size = n := by have := h.1; rw [strCells_length] at this; omega
  rcases h.2 with ⟨rfl, hn⟩ | ⟨g, cap, cur, rfl, _⟩
  · rw [run_convert_bytes_nil w 42 5 Tryd.underlying42 Tryd.underlying5 0 0 9 Tryd.underlying9]
    obtain ⟨⟨l⟩⟩ := s
    have : l = [] := List.eq_nil_of_length_eq_zero (by have : l.length = n := hl; omega)
    subst this
    rfl
  · rw [run_convert_bytes_arg w 42 5 Tryd.underlying42 Tryd.underlying5 g 0 n cap (s.data.toList.map fun b => (b.toNat : Int)) (by simpa using hl) (fun i hi => by
      have hc := h.cells (g := g) rfl i (.int .u8 (((s.data.toList.map fun b => (b.toNat : Int))[i]?).getD 0)) (by
        have hi' : i < s.data.size := by have : s.data.size = n := hl; omega
        simp [strCells, Array.getElem?_eq_getElem hi'])
      rw [Addr.add_lit] at hc
      rw [hc]
      simp [List.getD]) 9 Tryd.underlying9, str_ints]

def allS (zs : List Int) : ByteArray := strOfNums (zs.flatMap nums)
theorem nums_length_le (n : Int) : (nums n).length ≤ 4 := by
  unfold nums
  by_cases a : n < 64
  · simp [a]
  · by_cases b : n < 16384
    · simp [a, b]
    · simp [a, b]
theorem allS_size (zs : List Int) : (allS zs).size ≤ 4 * zs.length := by
  unfold allS
  rw [strOfNums_size]
  induction zs with
  | nil => simp
  | cons z zs ih =>
    have := nums_length_le z
    simp only [List.flatMap_cons, List.length_append, List.length_cons]
    omega
theorem strCells_app (a b : List Int) : strCells (strOfNums (a ++ b)) = strCells (strOfNums a) ++ strCells (strOfNums b) := by simp [strCells, strOfNums]
theorem take_snoc (zs : List Int) (k : Nat) (h : k < zs.length) : zs.take (k + 1) = zs.take k ++ [zs[k]?.getD 0] := by
  rw [List.take_succ_eq_append_getElem h]
  simp [h]
theorem allS_cells (zs : List Int) (k : Nat) (h : k < zs.length) : strCells (allS (zs.take (k + 1))) = strCells (allS (zs.take k)) ++ strCells (strOfNums (nums (zs[k]?.getD 0))) := by
  rw [take_snoc zs k h]
  unfold allS
  rw [List.flatMap_append, strCells_app]
  simp
theorem allS_next (zs : List Int) (k : Nat) (h : k < zs.length) : (allS (zs.take (k + 1))).size = (allS (zs.take k)).size + (strOfNums (nums (zs[k]?.getD 0))).size := by
  rw [← strCells_length, allS_cells zs k h, List.length_append, strCells_length, strCells_length]

theorem info5 : (Tryd.prog.info? 5).map (fun i => (i.zero, i.size, i.bytes)) = some (some (.int .u8 0), 1, 1) := by kernel_rfl

set_option maxRecDepth 100000 in
set_option maxHeartbeats 1000000 in
theorem all_full (a : Option Addr) (len cap : Nat) (w : World) (h : 40 < len) (hm : len ≤ 9223372036854775807) :
    Calls Tryd.prog 60 #[.slice a len cap] w fun e w' => e = .returned (.tuple #[.string { data := #[] }, .iface 48 (.int .i64 4)]) ∧ Below w.heap.size w w' := by
  have h' : (40 : Int) < (len : Int) := by omega
  go_enter Tryd.func60, Tryd.ntmps60
  go_wp2_with fail
  go_ret2
  exact ⟨rfl, Below.refl _ _⟩

set_option maxRecDepth 100000 in
set_option maxHeartbeats 1000000 in
theorem all_none (a : Option Addr) (cap : Nat) (w : World) :
    Calls Tryd.prog 60 #[.slice a 0 cap] w fun e w' => e = .returned (.tuple #[.string { data := #[] }, .nilIface]) ∧ Below w.heap.size w w' := by
  have hcv := run_convert_bytes_nil (P := Tryd.prog) w 42 5 Tryd.underlying42 Tryd.underlying5 0 0 9 Tryd.underlying9
  go_enter Tryd.func60, Tryd.ntmps60
  go_wp2_with fail
  refine wp_loop_rounds 1 ?_
  rw [rounds_succ]
  go_wp2_with fail
  go_ret2
  exact ⟨rfl, Below.refl _ _⟩

set_option maxRecDepth 100000 in
set_option maxHeartbeats 2000000 in
theorem all_some (b off len cap : Nat) (zs : List Int) (w : World) (hF : Forms w) (hlen : zs.length = len) (h40 : len ≤ 40) (hb : b < w.heap.size)
    (hc : ∀ j, j < len → w.cell? ⟨b, off + j, none⟩ = some (.int .i64 (zs[j]?.getD 0))) :
    Calls Tryd.prog 60 #[.slice (some ⟨b, off, none⟩) len cap] w fun e w' =>
      ((zs.all mayB = true ∧ e = .returned (.tuple #[.string (allS zs), .nilIface])) ∨ (zs.all mayB = false ∧ e = .returned (.tuple #[.string { data := #[] }, .iface 48 (.int .i64 1)]))) ∧ Below w.heap.size w w' := by
  obtain ⟨i0, hi, hz0, hz1, hz2⟩ := info_parts info5
  have h40' : ¬ (40 : Int) < (len : Int) := by omega
  have HL : Hid (zs.length = len) := hlen
  clear hlen
  go_enter Tryd.func60, Tryd.ntmps60
  go_wp2_with fail
  go_loopw [4, 15] (fun t i wr => ∃ k : Nat, k ≤ len ∧ i = .int .i64 k ∧ wr.ownsRow w.heap.size 5 1 t (allS (zs.take k)).size (strCells (allS (zs.take k))) ∧ (zs.take k).all mayB = true ∧ Below w.heap.size w wr) (fun _ i _ => len - (intOf i).toNat)
  case atStart => exact ⟨0, Nat.zero_le _, rfl, World.ownsRow_nil _ _ _ _, rfl, Below.refl _ _⟩
  case round =>
    obtain ⟨k, hk, rfl, hown, hall, hB⟩ := hrel
    by_cases hlt : k < len
    · have hcx : wr.cell? ⟨b, off + k, none⟩ = some (.int .i64 (zs[k]?.getD 0)) := (hB.cell (p := ⟨b, off + k, none⟩) hb).trans (hc k hlt)
      have hF1 := hF.below hB
      have g1 : (k : Int) < (len : Int) := by omega
      have hkl : k < zs.length := by have := HL.out; omega
      have hm : Hid (zs[k]?.getD 0 ∈ zs) := by
        show zs[k]?.getD 0 ∈ zs
        simp [hkl]
      have hsz1 : (allS (zs.take k)).size ≤ 160 := by
        have := allS_size (zs.take k)
        rw [List.length_take] at this
        omega
      have hsz2 : (strOfNums (nums (zs[k]?.getD 0))).size ≤ 4 := by rw [strOfNums_size]; exact nums_length_le _
      have HC : Hid (strCells (allS (zs.take (k + 1))) = strCells (allS (zs.take k)) ++ strCells (strOfNums (nums (zs[k]?.getD 0)))) := allS_cells zs k hkl
      have HN : Hid ((allS (zs.take (k + 1))).size = (allS (zs.take k)).size + (strOfNums (nums (zs[k]?.getD 0))).size) := allS_next zs k hkl
      have HA : Hid (mayB (zs[k]?.getD 0) = true → (zs.take (k + 1)).all mayB = true) := by
        show mayB (zs[k]?.getD 0) = true → (zs.take (k + 1)).all mayB = true
        intro hz
        rw [take_snoc zs k hkl, List.all_append, hall]
        simp [hz]
      clear hkl hall hc
      generalize zs[k]?.getD 0 = z at *
      cases hz : mayB z with
      | false =>
        go_wp2_with fail
        refine (put_no _ _ hF1 hz).mono ?_
        rintro e w1 ⟨rfl, hb1⟩
        have hB1 := hB.trans (hb1.mono hB.size)
        go_wp2_with fail
        go_ret2
        refine ⟨.inr ⟨?_, rfl⟩, hB1⟩
        cases h : zs.all mayB with
        | false => rfl
        | true => have := List.all_eq_true.1 h _ hm.out; rw [hz] at this; cases this
      | true =>
        go_wp2_with fail
        refine (put_yes _ _ hF1 hz).mono ?_
        rintro e w1 ⟨rfl, hb1⟩
        have hB1 := hB.trans (hb1.mono hB.size)
        have hown1 := own_below hown hb1
        have HA1 : Hid ((zs.take (k + 1)).all mayB = true) := HA.out hz
        clear hz HA
        have hbs := hB1.size
        generalize strOfNums (nums z) = sz at *
        generalize allS (zs.take k) = so at *
        go_wp2_with (at_builtin; refine wpList_append_own_string _ rfl _ _ 42 9 rfl w.heap.size 5 i0 Tryd.underlying42 Tryd.underlying9 hi hz0 hz1 hz2 _ _ _ rfl hown1 _ rfl (by unfold maxLen; omega) (by omega) hbs ?_; intro v' w2 hown2 hg2 _)
        have hg3 : w1.grownBy w2 u4.ownBlock := hg2
        have hB2 : Below w.heap.size w w2 := hB1.grown hg3 hbs (fun j e => (hown1.lt j e).1)
        exact ⟨⟨k + 1, by omega, by go_num, by rw [HN.out, HC.out]; exact hown2, HA1.out, hB2⟩, by simp [intOf]; omega⟩
    · obtain rfl : k = len := by omega
      have hcv := own_string hown
      have e1 : zs.take k = zs := List.take_of_length_le (by have := HL.out; omega)
      rw [e1] at hcv hall
      clear hown e1
      go_wp2_with fail
      go_ret2
      exact ⟨.inl ⟨hall, rfl⟩, hB⟩

end Go.Proofs.YtjpdembofiadbaaDoor.V
