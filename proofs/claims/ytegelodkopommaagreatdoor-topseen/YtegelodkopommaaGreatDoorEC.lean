/- What pieceFrom and pieces answer. -/
import Derived.Test.YtegelodkopommaaGreatDoorEB
namespace Go.Proofs.YtegelodkopommaaGreatDoor
open Go.RowKit Go.Lib Go.Sort
set_option linter.unusedVariables false
set_option linter.unusedSimpArgs false


open Sx (bat)
theorem results_cell1 {fn : Func} {p : Tmp} {ty : TypeId} (h : fn.results = #[.cell p ty]) (tmps : Array Value) (P : Program) (w : World) :
    (results fn tmps).run P w = ((asAddr (tmps.getD p undef)).run P w).andThen fun a w₁ => (loadVar ty a).run P w₁ := by
  simp only [results, h]
  simp [Sem.run_bind, Result.andThen]
theorem bat_ints (d : ByteArray) (i : Nat) : bat d i = (V.ints d)[i]?.getD 0 := by
  unfold bat V.ints
  rw [List.getElem?_map, Array.getElem?_toList]
  cases d.data[i]? <;> rfl
theorem str_part {d : ByteArray} {a b : Nat} (hb : b ≤ d.size) : strOfNums ((List.range (b - a)).map fun i => bat d (a + i)) = d.extract a b := by
  have e : ((List.range (b - a)).map fun i => bat d (a + i)) = V.ints (d.extract a b) := by
    rw [ints_extract]
    apply List.ext_getElem?
    intro i
    rw [List.getElem?_map, List.getElem?_take, List.getElem?_drop]
    by_cases h : i < b - a
    · rw [if_pos h, List.getElem?_range h]
      have hl : a + i < (V.ints d).length := by rw [ints_length]; omega
      rw [Option.map_some, bat_ints, List.getElem?_eq_getElem hl]
      rfl
    · rw [if_neg h, List.getElem?_eq_none (by simpa using h)]
      rfl
  rw [e]
  exact V.str_ints _
theorem run_slice60 (X : World) (eb q r : Nat) (h : q ≤ r) (hr : r ≤ 60) : (Instr.sliceAt 71 (.pointer (some ⟨eb, 0, none⟩)) (some (.int .i64 (q : Int))) (some (.int .i64 (r : Int))) none).run Tryz.prog X = .ok (.slice (some ⟨eb, Sx.offAt q, none⟩) (r - q) (60 - q)) X := by
  have h1 := Sx.run_slice60 X eb q ((r : Int) - q) (by omega) (by omega)
  rw [show (q : Int) + ((r : Int) - q) = r by omega, show ((r : Int) - q).toNat = r - q by omega] at h1
  exact h1
theorem convert_part {w X : World} {B eb : Nat} {vl vc : Value} {e : En} (h : EO w B eb vl vc e) (hX : Below w.heap.size w X) {q r : Nat} (h1 : q ≤ r) (hr : r ≤ e.d.size) : (convert 50 9 (.slice (some ⟨eb, Sx.offAt q, none⟩) (r - q) (60 - q))).run Tryz.prog X = .ok (.string (e.d.extract q r)) X := by
  rw [← str_part (a := q) hr]
  refine run_convert_bytes_arg _ 50 5 Tryz.underlying50 Tryz.underlying5 eb (Sx.offAt q) _ _ _ (by simp) (fun i hi => ?_) 9 Tryz.underlying9
  have d60 := h.inv.d60
  have e1 : Sx.offAt q = q := by unfold Sx.offAt; rw [if_neg (by omega)]
  rw [e1, (hX.cell (p := ⟨eb, q + i, none⟩) h.lt).trans (h.out (q + i) (by omega))]
  simp [hi]

set_option maxRecDepth 100000 in
set_option maxHeartbeats 4000000 in
theorem pf_a {w : World} {eb T E p q r Dn : Nat} {l : Int} {s : ByteArray} (hl : l < (Dn : Int)) (hEl : l = (E : Int)) (hE : E ≤ 60) (hT : T ≤ E) (hp : p ≤ E) (hq : q = max p T) (hr : r = min E (q + 20)) (heb : eb < w.heap.size)
    (c60 : w.cell? ⟨eb, 60, none⟩ = some (.int .i64 (Dn : Int))) (c121 : w.cell? ⟨eb, 121, none⟩ = some (.int .i64 l)) (ht : ∀ i, i < 60 → w.cell? ⟨eb, 61 + i, none⟩ = some (.bool (decide (i < T))))
    (hc : ∀ X, Below w.heap.size w X → (convert 50 9 (.slice (some ⟨eb, Sx.offAt q, none⟩) (r - q) (60 - q))).run Tryz.prog X = .ok (.string s) X)
    (hsl : ∀ X, (Instr.sliceAt 71 (.pointer (some ⟨eb, 0, none⟩)) (some (.int .i64 (q : Int))) (some (.int .i64 (r : Int))) none).run Tryz.prog X = .ok (.slice (some ⟨eb, Sx.offAt q, none⟩) (r - q) (60 - q)) X) :
    Calls Tryz.prog 55 #[.pointer (some ⟨eb, 0, none⟩), .int .i64 (p : Int)] w fun e w' => e = .returned (.agg #[.int .i64 (q : Int), .string s]) ∧ Below w.heap.size w w' := by
  have hb0 : Below w.heap.size w (w.alloc (.cells #[.int .i64 0, .string { data := #[] }] 112)) := (Below.refl _ _).alloc (Nat.le_refl _) _
  have k60 := (hb0.cell (p := ⟨eb, 60, none⟩) heb).trans c60
  have k121 := (hb0.cell (p := ⟨eb, 121, none⟩) heb).trans c121
  have HQ : Hid (q = max p T ∧ p ≤ E ∧ T ≤ E) := ⟨hq, hp, hT⟩
  have HR : Hid (r = min E (q + 20) ∧ q ≤ E ∧ E ≤ 60) := ⟨hr, by omega, hE⟩
  have HC : Hid (∀ X, Below w.heap.size w X → (convert 50 9 (.slice (some ⟨eb, Sx.offAt q, none⟩) (r - q) (60 - q))).run Tryz.prog X = .ok (.string s) X) := hc
  have HSl : Hid (∀ X, (Instr.sliceAt 71 (.pointer (some ⟨eb, 0, none⟩)) (some (.int .i64 (q : Int))) (some (.int .i64 (r : Int))) none).run Tryz.prog X = .ok (.slice (some ⟨eb, Sx.offAt q, none⟩) (r - q) (60 - q)) X) := hsl
  have HT0 : Hid (∀ i, i < 60 → (w.alloc (.cells #[.int .i64 0, .string { data := #[] }] 112)).cell? ⟨eb, 61 + i, none⟩ = some (.bool (decide (i < T)))) := fun i hi => (hb0.cell (p := ⟨eb, 61 + i, none⟩) heb).trans (ht i hi)
  have z0 : (w.alloc (.cells #[.int .i64 0, .string { data := #[] }] 112)).cell? ⟨w.heap.size, 0, none⟩ = some (.int .i64 0) := by simp
  have z1 : (w.alloc (.cells #[.int .i64 0, .string { data := #[] }] 112)).cell? ⟨w.heap.size, 1, none⟩ = some (.string { data := #[] }) := by simp
  have zf : ∀ i, (w.alloc (.cells #[.int .i64 0, .string { data := #[] }] 112)).frozen? ⟨w.heap.size, i, none⟩ = false := fun i => by simp
  clear hq hp hT hr hE c60 c121 ht hc hsl
  subst hEl
  go_enter Tryz.func55, Tryz.ntmps55
  go_wp2_with fail
  generalize w.alloc (.cells #[.int .i64 0, .string { data := #[] }] 112) = W at *
  go_quiet (fail)
  have HB0 : Hid (Below w.heap.size w (W.drewN nq)) := below_drewN hb0 nq
  have HT : Hid (∀ i, i < 60 → (W.drewN nq).cell? ⟨eb, 61 + i, none⟩ = some (.bool (decide (i < T)))) := HT0
  have y0 : (W.drewN nq).cell? ⟨w.heap.size, 0, none⟩ = some (.int .i64 0) := z0
  have y1 : (W.drewN nq).cell? ⟨w.heap.size, 1, none⟩ = some (.string { data := #[] }) := z1
  have yf : ∀ i, (W.drewN nq).frozen? ⟨w.heap.size, i, none⟩ = false := zf
  clear HT0 z0 z1 zf hb0 k60 k121
  generalize W.drewN nq = W1 at *
  go_wp2_with fail
  go_loopg [1] (q - p) (fun gk s1 wr => ∃ k : Nat, gk + k = q ∧ p ≤ k ∧ s1 = .int .i64 k ∧ Hid (W1 = wr))
  case atStart => exact ⟨p, by have := HQ.out; omega, Nat.le_refl _, rfl, rfl⟩
  case round =>
    obtain ⟨k, hk, hpk, rfl, HW⟩ := hrel
    have HK : Hid (gk + k = q) := hk
    clear hk
    obtain rfl := HW.out
    clear HW
    have HB : Below w.heap.size w W1 := HB0.out
    by_cases g : k < q
    · have g1 : (k : Int) < (E : Int) := by have := HQ.out; omega
      have gb : (k : Int) < 60 := by have := HR.out; omega
      have x0 : W1.cell? ⟨eb, 61 + k, none⟩ = some (.bool true) := by
        have := HT.out k (by have := HR.out; omega)
        rw [this, decide_eq_true (by have := HQ.out; omega)]
      go_wp2_with fail
      go_roundg (q - (k + 1))
      case measure => have := HK.out; omega
      case rel => exact ⟨k + 1, by have := HK.out; omega, by omega, by go_num, rfl⟩
    · obtain rfl : q = k := by have := HK.out; omega
      by_cases g1 : (q : Int) < (E : Int)
      · have gb : (q : Int) < 60 := by have := HR.out; omega
        have x0 : W1.cell? ⟨eb, 61 + q, none⟩ = some (.bool false) := by
          have := HT.out q (by have := HR.out; omega)
          rw [this, decide_eq_false (by have := HQ.out; omega)]
        by_cases gm : (q : Int) + 20 < (E : Int)
        · go_wp2_with fail
          go_loopg [6] (r - q) (fun gk s6 wr => ∃ k : Nat, gk + k = r ∧ q ≤ k ∧ s6 = .int .i64 k ∧ Hid (W1 = wr))
          case atStart => exact ⟨q, by have := HR.out; omega, Nat.le_refl _, rfl, rfl⟩
          case round =>
            obtain ⟨k, hk, hqk, rfl, HW⟩ := hrel
            have HK : Hid (gk + k = r) := hk
            clear hk
            obtain rfl := HW.out
            clear HW
            by_cases g : k < r
            · have x0 : W1.cell? ⟨eb, 61 + k, none⟩ = some (.bool false) := by
                have := HT.out k (by have := HR.out; omega)
                rw [this, decide_eq_false (by have := HQ.out; omega)]
              have g1 : (k : Int) < (q : Int) + 20 := by have := HR.out; omega
              have gk0 : (k : Int) < 60 := by have := HR.out; omega
              go_wp2_with fail
              go_roundg (r - (k + 1))
              case measure => have := HK.out; omega
              case rel => exact ⟨k + 1, by have := HK.out; omega, by omega, by go_num, rfl⟩
            · obtain rfl : r = k := by have := HK.out; omega
              have g1 : ¬ (r : Int) < (q : Int) + 20 := by have := HR.out; omega
              have hsl := HSl.out
              have HB1 : Hid (Below w.heap.size w W1) := HB
              have hcv := HC.out W1 HB1.out
              go_wp2_with fail
              refine bodyPost_ret (v := .agg #[.int .i64 (q : Int), .string s]) ?_ rfl ⟨rfl, ?_⟩
              · rw [results_cell1 rfl]; go_simp
              · exact ((HB1.out.setCell (p := ⟨w.heap.size, 0, none⟩) (Nat.le_refl _) _).setCell (p := ⟨w.heap.size, 1, none⟩) (Nat.le_refl _) _)
        · go_wp2_with fail
          go_loopg [6] (r - q) (fun gk s6 wr => ∃ k : Nat, gk + k = r ∧ q ≤ k ∧ s6 = .int .i64 k ∧ Hid (W1 = wr))
          case atStart => exact ⟨q, by have := HR.out; omega, Nat.le_refl _, rfl, rfl⟩
          case round =>
            obtain ⟨k, hk, hqk, rfl, HW⟩ := hrel
            have HK : Hid (gk + k = r) := hk
            clear hk
            obtain rfl := HW.out
            clear HW
            by_cases g : k < r
            · have x0 : W1.cell? ⟨eb, 61 + k, none⟩ = some (.bool false) := by
                have := HT.out k (by have := HR.out; omega)
                rw [this, decide_eq_false (by have := HQ.out; omega)]
              have g1 : (k : Int) < (E : Int) := by have := HR.out; omega
              have gk0 : (k : Int) < 60 := by have := HR.out; omega
              go_wp2_with fail
              go_roundg (r - (k + 1))
              case measure => have := HK.out; omega
              case rel => exact ⟨k + 1, by have := HK.out; omega, by omega, by go_num, rfl⟩
            · obtain rfl : r = k := by have := HK.out; omega
              have g1 : ¬ (r : Int) < (E : Int) := by have := HR.out; omega
              have hsl := HSl.out
              have HB1 : Hid (Below w.heap.size w W1) := HB
              have hcv := HC.out W1 HB1.out
              go_wp2_with fail
              refine bodyPost_ret (v := .agg #[.int .i64 (q : Int), .string s]) ?_ rfl ⟨rfl, ?_⟩
              · rw [results_cell1 rfl]; go_simp
              · exact ((HB1.out.setCell (p := ⟨w.heap.size, 0, none⟩) (Nat.le_refl _) _).setCell (p := ⟨w.heap.size, 1, none⟩) (Nat.le_refl _) _)
      · have gm : ¬ (q : Int) + 20 < (E : Int) := by omega
        have gb : (q : Int) ≤ 60 := by have := HR.out; omega
        go_wp2_with fail
        go_loopg [6] (r - q) (fun gk s6 wr => ∃ k : Nat, gk + k = r ∧ q ≤ k ∧ s6 = .int .i64 k ∧ Hid (W1 = wr))
        case atStart => exact ⟨q, by have := HR.out; omega, Nat.le_refl _, rfl, rfl⟩
        case round =>
          obtain ⟨k, hk, hqk, rfl, HW⟩ := hrel
          have HK : Hid (gk + k = r) := hk
          clear hk
          obtain rfl := HW.out
          clear HW
          by_cases g : k < r
          · exfalso
            have := HR.out
            omega
          · obtain rfl : r = k := by have := HK.out; omega
            have g1 : ¬ (r : Int) < (E : Int) := by have := HR.out; omega
            have hsl := HSl.out
            have HB1 : Hid (Below w.heap.size w W1) := HB
            have hcv := HC.out W1 HB1.out
            go_wp2_with fail
            refine bodyPost_ret (v := .agg #[.int .i64 (q : Int), .string s]) ?_ rfl ⟨rfl, ?_⟩
            · rw [results_cell1 rfl]; go_simp
            · exact ((HB1.out.setCell (p := ⟨w.heap.size, 0, none⟩) (Nat.le_refl _) _).setCell (p := ⟨w.heap.size, 1, none⟩) (Nat.le_refl _) _)

set_option maxRecDepth 100000 in
set_option maxHeartbeats 4000000 in
theorem pf_b {w : World} {eb T E p q r Dn : Nat} {l : Int} {s : ByteArray} (hl : ¬ l < (Dn : Int)) (hEl : E = Dn) (hE : E ≤ 60) (hT : T ≤ E) (hp : p ≤ E) (hq : q = max p T) (hr : r = min E (q + 20)) (heb : eb < w.heap.size)
    (c60 : w.cell? ⟨eb, 60, none⟩ = some (.int .i64 (Dn : Int))) (c121 : w.cell? ⟨eb, 121, none⟩ = some (.int .i64 l)) (ht : ∀ i, i < 60 → w.cell? ⟨eb, 61 + i, none⟩ = some (.bool (decide (i < T))))
    (hc : ∀ X, Below w.heap.size w X → (convert 50 9 (.slice (some ⟨eb, Sx.offAt q, none⟩) (r - q) (60 - q))).run Tryz.prog X = .ok (.string s) X)
    (hsl : ∀ X, (Instr.sliceAt 71 (.pointer (some ⟨eb, 0, none⟩)) (some (.int .i64 (q : Int))) (some (.int .i64 (r : Int))) none).run Tryz.prog X = .ok (.slice (some ⟨eb, Sx.offAt q, none⟩) (r - q) (60 - q)) X) :
    Calls Tryz.prog 55 #[.pointer (some ⟨eb, 0, none⟩), .int .i64 (p : Int)] w fun e w' => e = .returned (.agg #[.int .i64 (q : Int), .string s]) ∧ Below w.heap.size w w' := by
  have hb0 : Below w.heap.size w (w.alloc (.cells #[.int .i64 0, .string { data := #[] }] 112)) := (Below.refl _ _).alloc (Nat.le_refl _) _
  have k60 := (hb0.cell (p := ⟨eb, 60, none⟩) heb).trans c60
  have k121 := (hb0.cell (p := ⟨eb, 121, none⟩) heb).trans c121
  have HQ : Hid (q = max p T ∧ p ≤ E ∧ T ≤ E) := ⟨hq, hp, hT⟩
  have HR : Hid (r = min E (q + 20) ∧ q ≤ E ∧ E ≤ 60) := ⟨hr, by omega, hE⟩
  have HC : Hid (∀ X, Below w.heap.size w X → (convert 50 9 (.slice (some ⟨eb, Sx.offAt q, none⟩) (r - q) (60 - q))).run Tryz.prog X = .ok (.string s) X) := hc
  have HSl : Hid (∀ X, (Instr.sliceAt 71 (.pointer (some ⟨eb, 0, none⟩)) (some (.int .i64 (q : Int))) (some (.int .i64 (r : Int))) none).run Tryz.prog X = .ok (.slice (some ⟨eb, Sx.offAt q, none⟩) (r - q) (60 - q)) X) := hsl
  have HT0 : Hid (∀ i, i < 60 → (w.alloc (.cells #[.int .i64 0, .string { data := #[] }] 112)).cell? ⟨eb, 61 + i, none⟩ = some (.bool (decide (i < T)))) := fun i hi => (hb0.cell (p := ⟨eb, 61 + i, none⟩) heb).trans (ht i hi)
  have z0 : (w.alloc (.cells #[.int .i64 0, .string { data := #[] }] 112)).cell? ⟨w.heap.size, 0, none⟩ = some (.int .i64 0) := by simp
  have z1 : (w.alloc (.cells #[.int .i64 0, .string { data := #[] }] 112)).cell? ⟨w.heap.size, 1, none⟩ = some (.string { data := #[] }) := by simp
  have zf : ∀ i, (w.alloc (.cells #[.int .i64 0, .string { data := #[] }] 112)).frozen? ⟨w.heap.size, i, none⟩ = false := fun i => by simp
  clear hq hp hT hr hE c60 c121 ht hc hsl
  subst hEl
  go_enter Tryz.func55, Tryz.ntmps55
  go_wp2_with fail
  generalize w.alloc (.cells #[.int .i64 0, .string { data := #[] }] 112) = W at *
  go_quiet (fail)
  have HB0 : Hid (Below w.heap.size w (W.drewN nq)) := below_drewN hb0 nq
  have HT : Hid (∀ i, i < 60 → (W.drewN nq).cell? ⟨eb, 61 + i, none⟩ = some (.bool (decide (i < T)))) := HT0
  have y0 : (W.drewN nq).cell? ⟨w.heap.size, 0, none⟩ = some (.int .i64 0) := z0
  have y1 : (W.drewN nq).cell? ⟨w.heap.size, 1, none⟩ = some (.string { data := #[] }) := z1
  have yf : ∀ i, (W.drewN nq).frozen? ⟨w.heap.size, i, none⟩ = false := zf
  clear HT0 z0 z1 zf hb0 k60 k121
  generalize W.drewN nq = W1 at *
  go_wp2_with fail
  go_loopg [1] (q - p) (fun gk s1 wr => ∃ k : Nat, gk + k = q ∧ p ≤ k ∧ s1 = .int .i64 k ∧ Hid (W1 = wr))
  case atStart => exact ⟨p, by have := HQ.out; omega, Nat.le_refl _, rfl, rfl⟩
  case round =>
    obtain ⟨k, hk, hpk, rfl, HW⟩ := hrel
    have HK : Hid (gk + k = q) := hk
    clear hk
    obtain rfl := HW.out
    clear HW
    have HB : Below w.heap.size w W1 := HB0.out
    by_cases g : k < q
    · have g1 : (k : Int) < (E : Int) := by have := HQ.out; omega
      have gb : (k : Int) < 60 := by have := HR.out; omega
      have x0 : W1.cell? ⟨eb, 61 + k, none⟩ = some (.bool true) := by
        have := HT.out k (by have := HR.out; omega)
        rw [this, decide_eq_true (by have := HQ.out; omega)]
      go_wp2_with fail
      go_roundg (q - (k + 1))
      case measure => have := HK.out; omega
      case rel => exact ⟨k + 1, by have := HK.out; omega, by omega, by go_num, rfl⟩
    · obtain rfl : q = k := by have := HK.out; omega
      by_cases g1 : (q : Int) < (E : Int)
      · have gb : (q : Int) < 60 := by have := HR.out; omega
        have x0 : W1.cell? ⟨eb, 61 + q, none⟩ = some (.bool false) := by
          have := HT.out q (by have := HR.out; omega)
          rw [this, decide_eq_false (by have := HQ.out; omega)]
        by_cases gm : (q : Int) + 20 < (E : Int)
        · go_wp2_with fail
          go_loopg [6] (r - q) (fun gk s6 wr => ∃ k : Nat, gk + k = r ∧ q ≤ k ∧ s6 = .int .i64 k ∧ Hid (W1 = wr))
          case atStart => exact ⟨q, by have := HR.out; omega, Nat.le_refl _, rfl, rfl⟩
          case round =>
            obtain ⟨k, hk, hqk, rfl, HW⟩ := hrel
            have HK : Hid (gk + k = r) := hk
            clear hk
            obtain rfl := HW.out
            clear HW
            by_cases g : k < r
            · have x0 : W1.cell? ⟨eb, 61 + k, none⟩ = some (.bool false) := by
                have := HT.out k (by have := HR.out; omega)
                rw [this, decide_eq_false (by have := HQ.out; omega)]
              have g1 : (k : Int) < (q : Int) + 20 := by have := HR.out; omega
              have gk0 : (k : Int) < 60 := by have := HR.out; omega
              go_wp2_with fail
              go_roundg (r - (k + 1))
              case measure => have := HK.out; omega
              case rel => exact ⟨k + 1, by have := HK.out; omega, by omega, by go_num, rfl⟩
            · obtain rfl : r = k := by have := HK.out; omega
              have g1 : ¬ (r : Int) < (q : Int) + 20 := by have := HR.out; omega
              have hsl := HSl.out
              have HB1 : Hid (Below w.heap.size w W1) := HB
              have hcv := HC.out W1 HB1.out
              go_wp2_with fail
              refine bodyPost_ret (v := .agg #[.int .i64 (q : Int), .string s]) ?_ rfl ⟨rfl, ?_⟩
              · rw [results_cell1 rfl]; go_simp
              · exact ((HB1.out.setCell (p := ⟨w.heap.size, 0, none⟩) (Nat.le_refl _) _).setCell (p := ⟨w.heap.size, 1, none⟩) (Nat.le_refl _) _)
        · go_wp2_with fail
          go_loopg [6] (r - q) (fun gk s6 wr => ∃ k : Nat, gk + k = r ∧ q ≤ k ∧ s6 = .int .i64 k ∧ Hid (W1 = wr))
          case atStart => exact ⟨q, by have := HR.out; omega, Nat.le_refl _, rfl, rfl⟩
          case round =>
            obtain ⟨k, hk, hqk, rfl, HW⟩ := hrel
            have HK : Hid (gk + k = r) := hk
            clear hk
            obtain rfl := HW.out
            clear HW
            by_cases g : k < r
            · have x0 : W1.cell? ⟨eb, 61 + k, none⟩ = some (.bool false) := by
                have := HT.out k (by have := HR.out; omega)
                rw [this, decide_eq_false (by have := HQ.out; omega)]
              have g1 : (k : Int) < (E : Int) := by have := HR.out; omega
              have gk0 : (k : Int) < 60 := by have := HR.out; omega
              go_wp2_with fail
              go_roundg (r - (k + 1))
              case measure => have := HK.out; omega
              case rel => exact ⟨k + 1, by have := HK.out; omega, by omega, by go_num, rfl⟩
            · obtain rfl : r = k := by have := HK.out; omega
              have g1 : ¬ (r : Int) < (E : Int) := by have := HR.out; omega
              have hsl := HSl.out
              have HB1 : Hid (Below w.heap.size w W1) := HB
              have hcv := HC.out W1 HB1.out
              go_wp2_with fail
              refine bodyPost_ret (v := .agg #[.int .i64 (q : Int), .string s]) ?_ rfl ⟨rfl, ?_⟩
              · rw [results_cell1 rfl]; go_simp
              · exact ((HB1.out.setCell (p := ⟨w.heap.size, 0, none⟩) (Nat.le_refl _) _).setCell (p := ⟨w.heap.size, 1, none⟩) (Nat.le_refl _) _)
      · have gm : ¬ (q : Int) + 20 < (E : Int) := by omega
        have gb : (q : Int) ≤ 60 := by have := HR.out; omega
        go_wp2_with fail
        go_loopg [6] (r - q) (fun gk s6 wr => ∃ k : Nat, gk + k = r ∧ q ≤ k ∧ s6 = .int .i64 k ∧ Hid (W1 = wr))
        case atStart => exact ⟨q, by have := HR.out; omega, Nat.le_refl _, rfl, rfl⟩
        case round =>
          obtain ⟨k, hk, hqk, rfl, HW⟩ := hrel
          have HK : Hid (gk + k = r) := hk
          clear hk
          obtain rfl := HW.out
          clear HW
          by_cases g : k < r
          · exfalso
            have := HR.out
            omega
          · obtain rfl : r = k := by have := HK.out; omega
            have g1 : ¬ (r : Int) < (E : Int) := by have := HR.out; omega
            have hsl := HSl.out
            have HB1 : Hid (Below w.heap.size w W1) := HB
            have hcv := HC.out W1 HB1.out
            go_wp2_with fail
            refine bodyPost_ret (v := .agg #[.int .i64 (q : Int), .string s]) ?_ rfl ⟨rfl, ?_⟩
            · rw [results_cell1 rfl]; go_simp
            · exact ((HB1.out.setCell (p := ⟨w.heap.size, 0, none⟩) (Nat.le_refl _) _).setCell (p := ⟨w.heap.size, 1, none⟩) (Nat.le_refl _) _)

theorem pieceFrom_calls {w : World} {B eb : Nat} {vl vc : Value} {e : En} (h : EO w B eb vl vc e) (p : Nat) (hp : p ≤ en e) :
    Calls Tryz.prog 55 #[.pointer (some ⟨eb, 0, none⟩), .int .i64 (p : Int)] w fun ex w' => ex = .returned (.agg #[.int .i64 ((max p e.t : Nat) : Int), .string (e.d.extract (max p e.t) (min (en e) (max p e.t + 20)))]) ∧ Below w.heap.size w w' := by
  have h60 := h.inv.en60
  have ht := h.inv.t1
  have hle := en_le e
  have l0 := h.inv.l0
  have hc : ∀ X, Below w.heap.size w X → (convert 50 9 (.slice (some ⟨eb, Sx.offAt (max p e.t), none⟩) (min (en e) (max p e.t + 20) - max p e.t) (60 - max p e.t))).run Tryz.prog X = .ok (.string (e.d.extract (max p e.t) (min (en e) (max p e.t + 20)))) X := fun X hX => convert_part h hX (by omega) (by omega)
  have hsl := fun X => run_slice60 X eb (max p e.t) (min (en e) (max p e.t + 20)) (by omega) (by omega)
  by_cases hl : e.l < (e.d.size : Int)
  · exact pf_a hl (by unfold en; omega) h60 ht hp rfl rfl h.lt (h.cl 60 (by omega)) (h.cl 121 (by omega)) h.told hc hsl
  · exact pf_b hl (by unfold en; omega) h60 ht hp rfl rfl h.lt (h.cl 60 (by omega)) (h.cl 121 (by omega)) h.told hc hsl
end Go.Proofs.YtegelodkopommaaGreatDoor
