/- What the laws of package run need. -/
import Derived.Test.YtdokgalidhmbbaaGreatDoorHE
import Derived.Test.YtdokgalidhmbbaaGreatDoorHZB
set_option linter.unusedVariables false
set_option linter.unusedSimpArgs false
set_option maxRecDepth 100000
set_option maxHeartbeats 8000000
namespace Go.Proofs.YtdokgalidhmbbaaGreatDoor.Ez
open Go.RowKit Go.Lib Go.Sort


open Sx (bat)
variable {pz : Nat} {Qz : Nat → Option Value}

theorem run_slice60 (X : World) (eb q r : Nat) (h : q ≤ r) (hr : r ≤ 60) : (Instr.sliceAt 96 (.pointer (some ⟨eb, pz, none⟩)) (some (.int .i64 (q : Int))) (some (.int .i64 (r : Int))) none).run Tryz.prog X = .ok (.slice (some ⟨eb, offP pz q, none⟩) (r - q) (60 - q)) X := by
  have hl : Tryz.prog.arrayLen 96 = 60 := by kernel_rfl
  have he : (sizeOf (Tryz.prog.elem 96)).run Tryz.prog X = .ok 1 X := by kernel_rfl
  rw [run_sliceAt_array_lh X 96 ⟨eb, pz, none⟩ (by kernel_rfl) .i64 .i64 (q : Int) (r : Int) (by omega) (by omega) (by rw [hl]; omega), he]
  simp only [Result.andThen, slicedAt, hl, offP, Addr.add_lit]
  by_cases e : 60 = q
  · subst e
    simp <;> omega
  · have e2 : ¬ 60 = (q : Int).toNat := by omega
    rw [if_neg e2, if_neg e]
    simp <;> omega
theorem convert_part {w X : World} {B eb : Nat} {vl vc : Value} {e : En} (h : EP pz Qz w B eb vl vc e) (hX : Below w.heap.size w X) {q r : Nat} (h1 : q ≤ r) (hr : r ≤ e.d.size) : (convert 37 9 (.slice (some ⟨eb, offP pz q, none⟩) (r - q) (60 - q))).run Tryz.prog X = .ok (.string (e.d.extract q r)) X := by
  rw [← str_part (a := q) hr]
  refine run_convert_bytes_arg _ 37 5 Tryz.underlying37 Tryz.underlying5 eb (offP pz q) _ _ _ (by simp) (fun i hi => ?_) 9 Tryz.underlying9
  have d60 := h.inv.d60
  have e1 : offP pz q + i = pz + (q + i) := by unfold offP; rw [if_neg (by omega)]; omega
  rw [e1, (hX.cell (p := ⟨eb, pz + (q + i), none⟩) h.lt).trans (h.out (q + i) (by omega))]
  simp [hi]

set_option maxRecDepth 100000 in
set_option maxHeartbeats 4000000 in
theorem pf_a {w : World} {eb T E p q r Dn : Nat} {l : Int} {s : ByteArray} (hl : l < (Dn : Int)) (hEl : l = (E : Int)) (hE : E ≤ 60) (hT : T ≤ E) (hp : p ≤ E) (hq : q = max p T) (hr : r = min E (q + 20)) (heb : eb < w.heap.size)
    (c60 : w.cell? ⟨eb, pz + 60, none⟩ = some (.int .i64 (Dn : Int))) (c121 : w.cell? ⟨eb, pz + 121, none⟩ = some (.int .i64 l)) (ht : ∀ i, i < 60 → w.cell? ⟨eb, pz + 61 + i, none⟩ = some (.bool (decide (i < T))))
    (hc : ∀ X, Below w.heap.size w X → (convert 37 9 (.slice (some ⟨eb, offP pz q, none⟩) (r - q) (60 - q))).run Tryz.prog X = .ok (.string s) X)
    (hsl : ∀ X, (Instr.sliceAt 96 (.pointer (some ⟨eb, pz, none⟩)) (some (.int .i64 (q : Int))) (some (.int .i64 (r : Int))) none).run Tryz.prog X = .ok (.slice (some ⟨eb, offP pz q, none⟩) (r - q) (60 - q)) X) :
    Calls Tryz.prog 150 #[.pointer (some ⟨eb, pz, none⟩), .int .i64 (p : Int)] w fun e w' => e = .returned (.agg #[.int .i64 (q : Int), .string s]) ∧ Below w.heap.size w w' := by
  have hb0 : Below w.heap.size w (w.alloc (.cells #[.int .i64 0, .string { data := #[] }] 146)) := (Below.refl _ _).alloc (Nat.le_refl _) _
  have k60 := (hb0.cell (p := ⟨eb, pz + 60, none⟩) heb).trans c60
  have k121 := (hb0.cell (p := ⟨eb, pz + 121, none⟩) heb).trans c121
  have HQ : Hid (q = max p T ∧ p ≤ E ∧ T ≤ E) := ⟨hq, hp, hT⟩
  have HR : Hid (r = min E (q + 20) ∧ q ≤ E ∧ E ≤ 60) := ⟨hr, by omega, hE⟩
  have HC : Hid (∀ X, Below w.heap.size w X → (convert 37 9 (.slice (some ⟨eb, offP pz q, none⟩) (r - q) (60 - q))).run Tryz.prog X = .ok (.string s) X) := hc
  have HSl : Hid (∀ X, (Instr.sliceAt 96 (.pointer (some ⟨eb, pz, none⟩)) (some (.int .i64 (q : Int))) (some (.int .i64 (r : Int))) none).run Tryz.prog X = .ok (.slice (some ⟨eb, offP pz q, none⟩) (r - q) (60 - q)) X) := hsl
  have HT0 : Hid (∀ i, i < 60 → (w.alloc (.cells #[.int .i64 0, .string { data := #[] }] 146)).cell? ⟨eb, pz + 61 + i, none⟩ = some (.bool (decide (i < T)))) := fun i hi => (hb0.cell (p := ⟨eb, pz + 61 + i, none⟩) heb).trans (ht i hi)
  have z0 : (w.alloc (.cells #[.int .i64 0, .string { data := #[] }] 146)).cell? ⟨w.heap.size, 0, none⟩ = some (.int .i64 0) := by simp
  have z1 : (w.alloc (.cells #[.int .i64 0, .string { data := #[] }] 146)).cell? ⟨w.heap.size, 1, none⟩ = some (.string { data := #[] }) := by simp
  have zf : ∀ i, (w.alloc (.cells #[.int .i64 0, .string { data := #[] }] 146)).frozen? ⟨w.heap.size, i, none⟩ = false := fun i => by simp
  clear hq hp hT hr hE c60 c121 ht hc hsl
  subst hEl
  go_enter Tryz.func150, Tryz.ntmps150
  go_wp2_with fail
  generalize w.alloc (.cells #[.int .i64 0, .string { data := #[] }] 146) = W at *
  go_quiet (fail)
  have HB0 : Hid (Below w.heap.size w (W.drewN nq)) := below_drewN hb0 nq
  have HT : Hid (∀ i, i < 60 → (W.drewN nq).cell? ⟨eb, pz + 61 + i, none⟩ = some (.bool (decide (i < T)))) := HT0
  have y0 : (W.drewN nq).cell? ⟨w.heap.size, 0, none⟩ = some (.int .i64 0) := z0
  have y1 : (W.drewN nq).cell? ⟨w.heap.size, 1, none⟩ = some (.string { data := #[] }) := z1
  have yf : ∀ i, (W.drewN nq).frozen? ⟨w.heap.size, i, none⟩ = false := zf
  clear HT0 z0 z1 zf hb0 k60 k121
  generalize W.drewN nq = W1 at *
  go_wp2_with fail
  go_loopg [1] (q - p) (fun gk s1 wr => ∃ k : Nat, gk + k = q ∧ p ≤ k ∧ s1 = .int .i64 k ∧ Hid (W1 = wr))
  case atStart => exact ⟨p, by have := HQ.out; omega, Nat.le_refl _, rfl, rfl⟩
  case round =>
    obtain ⟨k, hk, hpk, rfl, HW⟩ := hrel
    have HK : Hid (gk + k = q) := hk
    clear hk
    obtain rfl := HW.out
    clear HW
    have HB : Below w.heap.size w W1 := HB0.out
    by_cases g : k < q
    · have g1 : (k : Int) < (E : Int) := by have := HQ.out; omega
      have gb : (k : Int) < 60 := by have := HR.out; omega
      have x0 : W1.cell? ⟨eb, pz + 61 + k, none⟩ = some (.bool true) := by
        have := HT.out k (by have := HR.out; omega)
        rw [this, decide_eq_true (by have := HQ.out; omega)]
      go_wp2_with fail
      go_roundg (q - (k + 1))
      case measure => have := HK.out; omega
      case rel => exact ⟨k + 1, by have := HK.out; omega, by omega, by go_num, rfl⟩
    · obtain rfl : q = k := by have := HK.out; omega
      by_cases g1 : (q : Int) < (E : Int)
      · have gb : (q : Int) < 60 := by have := HR.out; omega
        have x0 : W1.cell? ⟨eb, pz + 61 + q, none⟩ = some (.bool false) := by
          have := HT.out q (by have := HR.out; omega)
          rw [this, decide_eq_false (by have := HQ.out; omega)]
        by_cases gm : (q : Int) + 20 < (E : Int)
        · go_wp2_with fail
          go_loopg [6] (r - q) (fun gk s6 wr => ∃ k : Nat, gk + k = r ∧ q ≤ k ∧ s6 = .int .i64 k ∧ Hid (W1 = wr))
          case atStart => exact ⟨q, by have := HR.out; omega, Nat.le_refl _, rfl, rfl⟩
          case round =>
            obtain ⟨k, hk, hqk, rfl, HW⟩ := hrel
            have HK : Hid (gk + k = r) := hk
            clear hk
            obtain rfl := HW.out
            clear HW
            by_cases g : k < r
            · have x0 : W1.cell? ⟨eb, pz + 61 + k, none⟩ = some (.bool false) := by
                have := HT.out k (by have := HR.out; omega)
                rw [this, decide_eq_false (by have := HQ.out; omega)]
              have g1 : (k : Int) < (q : Int) + 20 := by have := HR.out; omega
              have gk0 : (k : Int) < 60 := by have := HR.out; omega
              go_wp2_with fail
              go_roundg (r - (k + 1))
              case measure => have := HK.out; omega
              case rel => exact ⟨k + 1, by have := HK.out; omega, by omega, by go_num, rfl⟩
            · obtain rfl : r = k := by have := HK.out; omega
              have g1 : ¬ (r : Int) < (q : Int) + 20 := by have := HR.out; omega
              have hsl := HSl.out
              have HB1 : Hid (Below w.heap.size w W1) := HB
              have hcv := HC.out W1 HB1.out
              go_wp2_with fail
              refine bodyPost_ret (v := .agg #[.int .i64 (q : Int), .string s]) ?_ rfl ⟨rfl, ?_⟩
              · rw [results_cell1 rfl]; go_simp
              · exact ((HB1.out.setCell (p := ⟨w.heap.size, 0, none⟩) (Nat.le_refl _) _).setCell (p := ⟨w.heap.size, 1, none⟩) (Nat.le_refl _) _)
        · go_wp2_with fail
          go_loopg [6] (r - q) (fun gk s6 wr => ∃ k : Nat, gk + k = r ∧ q ≤ k ∧ s6 = .int .i64 k ∧ Hid (W1 = wr))
          case atStart => exact ⟨q, by have := HR.out; omega, Nat.le_refl _, rfl, rfl⟩
          case round =>
            obtain ⟨k, hk, hqk, rfl, HW⟩ := hrel
            have HK : Hid (gk + k = r) := hk
            clear hk
            obtain rfl := HW.out
            clear HW
            by_cases g : k < r
            · have x0 : W1.cell? ⟨eb, pz + 61 + k, none⟩ = some (.bool false) := by
                have := HT.out k (by have := HR.out; omega)
                rw [this, decide_eq_false (by have := HQ.out; omega)]
              have g1 : (k : Int) < (E : Int) := by have := HR.out; omega
              have gk0 : (k : Int) < 60 := by have := HR.out; omega
              go_wp2_with fail
              go_roundg (r - (k + 1))
              case measure => have := HK.out; omega
              case rel => exact ⟨k + 1, by have := HK.out; omega, by omega, by go_num, rfl⟩
            · obtain rfl : r = k := by have := HK.out; omega
              have g1 : ¬ (r : Int) < (E : Int) := by have := HR.out; omega
              have hsl := HSl.out
              have HB1 : Hid (Below w.heap.size w W1) := HB
              have hcv := HC.out W1 HB1.out
              go_wp2_with fail
              refine bodyPost_ret (v := .agg #[.int .i64 (q : Int), .string s]) ?_ rfl ⟨rfl, ?_⟩
              · rw [results_cell1 rfl]; go_simp
              · exact ((HB1.out.setCell (p := ⟨w.heap.size, 0, none⟩) (Nat.le_refl _) _).setCell (p := ⟨w.heap.size, 1, none⟩) (Nat.le_refl _) _)
      · have gm : ¬ (q : Int) + 20 < (E : Int) := by omega
        have gb : (q : Int) ≤ 60 := by have := HR.out; omega
        go_wp2_with fail
        go_loopg [6] (r - q) (fun gk s6 wr => ∃ k : Nat, gk + k = r ∧ q ≤ k ∧ s6 = .int .i64 k ∧ Hid (W1 = wr))
        case atStart => exact ⟨q, by have := HR.out; omega, Nat.le_refl _, rfl, rfl⟩
        case round =>
          obtain ⟨k, hk, hqk, rfl, HW⟩ := hrel
          have HK : Hid (gk + k = r) := hk
          clear hk
          obtain rfl := HW.out
          clear HW
          by_cases g : k < r
          · exfalso
            have := HR.out
            omega
          · obtain rfl : r = k := by have := HK.out; omega
            have g1 : ¬ (r : Int) < (E : Int) := by have := HR.out; omega
            have hsl := HSl.out
            have HB1 : Hid (Below w.heap.size w W1) := HB
            have hcv := HC.out W1 HB1.out
            go_wp2_with fail
            refine bodyPost_ret (v := .agg #[.int .i64 (q : Int), .string s]) ?_ rfl ⟨rfl, ?_⟩
            · rw [results_cell1 rfl]; go_simp
            · exact ((HB1.out.setCell (p := ⟨w.heap.size, 0, none⟩) (Nat.le_refl _) _).setCell (p := ⟨w.heap.size, 1, none⟩) (Nat.le_refl _) _)

set_option maxRecDepth 100000 in
set_option maxHeartbeats 4000000 in
theorem pf_b {w : World} {eb T E p q r Dn : Nat} {l : Int} {s : ByteArray} (hl : ¬ l < (Dn : Int)) (hEl : E = Dn) (hE : E ≤ 60) (hT : T ≤ E) (hp : p ≤ E) (hq : q = max p T) (hr : r = min E (q + 20)) (heb : eb < w.heap.size)
    (c60 : w.cell? ⟨eb, pz + 60, none⟩ = some (.int .i64 (Dn : Int))) (c121 : w.cell? ⟨eb, pz + 121, none⟩ = some (.int .i64 l)) (ht : ∀ i, i < 60 → w.cell? ⟨eb, pz + 61 + i, none⟩ = some (.bool (decide (i < T))))
    (hc : ∀ X, Below w.heap.size w X → (convert 37 9 (.slice (some ⟨eb, offP pz q, none⟩) (r - q) (60 - q))).run Tryz.prog X = .ok (.string s) X)
    (hsl : ∀ X, (Instr.sliceAt 96 (.pointer (some ⟨eb, pz, none⟩)) (some (.int .i64 (q : Int))) (some (.int .i64 (r : Int))) none).run Tryz.prog X = .ok (.slice (some ⟨eb, offP pz q, none⟩) (r - q) (60 - q)) X) :
    Calls Tryz.prog 150 #[.pointer (some ⟨eb, pz, none⟩), .int .i64 (p : Int)] w fun e w' => e = .returned (.agg #[.int .i64 (q : Int), .string s]) ∧ Below w.heap.size w w' := by
  have hb0 : Below w.heap.size w (w.alloc (.cells #[.int .i64 0, .string { data := #[] }] 146)) := (Below.refl _ _).alloc (Nat.le_refl _) _
  have k60 := (hb0.cell (p := ⟨eb, pz + 60, none⟩) heb).trans c60
  have k121 := (hb0.cell (p := ⟨eb, pz + 121, none⟩) heb).trans c121
  have HQ : Hid (q = max p T ∧ p ≤ E ∧ T ≤ E) := ⟨hq, hp, hT⟩
  have HR : Hid (r = min E (q + 20) ∧ q ≤ E ∧ E ≤ 60) := ⟨hr, by omega, hE⟩
  have HC : Hid (∀ X, Below w.heap.size w X → (convert 37 9 (.slice (some ⟨eb, offP pz q, none⟩) (r - q) (60 - q))).run Tryz.prog X = .ok (.string s) X) := hc
  have HSl : Hid (∀ X, (Instr.sliceAt 96 (.pointer (some ⟨eb, pz, none⟩)) (some (.int .i64 (q : Int))) (some (.int .i64 (r : Int))) none).run Tryz.prog X = .ok (.slice (some ⟨eb, offP pz q, none⟩) (r - q) (60 - q)) X) := hsl
  have HT0 : Hid (∀ i, i < 60 → (w.alloc (.cells #[.int .i64 0, .string { data := #[] }] 146)).cell? ⟨eb, pz + 61 + i, none⟩ = some (.bool (decide (i < T)))) := fun i hi => (hb0.cell (p := ⟨eb, pz + 61 + i, none⟩) heb).trans (ht i hi)
  have z0 : (w.alloc (.cells #[.int .i64 0, .string { data := #[] }] 146)).cell? ⟨w.heap.size, 0, none⟩ = some (.int .i64 0) := by simp
  have z1 : (w.alloc (.cells #[.int .i64 0, .string { data := #[] }] 146)).cell? ⟨w.heap.size, 1, none⟩ = some (.string { data := #[] }) := by simp
  have zf : ∀ i, (w.alloc (.cells #[.int .i64 0, .string { data := #[] }] 146)).frozen? ⟨w.heap.size, i, none⟩ = false := fun i => by simp
  clear hq hp hT hr hE c60 c121 ht hc hsl
  subst hEl
  go_enter Tryz.func150, Tryz.ntmps150
  go_wp2_with fail
  generalize w.alloc (.cells #[.int .i64 0, .string { data := #[] }] 146) = W at *
  go_quiet (fail)
  have HB0 : Hid (Below w.heap.size w (W.drewN nq)) := below_drewN hb0 nq
  have HT : Hid (∀ i, i < 60 → (W.drewN nq).cell? ⟨eb, pz + 61 + i, none⟩ = some (.bool (decide (i < T)))) := HT0
  have y0 : (W.drewN nq).cell? ⟨w.heap.size, 0, none⟩ = some (.int .i64 0) := z0
  have y1 : (W.drewN nq).cell? ⟨w.heap.size, 1, none⟩ = some (.string { data := #[] }) := z1
  have yf : ∀ i, (W.drewN nq).frozen? ⟨w.heap.size, i, none⟩ = false := zf
  clear HT0 z0 z1 zf hb0 k60 k121
  generalize W.drewN nq = W1 at *
  go_wp2_with fail
  go_loopg [1] (q - p) (fun gk s1 wr => ∃ k : Nat, gk + k = q ∧ p ≤ k ∧ s1 = .int .i64 k ∧ Hid (W1 = wr))
  case atStart => exact ⟨p, by have := HQ.out; omega, Nat.le_refl _, rfl, rfl⟩
  case round =>
    obtain ⟨k, hk, hpk, rfl, HW⟩ := hrel
    have HK : Hid (gk + k = q) := hk
    clear hk
    obtain rfl := HW.out
    clear HW
    have HB : Below w.heap.size w W1 := HB0.out
    by_cases g : k < q
    · have g1 : (k : Int) < (E : Int) := by have := HQ.out; omega
      have gb : (k : Int) < 60 := by have := HR.out; omega
      have x0 : W1.cell? ⟨eb, pz + 61 + k, none⟩ = some (.bool true) := by
        have := HT.out k (by have := HR.out; omega)
        rw [this, decide_eq_true (by have := HQ.out; omega)]
      go_wp2_with fail
      go_roundg (q - (k + 1))
      case measure => have := HK.out; omega
      case rel => exact ⟨k + 1, by have := HK.out; omega, by omega, by go_num, rfl⟩
    · obtain rfl : q = k := by have := HK.out; omega
      by_cases g1 : (q : Int) < (E : Int)
      · have gb : (q : Int) < 60 := by have := HR.out; omega
        have x0 : W1.cell? ⟨eb, pz + 61 + q, none⟩ = some (.bool false) := by
          have := HT.out q (by have := HR.out; omega)
          rw [this, decide_eq_false (by have := HQ.out; omega)]
        by_cases gm : (q : Int) + 20 < (E : Int)
        · go_wp2_with fail
          go_loopg [6] (r - q) (fun gk s6 wr => ∃ k : Nat, gk + k = r ∧ q ≤ k ∧ s6 = .int .i64 k ∧ Hid (W1 = wr))
          case atStart => exact ⟨q, by have := HR.out; omega, Nat.le_refl _, rfl, rfl⟩
          case round =>
            obtain ⟨k, hk, hqk, rfl, HW⟩ := hrel
            have HK : Hid (gk + k = r) := hk
            clear hk
            obtain rfl := HW.out
            clear HW
            by_cases g : k < r
            · have x0 : W1.cell? ⟨eb, pz + 61 + k, none⟩ = some (.bool false) := by
                have := HT.out k (by have := HR.out; omega)
                rw [this, decide_eq_false (by have := HQ.out; omega)]
              have g1 : (k : Int) < (q : Int) + 20 := by have := HR.out; omega
              have gk0 : (k : Int) < 60 := by have := HR.out; omega
              go_wp2_with fail
              go_roundg (r - (k + 1))
              case measure => have := HK.out; omega
              case rel => exact ⟨k + 1, by have := HK.out; omega, by omega, by go_num, rfl⟩
            · obtain rfl : r = k := by have := HK.out; omega
              have g1 : ¬ (r : Int) < (q : Int) + 20 := by have := HR.out; omega
              have hsl := HSl.out
              have HB1 : Hid (Below w.heap.size w W1) := HB
              have hcv := HC.out W1 HB1.out
              go_wp2_with fail
              refine bodyPost_ret (v := .agg #[.int .i64 (q : Int), .string s]) ?_ rfl ⟨rfl, ?_⟩
              · rw [results_cell1 rfl]; go_simp
              · exact ((HB1.out.setCell (p := ⟨w.heap.size, 0, none⟩) (Nat.le_refl _) _).setCell (p := ⟨w.heap.size, 1, none⟩) (Nat.le_refl _) _)
        · go_wp2_with fail
          go_loopg [6] (r - q) (fun gk s6 wr => ∃ k : Nat, gk + k = r ∧ q ≤ k ∧ s6 = .int .i64 k ∧ Hid (W1 = wr))
          case atStart => exact ⟨q, by have := HR.out; omega, Nat.le_refl _, rfl, rfl⟩
          case round =>
            obtain ⟨k, hk, hqk, rfl, HW⟩ := hrel
            have HK : Hid (gk + k = r) := hk
            clear hk
            obtain rfl := HW.out
            clear HW
            by_cases g : k < r
            · have x0 : W1.cell? ⟨eb, pz + 61 + k, none⟩ = some (.bool false) := by
                have := HT.out k (by have := HR.out; omega)
                rw [this, decide_eq_false (by have := HQ.out; omega)]
              have g1 : (k : Int) < (E : Int) := by have := HR.out; omega
              have gk0 : (k : Int) < 60 := by have := HR.out; omega
              go_wp2_with fail
              go_roundg (r - (k + 1))
              case measure => have := HK.out; omega
              case rel => exact ⟨k + 1, by have := HK.out; omega, by omega, by go_num, rfl⟩
            · obtain rfl : r = k := by have := HK.out; omega
              have g1 : ¬ (r : Int) < (E : Int) := by have := HR.out; omega
              have hsl := HSl.out
              have HB1 : Hid (Below w.heap.size w W1) := HB
              have hcv := HC.out W1 HB1.out
              go_wp2_with fail
              refine bodyPost_ret (v := .agg #[.int .i64 (q : Int), .string s]) ?_ rfl ⟨rfl, ?_⟩
              · rw [results_cell1 rfl]; go_simp
              · exact ((HB1.out.setCell (p := ⟨w.heap.size, 0, none⟩) (Nat.le_refl _) _).setCell (p := ⟨w.heap.size, 1, none⟩) (Nat.le_refl _) _)
      · have gm : ¬ (q : Int) + 20 < (E : Int) := by omega
        have gb : (q : Int) ≤ 60 := by have := HR.out; omega
        go_wp2_with fail
        go_loopg [6] (r - q) (fun gk s6 wr => ∃ k : Nat, gk + k = r ∧ q ≤ k ∧ s6 = .int .i64 k ∧ Hid (W1 = wr))
        case atStart => exact ⟨q, by have := HR.out; omega, Nat.le_refl _, rfl, rfl⟩
        case round =>
          obtain ⟨k, hk, hqk, rfl, HW⟩ := hrel
          have HK : Hid (gk + k = r) := hk
          clear hk
          obtain rfl := HW.out
          clear HW
          by_cases g : k < r
          · exfalso
            have := HR.out
            omega
          · obtain rfl : r = k := by have := HK.out; omega
            have g1 : ¬ (r : Int) < (E : Int) := by have := HR.out; omega
            have hsl := HSl.out
            have HB1 : Hid (Below w.heap.size w W1) := HB
            have hcv := HC.out W1 HB1.out
            go_wp2_with fail
            refine bodyPost_ret (v := .agg #[.int .i64 (q : Int), .string s]) ?_ rfl ⟨rfl, ?_⟩
            · rw [results_cell1 rfl]; go_simp
            · exact ((HB1.out.setCell (p := ⟨w.heap.size, 0, none⟩) (Nat.le_refl _) _).setCell (p := ⟨w.heap.size, 1, none⟩) (Nat.le_refl _) _)

theorem pieceFrom_calls {w : World} {B eb : Nat} {vl vc : Value} {e : En} (h : EP pz Qz w B eb vl vc e) (p : Nat) (hp : p ≤ en e) :
    Calls Tryz.prog 150 #[.pointer (some ⟨eb, pz, none⟩), .int .i64 (p : Int)] w fun ex w' => ex = .returned (.agg #[.int .i64 ((max p e.t : Nat) : Int), .string (e.d.extract (max p e.t) (min (en e) (max p e.t + 20)))]) ∧ Below w.heap.size w w' := by
  have h60 := h.inv.en60
  have ht := h.inv.t1
  have hle := en_le e
  have l0 := h.inv.l0
  have hc : ∀ X, Below w.heap.size w X → (convert 37 9 (.slice (some ⟨eb, offP pz (max p e.t), none⟩) (min (en e) (max p e.t + 20) - max p e.t) (60 - max p e.t))).run Tryz.prog X = .ok (.string (e.d.extract (max p e.t) (min (en e) (max p e.t + 20)))) X := fun X hX => convert_part h hX (by omega) (by omega)
  have hsl := fun X => run_slice60 (pz := pz) X eb (max p e.t) (min (en e) (max p e.t + 20)) (by omega) (by omega)
  by_cases hl : e.l < (e.d.size : Int)
  · exact pf_a hl (by unfold en; omega) h60 ht hp rfl rfl h.lt (h.cl 60 (by omega)) (h.cl 121 (by omega)) h.told hc hsl
  · exact pf_b hl (by unfold en; omega) h60 ht hp rfl rfl h.lt (h.cl 60 (by omega)) (h.cl 121 (by omega)) h.told hc hsl

end Go.Proofs.YtdokgalidhmbbaaGreatDoor.Ez
namespace Go.Proofs.YtdokgalidhmbbaaGreatDoor.Ez
open Go.RowKit Go.Lib Go.Sort


open Sx (bat)
variable {pz : Nat} {Qz : Nat → Option Value}
set_option maxRecDepth 100000 in
set_option maxHeartbeats 4000000 in
theorem pieces_calls {w : World} {B eb : Nat} {vl vc : Value} {e : En} (h : EP pz Qz w B eb vl vc e) :
    Calls Tryz.prog 124 #[.pointer (some ⟨eb, pz, none⟩)] w fun ex w' => ∃ v, ex = .returned v ∧ w'.ownsRow w.heap.size 146 2 v (pieces e).length (pcell (pieces e)) ∧ Below w.heap.size w w' := by
  obtain ⟨i0, hi0, hz0, hz1, hz2⟩ := info_parts infoP
  have HO : Hid (EP pz Qz w B eb vl vc e) := h
  clear h
  go_enter Tryz.func124, Tryz.ntmps124
  go_wp2_with fail
  go_loopg [3, 4, 6] 3 (fun gk s3 s4 s6 wr => ∃ (k place : Nat) (ao : Option Addr) (c : Nat) (l : List (Nat × ByteArray)), gk + k = 3 ∧ place ≤ en e ∧ Hid (l ++ pcs e.d (en e) (3 - k) (max place e.t) = pieces e) ∧ l.length ≤ k ∧ s3 = .slice ao l.length c ∧ s4 = .int .i64 place ∧ s6 = .int .i64 k ∧ wr.ownsRow w.heap.size 146 2 (.slice ao l.length c) l.length (pcell l) ∧ Below w.heap.size w wr)
  case atStart => exact ⟨0, 0, none, 0, [], rfl, Nat.zero_le _, (by show [] ++ pcs e.d (en e) 3 (max 0 e.t) = _; rw [Nat.zero_max]; rfl), Nat.le_refl _, rfl, rfl, rfl, World.ownsRow_nil _ _ _ _, Below.refl _ _⟩
  case round =>
    obtain ⟨k, place, ao, c, l, hk, hpl, hP, hlk, rfl, rfl, rfl, hown, hB⟩ := hrel
    have HK : Hid (gk + k = 3) := hk
    have HPL : Hid (place ≤ en e) := hpl
    clear hk hpl
    by_cases g : (k : Int) < 3
    · have hcall := pieceFrom_calls (HO.out.below hB) place HPL.out
      have h60 := HO.out.inv.en60
      have hen := en_le e
      obtain ⟨a, ha⟩ : ∃ a, max place e.t = a := ⟨_, rfl⟩
      have hae : a ≤ en e := by have := HPL.out; have := HO.out.inv.t1; omega
      rw [ha] at hcall hP
      have HT : Hid (e.t ≤ a) := by show _ ≤ _; omega
      clear ha
      by_cases g2 : a < en e
      · obtain ⟨s, hs⟩ : ∃ s, e.d.extract a (min (en e) (a + 20)) = s := ⟨_, rfl⟩
        have hsz : s.size = min (en e) (a + 20) - a := by rw [← hs, ByteArray.size_extract]; omega
        have hne : s.toList.isEmpty = false := toList_some (by omega)
        have HN : Hid ((l ++ [(a, s)]) ++ pcs e.d (en e) (3 - (k + 1)) (max (a + s.size) e.t) = pieces e) := by
          show _ = _
          rw [← hP.out, List.append_assoc, show 3 - k = (3 - (k + 1)) + 1 by omega, hsz, show max (a + (min (en e) (a + 20) - a)) e.t = min (en e) (a + 20) by have := HT.out; omega]
          simp only [pcs, if_pos g2, hs]
          rfl
        rw [hs] at hcall
        have HZ : Hid (a + s.size ≤ en e) := by show _ ≤ _; omega
        have hz20 : s.size ≤ 20 := by omega
        have ha60 : a ≤ 60 := by omega
        clear hs hsz hP hae h60 hen
        go_wp2_with fail
        refine hcall.mono ?_
        rintro ex w1 ⟨rfl, hb1⟩
        clear hcall
        have hB1 := hB.trans (hb1.mono hB.size)
        have ho1 := own_below hown hb1
        have hnb : some w1.heap.size ≠ (Value.slice ao l.length c).ownBlock := fun e => by have := (ho1.lt _ e.symm).2; omega
        have ho2 := ho1.alloc (.cells #[.int .i64 (a : Int), .string s] 146)
        have hB2 := hB1.alloc hB1.size (.cells #[.int .i64 (a : Int), .string s] 146)
        have ho3 := ho2.alloc (.cells #[.int .i64 (a : Int), .string s] 146)
        have hB3 := hB2.alloc hB2.size (.cells #[.int .i64 (a : Int), .string s] 146)
        have cs := pcell_new (w1.alloc (.cells #[.int .i64 (a : Int), .string s] 146)) a s
        rw [World.size_alloc] at cs
        have hle3 := hB3.size
        have q0 : ∀ X, w1.alloc (.cells #[.int .i64 (a : Int), .string s] 146) = X → X.cell? ⟨w1.heap.size, 0, none⟩ = some (.int .i64 (a : Int)) ∧ X.cell? ⟨w1.heap.size, 1, none⟩ = some (.string s) := by rintro X rfl; simp
        clear hB hb1 hown ho1 ho2 hB1 hB2
        go_wp2_with (at_builtin; refine wpList_append_own_at _ rfl (.tmp 14) (.tmp 16) 144 rfl w.heap.size 146 i0 _ 2 24 Tryz.underlying144 hi0 hz0 hz1 hz2 rfl (by decide) _ _ (pcell l) rfl ho3 ⟨w1.heap.size + 1, 0, none⟩ 1 1 (pcell [(a, s)]) rfl rfl cs (fun u hu => pcell_one u hu) (by unfold maxLen; omega) (by omega) hle3 ?_; intro v3 w12 ho12 hg12 _ hl12; obtain ⟨ao3, cap3, rfl⟩ := own_sh ho12; have d0 := cell_kept (b := w1.heap.size) (o := 0) (v := .int .i64 (a : Int)) (by simp) hg12 (by simp; omega) hnb; have d1 := cell_kept (b := w1.heap.size) (o := 1) (v := .string s) (by simp) hg12 (by simp; omega) hnb)
        have hB4 := hB3.grown hg12 hle3 (fun k e => (ho3.lt k e).1)
        have hl2 : (l ++ [(a, s)]).length = l.length + 1 := by simp
        go_roundg (3 - (k + 1))
        case measure => have := HK.out; omega
        case rel => exact ⟨k + 1, a + s.size, ao3, cap3, l ++ [(a, s)], by have := HK.out; omega, HZ.out, HN, by rw [hl2]; omega, by rw [hl2], by go_num, by go_num, by rw [hl2, pcell_append]; exact ho12, hB4⟩
      · have he : e.d.extract a (min (en e) (a + 20)) = { data := #[] } := extract_none (by omega)
        have HE : Hid (pieces e = l) := by
          show _ = _
          rw [← hP.out, show a = en e by omega, pcs_end, List.append_nil]
        rw [he] at hcall
        clear he hP
        go_wp2_with fail
        refine hcall.mono ?_
        rintro ex w1 ⟨rfl, hb1⟩
        clear hcall
        have hB1 := hB.trans (hb1.mono hB.size)
        have ho1 := own_below hown hb1
        have ho2 := ho1.alloc (.cells #[.int .i64 (a : Int), .string { data := #[] }] 146)
        have hB2 := hB1.alloc hB1.size (.cells #[.int .i64 (a : Int), .string { data := #[] }] 146)
        clear hB hb1 hown ho1 hB1
        go_wp2_with fail
        go_ret
        exact ⟨_, rfl, by rw [HE.out]; exact ho2, hB2⟩
    · have HE : Hid (pieces e = l) := by
        have h3 : k = 3 := by have := HK.out; omega
        show _ = _
        rw [← hP.out, h3]
        simp [pcs]
      clear hP
      go_wp2_with fail
      go_ret
      exact ⟨_, rfl, by rw [HE.out]; exact hown, hB⟩

end Go.Proofs.YtdokgalidhmbbaaGreatDoor.Ez
namespace Go.Proofs.YtdokgalidhmbbaaGreatDoor.Ez
open Go.RowKit Go.Lib Go.Sort


open Sx (bat)
variable {pz : Nat} {Qz : Nat → Option Value}
set_option maxRecDepth 100000 in
set_option maxHeartbeats 4000000 in
theorem frames_none {w : World} {B eb : Nat} {vl vc : Value} {e : En} (h : EP pz Qz w B eb vl vc e) (h0 : e.cm = []) {vp : Value} {Bp : Nat} {ps : List (Nat × ByteArray)} (hps : ps = pieces e) (hv : w.ownsRow Bp 146 2 vp ps.length (pcell ps)) :
    Calls Tryz.prog 126 #[.pointer (some ⟨eb, pz, none⟩), vp] w fun ex w' => ∃ v us, ex = .returned v ∧ FOwn w' w.heap.size v us (frs e) ∧ Below w.heap.size w w' := by
  obtain ⟨i0, hi0, hz0, hz1, hz2⟩ := info_parts infoF
  have HO : Hid (EP pz Qz w B eb vl vc e) := h
  have HV : Hid (w.ownsRow Bp 146 2 vp ps.length (pcell ps)) := hv
  have hm3 : ps.length ≤ 3 := by rw [hps]; exact pcs_length _ _ _ _
  have HM3 : Hid (ps.length ≤ 3) := hm3
  have HPE : Hid (∀ p ∈ ps, p.1 ≤ 60 ∧ p.2.size ≤ 20) := by
    show ∀ p ∈ ps, _
    intro p hp
    rw [hps] at hp
    have := pcs_each e.d (en e) (en_le e) 3 e.t p hp
    have := h.inv.en60
    omega
  have c250 := h.cl 250 (by omega)
  rw [ecell_came] at c250
  obtain ⟨aoc, cc, hvc⟩ := own_sh h.cm
  rw [hvc] at c250
  obtain ⟨aov, cv, hvp⟩ := own_sh hv
  have HVV : Hid (vp = .slice aov ps.length cv) := hvp
  rw [hvp]
  have HF : Hid ([] ++ [(4, [e.c.lim], nilB)] ++ ps.map pfr = frs e) := by
    show _ = _
    rw [hps]
    unfold frs
    rw [if_pos h0]
    rfl
  rw [h0] at c250
  simp only [List.length_nil] at c250
  clear h0
  clear h hv hps hvc hvp hm3
  go_enter Tryz.func126, Tryz.ntmps126
  have HX : Hid (FOwn w w.heap.size (.slice none 0 0) [] []) := FOwn.nil _ _
  have HB : Hid (Below w.heap.size w w) := Below.refl _ _
  have HL := fun X (hX : Below w.heap.size w X) => limit_calls (HO.out.below hX)
  have lim0 := HO.out.inv.c.l1
  have lim1 := HO.out.inv.c.l2
  have lim2 := HO.out.inv.c.w1
  have hgc : fF (4, [e.c.lim], nilB) = 0 := good_credit (by omega) (by omega)
  have HGC : Hid (fF (4, [e.c.lim], nilB) = 0) := hgc
  clear lim0 lim1 lim2 hgc
  generalize e.c.lim = z at HL HGC HF
  go_wp2_with (first | (go_at_call 154; refine (HL _ HB.out).mono ?_; rintro ex wy ⟨rfl, hwy⟩; obtain rfl := hwy.symm) | (at_builtin; refine wpList_append_own_at _ rfl (.tmp 23) (.tmp 30) 139 rfl w.heap.size 141 i0 _ 3 48 Tryz.underlying139 hi0 hz0 hz1 hz2 rfl (by decide) _ _ (fcs [] []) rfl ((HX.out.own.alloc _).alloc _) ⟨w.heap.size + 1, 0, none⟩ 1 1 [Value.int .i64 4, .slice (some ⟨w.heap.size, 0, none⟩) 1 1, .string { data := #[] }] rfl rfl (by have := cells_frame_new (w.alloc (.cells #[.int .i64 z] 3)) 4 (.slice (some ⟨w.heap.size, 0, none⟩) 1 1) { data := #[] } 141; rw [World.size_alloc] at this; exact this) (frame_one 4 _ 1 1 { data := #[] }) (by unfold maxLen; simp) (by simp) (by have := HB.out.size; simp; omega) ?_; intro v5 w5 ho5 hg5 hq5 hl5; clear hq5; obtain ⟨ao5, c5, rfl⟩ := own_sh ho5))
  have ho3 : OwnI ((w.alloc (.cells #[.int .i64 z] 3)).alloc (.cells #[.int .i64 4, .slice (some ⟨w.heap.size, 0, none⟩) 1 1, .string { data := #[] }] 141)) w.heap.size (.slice (some ⟨w.heap.size, 0, none⟩) 1 1) [z] := (World.ownsRow_lit (base := w.heap.size) (e := 3) (size := 1) w #[.int .i64 z] 1 HB.out.size (by unfold maxLen; omega) rfl).alloc _
  have hbx : Below w.heap.size w ((w.alloc (.cells #[.int .i64 z] 3)).alloc (.cells #[.int .i64 4, .slice (some ⟨w.heap.size, 0, none⟩) 1 1, .string { data := #[] }] 141)) := ((Below.refl _ _).alloc (Nat.le_refl _) _).alloc (by simp) _
  have HX5 : Hid (FOwn w5 w.heap.size (.slice ao5 1 c5) ([] ++ [.slice (some ⟨w.heap.size, 0, none⟩) 1 1]) ([] ++ [(4, [z], nilB)])) := (HX.out.below hbx).app (f := (4, [z], nilB)) ho3 HGC.out ho5 hg5
  have hB5 : Below w.heap.size w w5 := (HB.out.trans (hbx.mono HB.out.size)).grown hg5 (by have := HB.out.size; simp; omega) (fun k e => (HX.out.own.lt k e).1)
  clear ho3 hbx ho5 hg5 hl5 HX HL HGC HB
  generalize hU : ([] ++ [Value.slice (some ⟨w.heap.size, 0, none⟩) 1 1]) = us1 at HX5
  clear hU
  generalize hM : ps.length = m at HVV ⊢
  have HM : Hid (ps.length = m) := hM
  clear hM
  go_loopg [5, 34] m (fun gk s5 s34 wr => ∃ (k : Nat) (ao : Option Addr) (c : Nat) (us : List Value), gk + k = m ∧ s34 = .int .i64 k ∧ s5 = .slice ao (1 + k) c ∧ Hid (FOwn wr w.heap.size (.slice ao (1 + k) c) us (([] ++ [(4, [z], nilB)]) ++ (ps.take k).map pfr)) ∧ Hid (Below w.heap.size w wr))
  case atStart => exact ⟨0, ao5, c5, us1, rfl, rfl, rfl, (by show FOwn _ _ _ _ _; rw [List.take_zero, List.map_nil, List.append_nil]; exact HX5.out), hB5⟩
  case round =>
    obtain ⟨k, ao, c, us, hk, rfl, rfl, HX, HB⟩ := hrel
    have HK : Hid (gk + k = m) := hk
    clear hk
    have hk12 := HM3.out
    rw [HM.out] at hk12
    by_cases g : (k : Int) < (m : Int)
    · have hkl : k < ps.length := by have := HM.out; omega
      obtain ⟨gb, capv, hv1, hgb⟩ : ∃ gb capv, vp = .slice (some ⟨gb, 0, none⟩) m capv ∧ gb < w.heap.size := by
        rcases HV.out.2 with ⟨_, h0⟩ | ⟨gb, capv, cur, h1, h2, h3, _⟩
        · omega
        · exact ⟨gb, capv, by rw [h1, HM.out], (Array.getElem?_eq_some_iff.1 h3).1⟩
      have hv2 : Value.slice aov m cv = .slice (some ⟨gb, 0, none⟩) m capv := HVV.out.symm.trans hv1
      injection hv2 with e1 e2 e3
      subst e1 e3
      have hvv := HV.out
      rw [hv1, HM.out] at hvv
      have y0 := hvv.cellAt (k * 2) (by omega)
      have y1 := hvv.cellAt (k * 2 + 1) (by omega)
      rw [(pcell_at ps k hkl).1] at y0
      rw [(pcell_at ps k hkl).2] at y1
      have z0 := (HB.out.cell (p := ⟨gb, k * 2, none⟩) hgb).trans y0
      have z1 := (HB.out.cell (p := ⟨gb, k * 2 + 1, none⟩) hgb).trans y1
      have HN : Hid (([] ++ [(4, [z], nilB)]) ++ (ps.take (k + 1)).map pfr = (([] ++ [(4, [z], nilB)]) ++ (ps.take k).map pfr) ++ [pfr ps[k]]) := by
        show _ = _
        rw [List.take_succ_eq_append_getElem hkl, List.map_append, List.append_assoc]
        rfl
      have hpe := HPE.out ps[k] (List.getElem_mem hkl)
      have HGP : Hid (fF (pfr ps[k]) = 0) := good_piece (by omega) (by omega)
      have hlk : (([] ++ [(4, [z], nilB)]) ++ (ps.take k).map pfr).length = 1 + k := by simp; omega
      have HLK : Hid ((([] ++ [(4, [z], nilB)]) ++ (ps.take k).map pfr).length = 1 + k) := hlk
      clear hvv hv1 y0 y1 hlk
      generalize ps[k] = pp at *
      clear hkl
      obtain ⟨p, s⟩ := pp
      simp only at z0 z1
      generalize ([] ++ [(4, [z], nilB)]) ++ (ps.take k).map pfr = L at *
      have hox := HX.out.own
      rw [HLK.out] at hox
      have hsz := HB.out.size
      clear hpe
      go_wp2_with (at_builtin; refine wpList_append_own_at _ rfl (.tmp 38) (.tmp 45) 139 rfl w.heap.size 141 i0 _ 3 48 Tryz.underlying139 hi0 hz0 hz1 hz2 rfl (by decide) _ _ (fcs us L) rfl (((hox.alloc _).alloc _).alloc _) ⟨wr.heap.size + 1 + 1, 0, none⟩ 1 1 [Value.int .i64 3, .slice (some ⟨wr.heap.size + 1, 0, none⟩) 1 1, .string s] rfl rfl (by have := cells_frame_new ((wr.alloc (.cells #[.int .i64 (p : Int), .string s] 146)).alloc (.cells #[.int .i64 (p : Int)] 3)) 3 (.slice (some ⟨wr.heap.size + 1, 0, none⟩) 1 1) s 141; rw [World.size_alloc, World.size_alloc] at this; exact this) (frame_one 3 _ 1 1 s) (by unfold maxLen; omega) (by omega) (by simp; omega) ?_; intro v7 w7 ho7 hg7 hq7 hl7; clear hq7; obtain ⟨ao7, c7, rfl⟩ := own_sh ho7)
      have ho4 : OwnI (((wr.alloc (.cells #[.int .i64 (p : Int), .string s] 146)).alloc (.cells #[.int .i64 (p : Int)] 3)).alloc (.cells #[.int .i64 3, .slice (some ⟨wr.heap.size + 1, 0, none⟩) 1 1, .string s] 141)) w.heap.size (.slice (some ⟨wr.heap.size + 1, 0, none⟩) 1 1) [(p : Int)] := by
        have := (World.ownsRow_lit (base := w.heap.size) (e := 3) (size := 1) (wr.alloc (.cells #[.int .i64 (p : Int), .string s] 146)) #[.int .i64 (p : Int)] 1 (by simp; omega) (by unfold maxLen; omega) rfl).alloc (.cells #[.int .i64 3, .slice (some ⟨wr.heap.size + 1, 0, none⟩) 1 1, .string s] 141)
        rw [World.size_alloc] at this
        exact this
      have hbx : Below wr.heap.size wr (((wr.alloc (.cells #[.int .i64 (p : Int), .string s] 146)).alloc (.cells #[.int .i64 (p : Int)] 3)).alloc (.cells #[.int .i64 3, .slice (some ⟨wr.heap.size + 1, 0, none⟩) 1 1, .string s] 141)) := (((Below.refl _ _).alloc (Nat.le_refl _) _).alloc (by simp) _).alloc (by simp; omega) _
      have HX7 : Hid (FOwn w7 w.heap.size (.slice ao7 (1 + k + 1) c7) (us ++ [.slice (some ⟨wr.heap.size + 1, 0, none⟩) 1 1]) (L ++ [pfr (p, s)])) := (HX.out.below hbx).app (f := pfr (p, s)) ho4 HGP.out (by rw [HLK.out]; exact ho7) hg7
      have hB7 : Below w.heap.size w w7 := (HB.out.trans (hbx.mono HB.out.size)).grown hg7 (by simp; omega) (fun k e => (hox.lt k e).1)
      go_roundg (m - (k + 1))
      case measure => have := HK.out; omega
      case rel => exact ⟨k + 1, ao7, c7, _, by have := HK.out; omega, by go_num, by rw [Nat.add_assoc], (by show FOwn _ _ _ _ _; rw [HN.out, ← Nat.add_assoc]; exact HX7.out), hB7⟩
    · have HE : Hid (([] ++ [(4, [z], nilB)]) ++ (ps.take k).map pfr = frs e) := by
        show _ = _
        rw [List.take_of_length_le (by have := HM.out; have := HK.out; omega)]
        exact HF.out
      go_wp2_with fail
      go_ret
      exact ⟨_, rfl, ⟨us, by rw [← HE.out]; exact HX.out⟩, HB.out⟩

set_option maxRecDepth 100000 in
set_option maxHeartbeats 4000000 in
theorem frames_some {w : World} {B eb : Nat} {vl vc : Value} {e : En} (h : EP pz Qz w B eb vl vc e) (h0 : e.cm ≠ []) {vp : Value} {Bp : Nat} {ps : List (Nat × ByteArray)} (hps : ps = pieces e) (hv : w.ownsRow Bp 146 2 vp ps.length (pcell ps)) :
    Calls Tryz.prog 126 #[.pointer (some ⟨eb, pz, none⟩), vp] w fun ex w' => ∃ v us, ex = .returned v ∧ FOwn w' w.heap.size v us (frs e) ∧ Below w.heap.size w w' := by
  obtain ⟨i0, hi0, hz0, hz1, hz2⟩ := info_parts infoF
  have HO : Hid (EP pz Qz w B eb vl vc e) := h
  have HV : Hid (w.ownsRow Bp 146 2 vp ps.length (pcell ps)) := hv
  have hm3 : ps.length ≤ 3 := by rw [hps]; exact pcs_length _ _ _ _
  have HM3 : Hid (ps.length ≤ 3) := hm3
  have HPE : Hid (∀ p ∈ ps, p.1 ≤ 60 ∧ p.2.size ≤ 20) := by
    show ∀ p ∈ ps, _
    intro p hp
    rw [hps] at hp
    have := pcs_each e.d (en e) (en_le e) 3 e.t p hp
    have := h.inv.en60
    omega
  have c250 := h.cl 250 (by omega)
  rw [ecell_came] at c250
  obtain ⟨aoc, cc, hvc⟩ := own_sh h.cm
  rw [hvc] at c250
  obtain ⟨aov, cv, hvp⟩ := own_sh hv
  have HVV : Hid (vp = .slice aov ps.length cv) := hvp
  rw [hvp]
  have HF : Hid ([(2, unr e.cm, nilB)] ++ [(4, [e.c.lim], nilB)] ++ ps.map pfr = frs e) := by
    show _ = _
    rw [hps]
    unfold frs
    rw [if_neg h0]
    rfl
  have hcl : e.cm.length ≠ 0 := fun e' => h0 (List.eq_nil_of_length_eq_zero e')
  have h12 := ((chk_ok e.cm).1 h.inv.cm).1
  have HNU := fun X (hX : Below w.heap.size w X) => enumsOf_calls vc e.cm X (h.below hX).crow h12 h0
  have HGA : Hid (fF (2, unr e.cm, nilB) = 0) := good_ack h.inv.cm h0
  rw [hvc] at HNU
  generalize hN : e.cm.length = nc at *
  have gc : (0 : Int) < (nc : Int) := by omega
  generalize unr e.cm = uc at *
  clear h0 hN
  clear h hv hps hvc hvp hm3
  go_enter Tryz.func126, Tryz.ntmps126
  go_wp2_with fail
  refine (HNU _ (Below.refl _ _)).mono ?_
  rintro ex w1 ⟨v1, rfl, ho1, hb1⟩
  obtain ⟨a1, c1, hv1⟩ := own_sh ho1
  subst hv1
  have ho2 : OwnI (w1.alloc (.cells #[.int .i64 2, .slice a1 uc.length c1, .string { data := #[] }] 141)) w.heap.size (.slice a1 uc.length c1) uc := ho1.alloc _
  have hcn := cells_frame_new w1 2 (.slice a1 uc.length c1) { data := #[] } 141
  have hsz1 := hb1.size
  clear HNU ho1
  go_wp2_with (at_builtin; refine wpList_append_own_at _ rfl (.tmp 14) (.tmp 21) 139 rfl w.heap.size 141 i0 _ 3 48 Tryz.underlying139 hi0 hz0 hz1 hz2 rfl (by decide) _ _ (fcs [] []) rfl (World.ownsRow_nil _ _ _ _) ⟨w1.heap.size, 0, none⟩ 1 1 [Value.int .i64 2, .slice a1 uc.length c1, .string { data := #[] }] rfl rfl hcn (frame_one 2 a1 uc.length c1 { data := #[] }) (by unfold maxLen; simp) (by simp) (by simp; omega) ?_; intro vx wx hox hgx hqx hlx; clear hqx; obtain ⟨aox, cx, rfl⟩ := own_sh hox; have HX : Hid (FOwn wx w.heap.size (.slice aox 1 cx) [.slice a1 uc.length c1] [(2, uc, nilB)]) := (FOwn.nil (w1.alloc (.cells #[.int .i64 2, .slice a1 uc.length c1, .string { data := #[] }] 141)) w.heap.size).app (f := (2, uc, nilB)) ho2 HGA.out hox hgx; have HB : Hid (Below w.heap.size w wx) := (hb1.alloc hb1.size _).grown hgx (by simp; omega) (fun k e => by cases e); clear ho2 hcn hox hgx hlx)
  have HL := fun X (hX : Below w.heap.size w X) => limit_calls (HO.out.below hX)
  have lim0 := HO.out.inv.c.l1
  have lim1 := HO.out.inv.c.l2
  have lim2 := HO.out.inv.c.w1
  have hgc : fF (4, [e.c.lim], nilB) = 0 := good_credit (by omega) (by omega)
  have HGC : Hid (fF (4, [e.c.lim], nilB) = 0) := hgc
  clear lim0 lim1 lim2 hgc
  generalize e.c.lim = z at HL HGC HF
  go_wp2_with (first | (go_at_call 154; refine (HL _ HB.out).mono ?_; rintro ex wy ⟨rfl, hwy⟩; obtain rfl := hwy.symm) | (at_builtin; refine wpList_append_own_at _ rfl (.tmp 23) (.tmp 30) 139 rfl w.heap.size 141 i0 _ 3 48 Tryz.underlying139 hi0 hz0 hz1 hz2 rfl (by decide) _ _ (fcs [.slice a1 uc.length c1] [(2, uc, nilB)]) rfl ((HX.out.own.alloc _).alloc _) ⟨wx.heap.size + 1, 0, none⟩ 1 1 [Value.int .i64 4, .slice (some ⟨wx.heap.size, 0, none⟩) 1 1, .string { data := #[] }] rfl rfl (by have := cells_frame_new (wx.alloc (.cells #[.int .i64 z] 3)) 4 (.slice (some ⟨wx.heap.size, 0, none⟩) 1 1) { data := #[] } 141; rw [World.size_alloc] at this; exact this) (frame_one 4 _ 1 1 { data := #[] }) (by unfold maxLen; simp) (by simp) (by have := HB.out.size; simp; omega) ?_; intro v5 w5 ho5 hg5 hq5 hl5; clear hq5; obtain ⟨ao5, c5, rfl⟩ := own_sh ho5))
  have ho3 : OwnI ((wx.alloc (.cells #[.int .i64 z] 3)).alloc (.cells #[.int .i64 4, .slice (some ⟨wx.heap.size, 0, none⟩) 1 1, .string { data := #[] }] 141)) w.heap.size (.slice (some ⟨wx.heap.size, 0, none⟩) 1 1) [z] := (World.ownsRow_lit (base := w.heap.size) (e := 3) (size := 1) wx #[.int .i64 z] 1 HB.out.size (by unfold maxLen; omega) rfl).alloc _
  have hbx : Below wx.heap.size wx ((wx.alloc (.cells #[.int .i64 z] 3)).alloc (.cells #[.int .i64 4, .slice (some ⟨wx.heap.size, 0, none⟩) 1 1, .string { data := #[] }] 141)) := ((Below.refl _ _).alloc (Nat.le_refl _) _).alloc (by simp) _
  have HX5 : Hid (FOwn w5 w.heap.size (.slice ao5 2 c5) ([.slice a1 uc.length c1] ++ [.slice (some ⟨wx.heap.size, 0, none⟩) 1 1]) ([(2, uc, nilB)] ++ [(4, [z], nilB)])) := (HX.out.below hbx).app (f := (4, [z], nilB)) ho3 HGC.out ho5 hg5
  have hB5 : Below w.heap.size w w5 := (HB.out.trans (hbx.mono HB.out.size)).grown hg5 (by have := HB.out.size; simp; omega) (fun k e => (HX.out.own.lt k e).1)
  clear ho3 hbx ho5 hg5 hl5 HX HL HGC HB
  generalize hU : ([.slice a1 uc.length c1] ++ [Value.slice (some ⟨wx.heap.size, 0, none⟩) 1 1]) = us1 at HX5
  clear hU
  generalize hM : ps.length = m at HVV ⊢
  have HM : Hid (ps.length = m) := hM
  clear hM
  go_loopg [5, 34] m (fun gk s5 s34 wr => ∃ (k : Nat) (ao : Option Addr) (c : Nat) (us : List Value), gk + k = m ∧ s34 = .int .i64 k ∧ s5 = .slice ao (2 + k) c ∧ Hid (FOwn wr w.heap.size (.slice ao (2 + k) c) us (([(2, uc, nilB)] ++ [(4, [z], nilB)]) ++ (ps.take k).map pfr)) ∧ Hid (Below w.heap.size w wr))
  case atStart => exact ⟨0, ao5, c5, us1, rfl, rfl, rfl, (by show FOwn _ _ _ _ _; rw [List.take_zero, List.map_nil, List.append_nil]; exact HX5.out), hB5⟩
  case round =>
    obtain ⟨k, ao, c, us, hk, rfl, rfl, HX, HB⟩ := hrel
    have HK : Hid (gk + k = m) := hk
    clear hk
    have hk12 := HM3.out
    rw [HM.out] at hk12
    by_cases g : (k : Int) < (m : Int)
    · have hkl : k < ps.length := by have := HM.out; omega
      obtain ⟨gb, capv, hv1, hgb⟩ : ∃ gb capv, vp = .slice (some ⟨gb, 0, none⟩) m capv ∧ gb < w.heap.size := by
        rcases HV.out.2 with ⟨_, h0⟩ | ⟨gb, capv, cur, h1, h2, h3, _⟩
        · omega
        · exact ⟨gb, capv, by rw [h1, HM.out], (Array.getElem?_eq_some_iff.1 h3).1⟩
      have hv2 : Value.slice aov m cv = .slice (some ⟨gb, 0, none⟩) m capv := HVV.out.symm.trans hv1
      injection hv2 with e1 e2 e3
      subst e1 e3
      have hvv := HV.out
      rw [hv1, HM.out] at hvv
      have y0 := hvv.cellAt (k * 2) (by omega)
      have y1 := hvv.cellAt (k * 2 + 1) (by omega)
      rw [(pcell_at ps k hkl).1] at y0
      rw [(pcell_at ps k hkl).2] at y1
      have z0 := (HB.out.cell (p := ⟨gb, k * 2, none⟩) hgb).trans y0
      have z1 := (HB.out.cell (p := ⟨gb, k * 2 + 1, none⟩) hgb).trans y1
      have HN : Hid (([(2, uc, nilB)] ++ [(4, [z], nilB)]) ++ (ps.take (k + 1)).map pfr = (([(2, uc, nilB)] ++ [(4, [z], nilB)]) ++ (ps.take k).map pfr) ++ [pfr ps[k]]) := by
        show _ = _
        rw [List.take_succ_eq_append_getElem hkl, List.map_append, List.append_assoc]
        rfl
      have hpe := HPE.out ps[k] (List.getElem_mem hkl)
      have HGP : Hid (fF (pfr ps[k]) = 0) := good_piece (by omega) (by omega)
      have hlk : (([(2, uc, nilB)] ++ [(4, [z], nilB)]) ++ (ps.take k).map pfr).length = 2 + k := by simp; omega
      have HLK : Hid ((([(2, uc, nilB)] ++ [(4, [z], nilB)]) ++ (ps.take k).map pfr).length = 2 + k) := hlk
      clear hvv hv1 y0 y1 hlk
      generalize ps[k] = pp at *
      clear hkl
      obtain ⟨p, s⟩ := pp
      simp only at z0 z1
      generalize ([(2, uc, nilB)] ++ [(4, [z], nilB)]) ++ (ps.take k).map pfr = L at *
      have hox := HX.out.own
      rw [HLK.out] at hox
      have hsz := HB.out.size
      clear hpe
      go_wp2_with (at_builtin; refine wpList_append_own_at _ rfl (.tmp 38) (.tmp 45) 139 rfl w.heap.size 141 i0 _ 3 48 Tryz.underlying139 hi0 hz0 hz1 hz2 rfl (by decide) _ _ (fcs us L) rfl (((hox.alloc _).alloc _).alloc _) ⟨wr.heap.size + 1 + 1, 0, none⟩ 1 1 [Value.int .i64 3, .slice (some ⟨wr.heap.size + 1, 0, none⟩) 1 1, .string s] rfl rfl (by have := cells_frame_new ((wr.alloc (.cells #[.int .i64 (p : Int), .string s] 146)).alloc (.cells #[.int .i64 (p : Int)] 3)) 3 (.slice (some ⟨wr.heap.size + 1, 0, none⟩) 1 1) s 141; rw [World.size_alloc, World.size_alloc] at this; exact this) (frame_one 3 _ 1 1 s) (by unfold maxLen; omega) (by omega) (by simp; omega) ?_; intro v7 w7 ho7 hg7 hq7 hl7; clear hq7; obtain ⟨ao7, c7, rfl⟩ := own_sh ho7)
      have ho4 : OwnI (((wr.alloc (.cells #[.int .i64 (p : Int), .string s] 146)).alloc (.cells #[.int .i64 (p : Int)] 3)).alloc (.cells #[.int .i64 3, .slice (some ⟨wr.heap.size + 1, 0, none⟩) 1 1, .string s] 141)) w.heap.size (.slice (some ⟨wr.heap.size + 1, 0, none⟩) 1 1) [(p : Int)] := by
        have := (World.ownsRow_lit (base := w.heap.size) (e := 3) (size := 1) (wr.alloc (.cells #[.int .i64 (p : Int), .string s] 146)) #[.int .i64 (p : Int)] 1 (by simp; omega) (by unfold maxLen; omega) rfl).alloc (.cells #[.int .i64 3, .slice (some ⟨wr.heap.size + 1, 0, none⟩) 1 1, .string s] 141)
        rw [World.size_alloc] at this
        exact this
      have hbx : Below wr.heap.size wr (((wr.alloc (.cells #[.int .i64 (p : Int), .string s] 146)).alloc (.cells #[.int .i64 (p : Int)] 3)).alloc (.cells #[.int .i64 3, .slice (some ⟨wr.heap.size + 1, 0, none⟩) 1 1, .string s] 141)) := (((Below.refl _ _).alloc (Nat.le_refl _) _).alloc (by simp) _).alloc (by simp; omega) _
      have HX7 : Hid (FOwn w7 w.heap.size (.slice ao7 (2 + k + 1) c7) (us ++ [.slice (some ⟨wr.heap.size + 1, 0, none⟩) 1 1]) (L ++ [pfr (p, s)])) := (HX.out.below hbx).app (f := pfr (p, s)) ho4 HGP.out (by rw [HLK.out]; exact ho7) hg7
      have hB7 : Below w.heap.size w w7 := (HB.out.trans (hbx.mono HB.out.size)).grown hg7 (by simp; omega) (fun k e => (hox.lt k e).1)
      go_roundg (m - (k + 1))
      case measure => have := HK.out; omega
      case rel => exact ⟨k + 1, ao7, c7, _, by have := HK.out; omega, by go_num, by rw [Nat.add_assoc], (by show FOwn _ _ _ _ _; rw [HN.out, ← Nat.add_assoc]; exact HX7.out), hB7⟩
    · have HE : Hid (([(2, uc, nilB)] ++ [(4, [z], nilB)]) ++ (ps.take k).map pfr = frs e) := by
        show _ = _
        rw [List.take_of_length_le (by have := HM.out; have := HK.out; omega)]
        exact HF.out
      go_wp2_with fail
      go_ret
      exact ⟨_, rfl, ⟨us, by rw [← HE.out]; exact HX.out⟩, HB.out⟩

theorem frames_calls {w : World} {B eb : Nat} {vl vc : Value} {e : En} (h : EP pz Qz w B eb vl vc e) {vp : Value} {Bp : Nat} (hv : w.ownsRow Bp 146 2 vp (pieces e).length (pcell (pieces e))) :
    Calls Tryz.prog 126 #[.pointer (some ⟨eb, pz, none⟩), vp] w fun ex w' => ∃ v us, ex = .returned v ∧ FOwn w' w.heap.size v us (frs e) ∧ Below w.heap.size w w' := by
  by_cases h0 : e.cm = []
  · exact frames_none h h0 rfl hv
  · exact frames_some h h0 rfl hv

end Go.Proofs.YtdokgalidhmbbaaGreatDoor.Ez
