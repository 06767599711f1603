/- What the laws of package run need. -/
import Derived.Test.YtdokgalidhmbbaaGreatDoorHWX
set_option linter.unusedVariables false
set_option linter.unusedSimpArgs false
set_option maxRecDepth 100000
set_option maxHeartbeats 8000000
namespace Go.Proofs.YtdokgalidhmbbaaGreatDoor
namespace Rn
open Go.RowKit

def factT : List UInt8 := [119, 114, 105, 116, 101, 32, 48, 32, 104, 101, 108, 108, 111, 10, 115, 101, 110, 100, 32, 48, 10, 99, 111, 117, 110, 116, 10, 114, 101, 97, 100, 32, 49, 32, 57, 10, 99, 111, 109, 101, 32, 48, 10, 102, 108, 121, 10, 114, 101, 97, 100, 32, 49, 32, 50, 10, 114, 101, 97, 100, 32, 49, 32, 57, 10, 118, 97, 114, 105, 110, 116, 32, 51, 48, 48, 10, 110, 101, 101, 100, 32, 57, 32, 51, 10, 110, 101, 101, 100, 32, 51, 32, 57, 10, 99, 111, 109, 101, 32, 48, 10]
def factA : List UInt8 := [111, 107, 10, 111, 107, 10, 49, 10, 45, 10, 111, 107, 10, 98, 97, 100, 10, 104, 101, 10, 108, 108, 111, 10, 54, 53, 32, 52, 52, 10, 49, 10, 69, 114, 114, 82, 97, 110, 103, 101, 10, 69, 114, 114, 82, 97, 110, 103, 101, 10]
set_option maxRecDepth 100000 in
theorem fact_is : runL factT = factA := by kernel_rfl
end Rn
end Go.Proofs.YtdokgalidhmbbaaGreatDoor
namespace Go.Proofs.YtdokgalidhmbbaaGreatDoor
namespace Rn
open Go.RowKit

theorem last_take {l : List UInt8} {k : Nat} (h0 : 0 < k) (hk : k ≤ l.length) : (l.take k).getLast? = l[k - 1]? := by
  rw [List.getLast?_eq_getElem?, List.length_take, Nat.min_eq_left hk, List.getElem?_take_of_lt (by omega)]
theorem bat_at {s : ByteArray} {k : Nat} (hk : k < s.size) (h : Sx.bat s k = 10) : s.data.toList[k]? = some 10 := by
  have hk2 : k < s.data.toList.length := by rw [← Lib.size_eq]; exact hk
  unfold Sx.bat at h
  rw [← Array.getElem?_toList, List.getElem?_eq_getElem hk2] at h
  rw [List.getElem?_eq_getElem hk2]
  simp only [Option.getD_some] at h
  refine congrArg some (UInt8.toNat_inj.1 ?_)
  show _ = 10
  omega
set_option maxRecDepth 100000 in
set_option maxHeartbeats 4000000 in
theorem begins_calls (s : ByteArray) (n : Int) (hl : s.size ≤ 140737488355328) {w : World} {bv : Value} (ha : Al w bv) : Calls Tryz.prog 4 #[.string s, .int .i64 n] w fun e w' => e = .returned (.bool true) ∧ Below w.heap.size w w' := by
  have HF := run_calls (str factT) (by rw [str_size]; decide) ha
  rw [str_list, fact_is] at HF
  obtain ⟨fa, hfa⟩ : ∃ fa, str factA = fa := ⟨_, rfl⟩
  have hq : (fa.toList == [111, 107, 10, 111, 107, 10, 49, 10, 45, 10, 111, 107, 10, 98, 97, 100, 10, 104, 101, 10, 108, 108, 111, 10, 54, 53, 32, 52, 52, 10, 49, 10, 69, 114, 114, 82, 97, 110, 103, 101, 10, 69, 114, 114, 82, 97, 110, 103, 101, 10]) = true := by
    rw [← hfa, toList_data, str_list]
    exact beq_self_eq_true factA
  rw [hfa] at HF
  clear hfa
  have HA : Hid (Al w bv) := ha
  clear ha
  have hz : Hid (s.size = s.data.toList.length) := Lib.size_eq s
  by_cases h3 : 3000 < s.size
  · have HR : Hid (∀ w2, Below w.heap.size w w2 → Calls Tryz.prog 6 #[.string s] w2 fun e w' => e = .returned (.string (str longL)) ∧ Below w2.heap.size w2 w') := fun w2 hb => by
      have := run_calls s (by omega) (HA.out.below hb)
      have e : runL s.data.toList = longL := by unfold runL; rw [if_pos (by have := hz.out; omega)]
      rwa [e] at this
    have g : (3000 : Int) < (s.size : Int) := by omega
    go_enter Tryz.func4, Tryz.ntmps4
    rw [show str longL = ⟨#[116, 111, 111, 32, 108, 111, 110, 103, 10]⟩ from rfl] at HR
    go_wp2_with (first | (go_at_call 6; refine HF.mono ?_; clear HF; rintro e w2 ⟨rfl, hb2⟩; have HR2 := HR.out w2 hb2) | (go_at_call 6; refine HR2.mono ?_; rintro e w3 ⟨rfl, hb3⟩))
    go_ret
    exact ⟨rfl, hb2.trans (hb3.mono hb2.size)⟩
  · have g : ¬ (3000 : Int) < (s.size : Int) := by omega
    have hix : Hid (∀ k : Nat, k < s.size → ∀ W, (Instr.index 9 (.string s) (.int .i64 (k : Int))).run Tryz.prog W = .ok (.int .u8 (Sx.bat s k)) W) := fun k hk W => Sx.index_at hk W
    go_enter Tryz.func4, Tryz.ntmps4
    go_wp2_with (go_at_call 6; refine HF.mono ?_; clear HF; rintro e w2 ⟨rfl, hb2⟩)
    go_loopw [7, 8] (fun v c wr => ∃ k m : Nat, k ≤ s.size ∧ m ≤ k ∧ v = .int .i64 k ∧ c = .int .i64 m ∧ wr = w2 ∧ Hid (k = 0 ∨ Sx.bat s (k - 1) = 10 ∨ (m : Int) < n)) (fun v _ _ => s.size - (intOf v).toNat)
    case atStart => exact ⟨0, 0, Nat.zero_le _, Nat.le_refl _, rfl, rfl, rfl, .inl rfl⟩
    case round =>
      obtain ⟨k, m, hk, hm, rfl, rfl, rfl, hI⟩ := hrel
      by_cases hc : k < s.size ∧ (m : Int) < n
      · obtain ⟨c1, c2⟩ := hc
        have g1 : (k : Int) < (s.size : Int) := by omega
        have hi := hix.out k c1
        by_cases h10 : Sx.bat s k = 10
        · rw [h10] at hi
          go_wp2
          go_roundw
          case rel => exact ⟨k + 1, m + 1, by omega, by omega, by simp, by simp, trivial, .inr (.inl h10)⟩
          case measure => simp [intOf]; omega
        · go_wp2
          go_roundw
          case rel => exact ⟨k + 1, m, by omega, by omega, by simp, rfl, trivial, .inr (.inr c2)⟩
          case measure => simp [intOf]; omega
      · have hlk : s.data.toList.length = s.size := hz.out.symm
        have hpre : ∃ c, runL s.data.toList = runL (s.data.toList.take k) ++ c := by
          have := run_begins (s.data.toList.take k) (s.data.toList.drop k) ?_ (by rw [List.take_append_drop]; omega)
          · rwa [List.take_append_drop] at this
          · by_cases hk0 : k = 0
            · subst hk0; exact .inl rfl
            · by_cases hks : k < s.size
              · refine .inr (.inr ?_)
                rw [last_take (by omega) (by omega)]
                rcases hI.out with h | h | h
                · exact absurd h hk0
                · exact bat_at (by omega) h
                · exact absurd ⟨hks, h⟩ hc
              · refine .inr (.inl (List.drop_eq_nil_of_le (by omega)))
        obtain ⟨c, hpre⟩ := hpre
        have hu : ∀ W, (Instr.slice 9 (.string s) none (some (.int .i64 (k : Int))) none).run Tryz.prog W = .ok (.string (str (s.data.toList.take k))) W := fun W => by
          have := sl_upto s k hk (by omega) W
          rwa [show s.extract 0 k = str (s.data.toList.take k) by rw [← str_upto, str_of]] at this
        have HP : Hid (∀ w2, Below w.heap.size w w2 → Calls Tryz.prog 6 #[.string (str (s.data.toList.take k))] w2 fun e w' => e = .returned (.string (str (runL (s.data.toList.take k)))) ∧ Below w2.heap.size w2 w') := fun w2 hb => by
          have := run_calls (str (s.data.toList.take k)) (by rw [str_size, List.length_take]; omega) (HA.out.below hb)
          rwa [str_list] at this
        have HS : Hid (∀ w2, Below w.heap.size w w2 → Calls Tryz.prog 6 #[.string s] w2 fun e w' => e = .returned (.string (str (runL s.data.toList))) ∧ Below w2.heap.size w2 w') := fun w2 hb => run_calls s (by omega) (HA.out.below hb)
        have hle : (str (runL (s.data.toList.take k))).size ≤ (str (runL s.data.toList)).size := by rw [str_size, str_size, hpre, List.length_append]; omega
        have hsz : (str (runL s.data.toList)).size ≤ 9223372036854775807 := by
          have h1 := ses_len (lnsF s.data.toList) (newT 20)
          have h2 := lns_count s.data.toList
          rw [str_size]
          unfold runL
          rw [if_neg (by omega)]
          omega
        have hx : (str (runL s.data.toList)).extract 0 (str (runL (s.data.toList.take k))).size = str (runL (s.data.toList.take k)) := by
          rw [str_upto, str_size, hpre, List.take_left]
        have hsl : ∀ W, (Instr.slice 9 (.string (str (runL s.data.toList))) none (some (.int .i64 ((str (runL (s.data.toList.take k))).size : Int))) none).run Tryz.prog W = .ok (.string (str (runL (s.data.toList.take k)))) W := fun W => by
          have := sl_upto (str (runL s.data.toList)) (str (runL (s.data.toList.take k))).size hle hsz W
          rwa [hx] at this
        have g2 : ((str (runL (s.data.toList.take k))).size : Int) ≤ ((str (runL s.data.toList)).size : Int) := by omega
        clear hx hpre hle hsz hlk hI hix
        generalize str (runL s.data.toList) = rb at *
        generalize str (runL (s.data.toList.take k)) = ra at *
        generalize str (s.data.toList.take k) = sp at *
        have HP2 := HP.out wr hb2
        have fin : (¬ (k : Int) < (s.size : Int)) ∨ ((k : Int) < (s.size : Int) ∧ ¬ (m : Int) < n) := by
          by_cases hks : k < s.size
          · exact .inr ⟨by omega, fun h => hc ⟨hks, h⟩⟩
          · exact .inl (by omega)
        clear hc
        rcases fin with f1 | ⟨f1, f2⟩
        · go_wp2_with (first | (go_at_call 6; refine HP2.mono ?_; clear HP2; rintro e w3 ⟨rfl, hb3⟩; have hb23 := hb2.trans (hb3.mono hb2.size); have HS2 := HS.out w3 hb23) | (go_at_call 6; refine HS2.mono ?_; rintro e w4 ⟨rfl, hb4⟩))
          go_ret
          exact ⟨by simp, hb23.trans (hb4.mono hb23.size)⟩
        · go_wp2_with (first | (go_at_call 6; refine HP2.mono ?_; clear HP2; rintro e w3 ⟨rfl, hb3⟩; have hb23 := hb2.trans (hb3.mono hb2.size); have HS2 := HS.out w3 hb23) | (go_at_call 6; refine HS2.mono ?_; rintro e w4 ⟨rfl, hb4⟩))
          go_ret
          exact ⟨by simp, hb23.trans (hb4.mono hb23.size)⟩
end Rn
end Go.Proofs.YtdokgalidhmbbaaGreatDoor
