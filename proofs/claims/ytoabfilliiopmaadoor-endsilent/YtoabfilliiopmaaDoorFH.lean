/- What takePiece, takeAck and takeNums answer. -/
import Derived.Test.YtoabfilliiopmaaDoorFG
namespace Go.Proofs.YtoabfilliiopmaaDoor
open Go.RowKit Go.Lib Go.Sort
set_option linter.unusedVariables false
set_option linter.unusedSimpArgs false


theorem run_from (s : ByteArray) (a : Nat) (h : a ≤ s.size) (hl : s.size ≤ 9223372036854775807) (w : World) : (Instr.slice 9 (.string s) (some (.int .i64 (a : Int))) none none).run Tryd.prog w = .ok (.string (s.extract a s.size)) w := by
  have h' : (a : Int) ≤ (s.size : Int) := by omega
  have e := Tryd.underlying9
  go_simp
theorem run_upto (s : ByteArray) (b : Nat) (h : b ≤ s.size) (hl : s.size ≤ 9223372036854775807) (w : World) : (Instr.slice 9 (.string s) none (some (.int .i64 (b : Int))) none).run Tryd.prog w = .ok (.string (s.extract 0 b)) w := by
  have h' : (b : Int) ≤ (s.size : Int) := by omega
  have e := Tryd.underlying9
  go_simp
theorem run_both (s : ByteArray) (a b : Nat) (hab : a ≤ b) (h : b ≤ s.size) (hl : s.size ≤ 9223372036854775807) (w : World) : (Instr.slice 9 (.string s) (some (.int .i64 (a : Int))) (some (.int .i64 (b : Int))) none).run Tryd.prog w = .ok (.string (s.extract a b)) w := by
  have h' : (b : Int) ≤ (s.size : Int) := by omega
  have h'' : (a : Int) ≤ (b : Int) := by omega
  have e := Tryd.underlying9
  go_simp
theorem ext_pre (s : ByteArray) (A q : Nat) (hA : A ≤ s.size) (hB : A + q ≤ s.size) : (s.extract A s.size).extract 0 q = s.extract A (A + q) := by
  apply ints_inj
  rw [ints_extract, ints_drop s A hA, ints_extract]
  simp
abbrev noPiece : Ending := .returned (.tuple #[.string { data := #[] }, .string { data := #[] }, errS])

set_option maxRecDepth 100000 in
set_option maxHeartbeats 4000000 in
theorem piece_bad (s : ByteArray) (w : World) (hF : V.Forms w) (hl : s.size ≤ maxLen) (h : V.getI (V.ints s) = none) : Calls Tryd.prog 33 #[.string s] w fun e w' => e = noPiece ∧ Below w.heap.size w w' := by
  have HG := V.get_all s w hF hl
  rw [h] at HG
  simp only [V.getV] at HG
  simp only [noPiece, errS]
  clear h hF hl
  go_enter Tryd.func33, Tryd.ntmps33
  go_wp2_with (first | (go_at_call 40; refine HG.mono ?_; rintro e w1 ⟨rfl, hb1⟩))
  go_ret3
  exact ⟨rfl, hb1⟩

set_option maxRecDepth 100000 in
set_option maxHeartbeats 4000000 in
theorem piece_big (s : ByteArray) (w : World) (hF : V.Forms w) (hl : s.size ≤ maxLen) (n : Int) (c : Nat) (h : V.getI (V.ints s) = some (n, (c : Int))) (hc : c ≤ s.size) (h20 : 20 < n) : Calls Tryd.prog 33 #[.string s] w fun e w' => e = noPiece ∧ Below w.heap.size w w' := by
  have HG := V.get_all s w hF hl
  unfold maxLen at hl
  have hsl := run_from s c hc hl
  rw [h] at HG
  simp only [V.getV] at HG
  simp only [noPiece, errS]
  generalize s.extract c s.size = t at hsl
  clear h hF hl hc
  go_enter Tryd.func33, Tryd.ntmps33
  go_wp2_with (first | (go_at_call 40; refine HG.mono ?_; rintro e w1 ⟨rfl, hb1⟩))
  go_ret3
  exact ⟨rfl, hb1⟩

set_option maxRecDepth 100000 in
set_option maxHeartbeats 4000000 in
theorem piece_short (s : ByteArray) (w : World) (hF : V.Forms w) (hl : s.size ≤ maxLen) (n : Int) (c : Nat) (h : V.getI (V.ints s) = some (n, (c : Int))) (hc : c ≤ s.size) (h20 : n ≤ 20) (hs : (s.size : Int) < c + n) : Calls Tryd.prog 33 #[.string s] w fun e w' => e = noPiece ∧ Below w.heap.size w w' := by
  have HG := V.get_all s w hF hl
  unfold maxLen at hl
  have hsl := run_from s c hc hl
  rw [h] at HG
  simp only [V.getV] at HG
  simp only [noPiece, errS]
  have ht : (s.extract c s.size).size = s.size - c := by rw [ByteArray.size_extract]; omega
  generalize s.extract c s.size = t at hsl ht
  have g1 : (t.size : Int) < n := by omega
  have g20 : ¬ 20 < n := by omega
  have tl : t.size ≤ 9223372036854775807 := by omega
  clear h hF hl hc ht hs h20
  go_enter Tryd.func33, Tryd.ntmps33
  go_wp2_with (first | (go_at_call 40; refine HG.mono ?_; rintro e w1 ⟨rfl, hb1⟩))
  go_ret3
  exact ⟨rfl, hb1⟩

set_option maxRecDepth 100000 in
set_option maxHeartbeats 4000000 in
theorem piece_go (s : ByteArray) (w : World) (hF : V.Forms w) (hl : s.size ≤ maxLen) (q c : Nat) (h : V.getI (V.ints s) = some ((q : Int), (c : Int))) (hc : c + q ≤ s.size) (h20 : q ≤ 20) : Calls Tryd.prog 33 #[.string s] w fun e w' => e = .returned (.tuple #[.string (s.extract c (c + q)), .string (s.extract (c + q) s.size), .nilIface]) ∧ Below w.heap.size w w' := by
  have HG := V.get_all s w hF hl
  unfold maxLen at hl
  have hsl := run_from s c (by omega) hl
  rw [h] at HG
  simp only [V.getV] at HG
  have ht : (s.extract c s.size).size = s.size - c := by rw [ByteArray.size_extract]; omega
  have e1 := ext_pre s c q (by omega) hc
  have e2 := ext_ext s c q (by omega) hc
  generalize s.extract c s.size = t at *
  have hs1 := run_upto t q (by omega) (by omega)
  have hs2 := run_from t q (by omega) (by omega)
  rw [e1] at hs1
  rw [e2] at hs2
  have z1 : (s.extract c (c + q)).size ≤ 20 := by rw [ByteArray.size_extract]; omega
  generalize s.extract c (c + q) = t1 at *
  generalize s.extract (c + q) s.size = t2 at *
  have g1 : ¬ (t.size : Int) < (q : Int) := by omega
  have g20 : ¬ (20 : Int) < (q : Int) := by omega
  have tl : t.size ≤ 9223372036854775807 := by omega
  have HCl := fun W => clone_calls t1 W z1
  clear h hF hl hc ht e1 e2 z1 h20
  go_enter Tryd.func33, Tryd.ntmps33
  go_wp2_with (first | (go_at_call 40; refine HG.mono ?_; rintro e w1 ⟨rfl, hb1⟩))
  go_region_with (first | (go_at_call 41; refine (HCl _).mono ?_; rintro e w2 ⟨rfl, hb2⟩))
  go_wp2_with fail
  go_ret3
  exact ⟨rfl, hb1.trans ((Below.refl _ w1).drew.trans (hb2.mono (Nat.le_refl _)) |>.mono hb1.size)⟩
theorem piece_no (s : ByteArray) (w : World) (hF : V.Forms w) (hl : s.size ≤ maxLen) (h : rdPiece (V.ints s) = none) : Calls Tryd.prog 33 #[.string s] w fun e w' => e = noPiece ∧ Below w.heap.size w w' := by
  unfold rdPiece at h
  cases hg : V.getI (V.ints s) with
  | none => exact piece_bad s w hF hl hg
  | some x =>
    obtain ⟨n, c⟩ := x
    obtain ⟨cn, rfl, hc4, hcl, hd0, hd1⟩ := get_nat (bytes_ints s) hg
    rw [ints_length] at hcl
    rw [hg] at h
    simp only [ints_length] at h
    by_cases h20 : 20 < n
    · exact piece_big s w hF hl n cn hg hcl h20
    · by_cases hs : (s.size : Int) < cn + n
      · exact piece_short s w hF hl n cn hg hcl (by omega) hs
      · rw [if_neg (by omega)] at h; cases h
theorem piece_yes (s : ByteArray) (w : World) (hF : V.Forms w) (hl : s.size ≤ maxLen) (q c : Nat) (h : rdPiece (V.ints s) = some (q, c)) : Calls Tryd.prog 33 #[.string s] w fun e w' => e = .returned (.tuple #[.string (s.extract c (c + q)), .string (s.extract (c + q) s.size), .nilIface]) ∧ Below w.heap.size w w' := by
  unfold rdPiece at h
  cases hg : V.getI (V.ints s) with
  | none => rw [hg] at h; cases h
  | some x =>
    obtain ⟨n, c'⟩ := x
    obtain ⟨cn, rfl, hc4, hcl, hd0, hd1⟩ := get_nat (bytes_ints s) hg
    rw [hg] at h
    simp only [ints_length] at h
    split at h
    · cases h
    · rename_i hh
      simp only [Option.some.injEq, Prod.mk.injEq] at h
      obtain ⟨rfl, rfl⟩ := h
      refine piece_go s w hF hl n.toNat (cn : Int).toNat ?_ (by omega) (by omega)
      rw [hg, Int.toNat_natCast, show ((n.toNat : Nat) : Int) = n by omega]
end Go.Proofs.YtoabfilliiopmaaDoor
