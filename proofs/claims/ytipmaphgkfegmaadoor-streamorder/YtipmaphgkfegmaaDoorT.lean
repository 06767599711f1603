/- What Take answers, and what it leaves. -/
import Derived.Test.YtipmaphgkfegmaaDoorD
import Derived.Laws.BytesArg
namespace Go.Proofs.YtipmaphgkfegmaaDoor
open Go.RowKit Go.Lib Go.Sort
set_option linter.unusedVariables false
set_option linter.unusedSimpArgs false

def offAt (T : Nat) : Nat := if 60 = T then 0 else T
theorem run_slice60 (w : World) (sb T : Nat) (k : Int) (h0 : 0 ≤ k) (h1 : (T : Int) + k ≤ 60) : (Instr.sliceAt 46 (.pointer (some ⟨sb, 0, none⟩)) (some (.int .i64 (T : Int))) (some (.int .i64 ((T : Int) + k))) none).run Tryd.prog w = .ok (.slice (some ⟨sb, offAt T, none⟩) k.toNat (60 - T)) w := by
  have hl : Tryd.prog.arrayLen 46 = 60 := by kernel_rfl
  have he : (sizeOf (Tryd.prog.elem 46)).run Tryd.prog w = .ok 1 w := by kernel_rfl
  rw [run_sliceAt_array_lh w 46 ⟨sb, 0, none⟩ (by kernel_rfl) .i64 .i64 (T : Int) ((T : Int) + k) (by omega) (by omega) (by rw [hl]; omega), he]
  simp only [Result.andThen, slicedAt, hl, offAt, Addr.add_lit]
  by_cases e : 60 = T
  · subst e
    simp
    omega
  · have e2 : ¬ 60 = (T : Int).toNat := by omega
    rw [if_neg e2, if_neg e]
    simp
    omega
set_option maxRecDepth 100000 in
set_option maxHeartbeats 2000000 in
theorem take_no {w : World} {B sb : Nat} {s : St} (h : Obj w B sb s) (n : Int) (hn : n < 0) : Calls Tryd.prog 7 #[.pointer (some ⟨sb, 0, none⟩), .int .i64 n] w fun e w' => e = .returned (.tuple #[.string ByteArray.empty, .iface 51 (.int .i64 1)]) ∧ Turned w w' B sb s := by
  go_enter Tryd.func7, Tryd.ntmps7
  go_wp2_with fail
  go_ret2
  exact ⟨rfl, Turned.same h⟩

set_option maxRecDepth 100000 in
set_option maxHeartbeats 2000000 in
theorem take_calls {w : World} {B sb : Nat} {s : St} (h : Obj w B sb s) (n : Int) (hn : 0 ≤ n) : Calls Tryd.prog 7 #[.pointer (some ⟨sb, 0, none⟩), .int .i64 n] w fun e w' => e = .returned (.tuple #[.string (strOfNums (takeL s n)), .nilIface]) ∧ Turned w w' B sb (takeS s n) := by
  have ht := h.inv.t
  have ct := h.ct
  have f0 := h.fz 120 (by omega)
  have hle := rdy_le s
  obtain ⟨z, hz, ek⟩ : ∃ z : Int, (if (rdy s : Int) < n then (rdy s : Int) else n) = z ∧ takeN s n = z.toNat := by
    refine ⟨_, rfl, ?_⟩
    unfold takeN
    split <;> omega
  have hz0 : 0 ≤ z := by split at hz <;> omega
  have hz1 : z ≤ 60 - (s.tk : Int) := by split at hz <;> omega
  have HT : Hid (∀ q, Turned w ((w.setCell ⟨sb, 120, none⟩ (.int .i64 ((s.tk : Int) + z))).drewN q) B sb (takeS s n)) := by
    show ∀ q, _
    intro q
    have o := h.take (n := n) (z := (s.tk : Int) + z) (by rw [ek]; omega)
    exact ⟨o.below (below_drewN (Below.refl _ _) q), ((Off.refl _ _).setCell (K := fun k => k = sb) (a := ⟨sb, 120, none⟩) rfl _).trans (Off.of_below (below_drewN (Below.refl _ _) q))⟩
  have hcv : ∀ q, (convert 53 9 (.slice (some ⟨sb, offAt s.tk, none⟩) z.toNat (60 - s.tk))).run Tryd.prog ((w.setCell ⟨sb, 120, none⟩ (.int .i64 ((s.tk : Int) + z))).drewN q) = .ok (.string (strOfNums (takeL s n))) ((w.setCell ⟨sb, 120, none⟩ (.int .i64 ((s.tk : Int) + z))).drewN q) := fun q =>
    run_convert_bytes_arg _ 53 5 Tryd.underlying53 Tryd.underlying5 sb (offAt s.tk) _ _ (takeL s n) (by simp [takeL, ek]) (fun i hi => by
      have hi' : i < takeN s n := by rw [ek]; exact hi
      have hl := takeN_le s n
      have hT : offAt s.tk = s.tk := by unfold offAt; rw [if_neg (by omega)]
      rw [hT, World.cell?_drewN, cell_next (h.cb (s.tk + i) (by omega)) (by show s.tk + i ≠ 120; omega)]
      simp [takeL, hi']) 9 Tryd.underlying9
  have hsl : ∀ w, (Instr.sliceAt 46 (.pointer (some ⟨sb, 0, none⟩)) (some (.int .i64 (s.tk : Int))) (some (.int .i64 ((s.tk : Int) + z))) none).run Tryd.prog w = .ok (.slice (some ⟨sb, offAt s.tk, none⟩) z.toNat (60 - s.tk)) w := fun w => run_slice60 w sb s.tk (z) (by omega) (by omega)
  have hq := fun q => ready_quiet (h.below (below_drewN (Below.refl w.heap.size w) q))
  have ct2 : (w.setCell ⟨sb, 120, none⟩ (.int .i64 ((s.tk : Int) + z))).cell? ⟨sb, 120, none⟩ = some (.int .i64 ((s.tk : Int) + z)) := World.cell?_setCell_same _ _ _ ct
  have HZ : Hid (IntKind.i64.wrap ((s.tk : Int) + if (rdy s : Int) < n then (rdy s : Int) else n) = (s.tk : Int) + z) := by show _ = _; rw [hz]; exact wrap_small _ (by omega) (by omega)
  have HCV : Hid (∀ q, (convert 53 9 (.slice (some ⟨sb, offAt s.tk, none⟩) z.toNat (60 - s.tk))).run Tryd.prog ((w.setCell ⟨sb, 120, none⟩ (.int .i64 ((s.tk : Int) + z))).drewN q) = .ok (.string (strOfNums (takeL s n))) ((w.setCell ⟨sb, 120, none⟩ (.int .i64 ((s.tk : Int) + z))).drewN q)) := hcv
  have CT2 : Hid ((w.setCell ⟨sb, 120, none⟩ (.int .i64 ((s.tk : Int) + z))).cell? ⟨sb, 120, none⟩ = some (.int .i64 ((s.tk : Int) + z))) := ct2
  clear h ek hcv ct2 hz
  generalize takeL s n = L at HCV ⊢
  generalize rdy s = r at *
  generalize s.tk = T at *
  go_enter Tryd.func7, Tryd.ntmps7
  go_wp2_with fail
  go_cut [] (fun wx => Hid (∃ q, wx = (w.setCell ⟨sb, 120, none⟩ (.int .i64 ((T : Int) + z))).drewN q))
  case first =>
    go_region_with (go_at_call 9; refine (hq _).mono ?_; rintro e w2 ⟨rfl, m, rfl⟩)
    all_goals (try go_wp2_with fail)
    all_goals go_meet
    all_goals exact (show ∃ q, _ from ⟨1 + m, by have e := HZ.out; split at e <;> first | (rw [e]; rfl) | (exfalso; omega)⟩)
  case rest =>
    have hct : wc.cell? ⟨sb, 120, none⟩ = some (.int .i64 ((T : Int) + z)) := by obtain ⟨q, e⟩ := hcut.out; rw [e]; exact CT2.out
    have hcv : (convert 53 9 (.slice (some ⟨sb, offAt T, none⟩) z.toNat (60 - T))).run Tryd.prog wc.drew = .ok (.string (strOfNums L)) wc.drew := by
      rw [World.drew_is_drewN]
      obtain ⟨q, e⟩ := hcut.out
      rw [e, World.drewN_drewN]
      exact HCV.out _
    have HT2 : Hid (Turned w wc.drew B sb (takeS s n)) := by
      show Turned _ _ _ _ _
      rw [World.drew_is_drewN]
      obtain ⟨q, e⟩ := hcut.out
      rw [e, World.drewN_drewN]
      exact HT.out _
    clear hcut HCV HT HZ CT2 hq ct f0
    go_wp2_with fail
    go_region
    all_goals go_wp2_with fail
    all_goals go_ret2
    all_goals exact ⟨rfl, HT2.out⟩
end Go.Proofs.YtipmaphgkfegmaaDoor
