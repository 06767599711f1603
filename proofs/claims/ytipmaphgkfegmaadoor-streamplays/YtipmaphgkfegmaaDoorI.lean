/- What the document's Put and Take answer, and leave. -/
import Derived.Test.YtipmaphgkfegmaaDoorH
import Derived.Laws.BytesArg
import Derived.Deep.RegionLaw
namespace Go.Proofs.YtipmaphgkfegmaaDoor
open Go.RowKit Go.Lib Go.Sort
set_option linter.unusedVariables false
set_option linter.unusedSimpArgs false

theorem conv_at {z : Int} (h0 : 0 ≤ z) (h1 : z ≤ 255) (w : World) : (convert 5 3 (.int .u8 z)).run Tryd.prog w = .ok (.int .i64 z) w := by
  have := wrap_small z (by omega) (by omega)
  have u1 := Tryd.underlying5
  have u2 := Tryd.underlying3
  go_simp
theorem conv_byte {z : Int} (h0 : 0 ≤ z) (h1 : z ≤ 255) (w : World) : (convert 3 5 (.int .i64 z)).run Tryd.prog w = .ok (.int .u8 z) w := by
  have u1 := Tryd.underlying5
  have u2 := Tryd.underlying3
  have : IntKind.u8.wrap z = z := by simp [IntKind.wrap, IntKind.bits, IntKind.signed]; omega
  go_simp

set_option maxRecDepth 100000 in
set_option maxHeartbeats 2000000 in
theorem rput_lo {w : World} {B sb : Nat} {s : St} (h : Ref w B sb s) (p : Int) (d : ByteArray) (h0 : p < 0) : Calls Tryd.prog 13 #[.pointer (some ⟨sb, 0, none⟩), .int .i64 p, .string d] w fun e w' => e = .returned (.int .i64 1) ∧ RTurned w w' B sb s := by
  go_enter Tryd.func13, Tryd.ntmps13
  go_wp2_with fail
  go_ret
  exact ⟨rfl, RTurned.same h⟩

set_option maxRecDepth 100000 in
set_option maxHeartbeats 2000000 in
theorem rput_hi {w : World} {B sb : Nat} {s : St} (h : Ref w B sb s) (p : Int) (d : ByteArray) (h0 : 60 < p) : Calls Tryd.prog 13 #[.pointer (some ⟨sb, 0, none⟩), .int .i64 p, .string d] w fun e w' => e = .returned (.int .i64 1) ∧ RTurned w w' B sb s := by
  go_enter Tryd.func13, Tryd.ntmps13
  go_wp2_with fail
  go_ret
  exact ⟨rfl, RTurned.same h⟩

set_option maxRecDepth 100000 in
set_option maxHeartbeats 2000000 in
theorem rput_full {w : World} {B sb : Nat} {s : St} (h : Ref w B sb s) (p : Int) (d : ByteArray) (h0 : 0 ≤ p) (h1 : p ≤ 60) (h2 : 60 < p + (d.size : Int)) (hd : d.size ≤ 140737488351232) : Calls Tryd.prog 13 #[.pointer (some ⟨sb, 0, none⟩), .int .i64 p, .string d] w fun e w' => e = .returned (.int .i64 4) ∧ RTurned w w' B sb s := by
  go_enter Tryd.func13, Tryd.ntmps13
  go_wp2_with fail
  go_ret
  exact ⟨rfl, RTurned.same h⟩

set_option maxRecDepth 100000 in
set_option maxHeartbeats 2000000 in
theorem rput_clash {w : World} {B sb : Nat} {s : St} (h : Ref w B sb s) (a : Nat) (d : ByteArray) (hd : a + d.size ≤ 60) (hc : clB s a d = true) : Calls Tryd.prog 13 #[.pointer (some ⟨sb, 0, none⟩), .int .i64 (a : Int), .string d] w fun e w' => e = .returned (.int .i64 7) ∧ RTurned w w' B sb s := by
  have HO : Hid (Ref w B sb s) := h
  have HCB : Hid (clB s a d = true) := hc
  have q0 : ¬ ((a : Int) < 0) := by omega
  have q1 : ¬ ((60 : Int) < (a : Int)) := by omega
  have u0 := wrap_small ((a : Int) + (d.size : Int)) (by omega) (by omega)
  have q2 : ¬ ((60 : Int) < (a : Int) + (d.size : Int)) := by omega
  clear h hc
  go_enter Tryd.func13, Tryd.ntmps13
  go_wp2_with fail
  clear q0 q1 q2 u0
  go_loopg [7] d.size (fun gk s7 wr => ∃ k : Nat, gk + k = d.size ∧ s7 = .int .i64 k ∧ Hid (∀ i, i < k → cl s a d i = false) ∧ Below w.heap.size w wr)
  case atStart => exact ⟨0, rfl, rfl, (show ∀ i, i < 0 → cl s a d i = false from fun i hi => by omega), Below.refl _ _⟩
  case round =>
    obtain ⟨k, hk, rfl, hE, hW⟩ := hrel
    have HK : Hid (gk + k = d.size) := hk
    clear hk
    by_cases g : (k : Int) < (d.size : Int)
    · have x0 := (HO.out.below hW).cb (a + k) (by omega)
      have hix := fun w => index_at (d := d) (k := k) (by omega) w
      have hcv := conv_at (bat_range d k).1 (bat_range d k).2
      have u1 := wrap_small ((a : Int) + (k : Int)) (by omega) (by omega)
      have HN : Hid (cl s a d k = false → ∀ i, i < k + 1 → cl s a d i = false) := by
        show _ → _
        intro hc i hi
        by_cases e : i = k
        · rw [e]; exact hc
        · exact hE.out i (by omega)
      have HY : Hid (cl s a d k = true → clB s a d = true) := fun hc => clB_yes (by omega) hc
      have HC : Hid (cl s a d k = (s.cm (a + k) && (s.byt (a + k) != bat d k))) := rfl
      have HB := (HO.out.inv.b (a + k)).1
      clear hE
      cases hcm : s.cm (a + k) with
      | false =>
        have hc : cl s a d k = false := by rw [HC.out, hcm]; rfl
        have HM : Hid (∀ i, i < k + 1 → cl s a d i = false) := HN.out hc
        rw [val_no hcm] at x0
        clear HN HY HC hc hcm HB
        generalize bat d k = z at hix hcv
        go_wp2_with fail
        go_quiet (fail)
        go_wp2_with fail
        go_roundg (d.size - (k + 1))
        case measure => have := HK.out; omega
        case rel => exact ⟨k + 1, by have := HK.out; omega, by go_num, HM, below_drewN hW _⟩
      | true =>
        rw [val_yes hcm] at x0
        rw [hcm] at HC
        clear hcm
        generalize s.byt (a + k) = y at x0 HC HB
        generalize bat d k = z at hix HC hcv
        by_cases e : y = z
        · subst e
          have hc : cl s a d k = false := by rw [HC.out]; simp
          have HM : Hid (∀ i, i < k + 1 → cl s a d i = false) := HN.out hc
          clear HN HY HC hc
          go_wp2_with fail
          go_quiet (fail)
          go_wp2_with fail
          go_roundg (d.size - (k + 1))
          case measure => have := HK.out; omega
          case rel => exact ⟨k + 1, by have := HK.out; omega, by go_num, HM, below_drewN hW _⟩
        · have hc : cl s a d k = true := by rw [HC.out]; simp [e]
          have HM : Hid (clB s a d = true) := HY.out hc
          clear HN HY HC hc
          go_wp2_with fail
          go_quiet (fail)
          go_wp2_with fail
          go_ret
          exact ⟨rfl, RTurned.below HO.out (below_drewN hW _)⟩
    · have HM : Hid (clB s a d = false) := clB_no fun i hi => hE.out i (by omega)
      clear hE
      have := HM.out
      rw [HCB.out] at this
      cases this

set_option maxRecDepth 100000 in
set_option maxHeartbeats 2000000 in
theorem rput_yes {w : World} {B sb : Nat} {s : St} (h : Ref w B sb s) (a : Nat) (d : ByteArray) (hd : a + d.size ≤ 60) (hc : clB s a d = false) : Calls Tryd.prog 13 #[.pointer (some ⟨sb, 0, none⟩), .int .i64 (a : Int), .string d] w fun e w' => e = .returned (.int .i64 0) ∧ RTurned w w' B sb (upS s a d d.size) := by
  have HO : Hid (Ref w B sb s) := h
  have HCB : Hid (clB s a d = false) := hc
  have q0 : ¬ ((a : Int) < 0) := by omega
  have q1 : ¬ ((60 : Int) < (a : Int)) := by omega
  have u0 := wrap_small ((a : Int) + (d.size : Int)) (by omega) (by omega)
  have q2 : ¬ ((60 : Int) < (a : Int) + (d.size : Int)) := by omega
  clear h hc
  go_enter Tryd.func13, Tryd.ntmps13
  go_wp2_with fail
  clear q0 q1 q2 u0
  go_loopg [7] d.size (fun gk s7 wr => ∃ k : Nat, gk + k = d.size ∧ s7 = .int .i64 k ∧ Hid (∀ i, i < k → cl s a d i = false) ∧ Below w.heap.size w wr)
  case atStart => exact ⟨0, rfl, rfl, (show ∀ i, i < 0 → cl s a d i = false from fun i hi => by omega), Below.refl _ _⟩
  case round =>
    obtain ⟨k, hk, rfl, hE, hW⟩ := hrel
    have HK : Hid (gk + k = d.size) := hk
    clear hk
    by_cases g : (k : Int) < (d.size : Int)
    · have x0 := (HO.out.below hW).cb (a + k) (by omega)
      have hix := fun w => index_at (d := d) (k := k) (by omega) w
      have hcv := conv_at (bat_range d k).1 (bat_range d k).2
      have u1 := wrap_small ((a : Int) + (k : Int)) (by omega) (by omega)
      have HN : Hid (cl s a d k = false → ∀ i, i < k + 1 → cl s a d i = false) := by
        show _ → _
        intro hc i hi
        by_cases e : i = k
        · rw [e]; exact hc
        · exact hE.out i (by omega)
      have HY : Hid (cl s a d k = true → clB s a d = true) := fun hc => clB_yes (by omega) hc
      have HC : Hid (cl s a d k = (s.cm (a + k) && (s.byt (a + k) != bat d k))) := rfl
      have HB := (HO.out.inv.b (a + k)).1
      clear hE
      cases hcm : s.cm (a + k) with
      | false =>
        have hc : cl s a d k = false := by rw [HC.out, hcm]; rfl
        have HM : Hid (∀ i, i < k + 1 → cl s a d i = false) := HN.out hc
        rw [val_no hcm] at x0
        clear HN HY HC hc hcm HB
        generalize bat d k = z at hix hcv
        go_wp2_with fail
        go_quiet (fail)
        go_wp2_with fail
        go_roundg (d.size - (k + 1))
        case measure => have := HK.out; omega
        case rel => exact ⟨k + 1, by have := HK.out; omega, by go_num, HM, below_drewN hW _⟩
      | true =>
        rw [val_yes hcm] at x0
        rw [hcm] at HC
        clear hcm
        generalize s.byt (a + k) = y at x0 HC HB
        generalize bat d k = z at hix HC hcv
        by_cases e : y = z
        · subst e
          have hc : cl s a d k = false := by rw [HC.out]; simp
          have HM : Hid (∀ i, i < k + 1 → cl s a d i = false) := HN.out hc
          clear HN HY HC hc
          go_wp2_with fail
          go_quiet (fail)
          go_wp2_with fail
          go_roundg (d.size - (k + 1))
          case measure => have := HK.out; omega
          case rel => exact ⟨k + 1, by have := HK.out; omega, by go_num, HM, below_drewN hW _⟩
        · have hc : cl s a d k = true := by rw [HC.out]; simp [e]
          have HM : Hid (clB s a d = true) := HY.out hc
          clear HN HY HC hc
          have := HM.out
          rw [HCB.out] at this
          cases this
    · have HM : Hid (clB s a d = false) := clB_no fun i hi => hE.out i (by omega)
      clear hE
      have HO2 : Hid (Ref wr B sb (upS s a d 0)) := by show Ref _ _ _ _; rw [upS_zero]; exact HO.out.below hW
      have HW2 : Hid (Below w.heap.size w wr) := hW
      clear hW HM HCB
      go_wp2_with fail
      clear g
      go_loopg [8] d.size (fun gk s8 wx => ∃ k : Nat, gk + k = d.size ∧ s8 = .int .i64 k ∧ Ref wx B sb (upS s a d k) ∧ Off (fun j => j = sb) wr wx)
      case atStart => exact ⟨0, rfl, rfl, HO2.out, Off.refl _ _⟩
      case round =>
        clear HK
        obtain ⟨k, hk, rfl, hO, hX⟩ := hrel
        have HK : Hid (gk + k = d.size) := hk
        clear hk
        by_cases g : (k : Int) < (d.size : Int)
        · have x0 := hO.cb (a + k) (by omega)
          have f0 := hO.fz (a + k) (by omega)
          have hix := fun w => index_at (d := d) (k := k) (by omega) w
          have hcv := conv_at (bat_range d k).1 (bat_range d k).2
          have u1 := wrap_small ((a : Int) + (k : Int)) (by omega) (by omega)
          have hO2 := hO.up (show a + k < 60 by omega)
          have HX2 := (hX.setCell (a := ⟨sb, a + k, none⟩) rfl (.int .i64 (bat d k))).drew
          generalize bat d k = z at hix hcv hO2 HX2
          go_wp2_with fail
          go_region
          go_wp2_with fail
          go_roundg (d.size - (k + 1))
          case measure => have := HK.out; omega
          case rel => exact ⟨k + 1, by have := HK.out; omega, by go_num, hO2, HX2⟩
        · have e : k = d.size := by have := HK.out; omega
          subst e
          go_wp2_with fail
          go_ret
          exact ⟨rfl, hO, (Off.of_below HW2.out).trans hX⟩

theorem rput_calls {w : World} {B sb : Nat} {s : St} (h : Ref w B sb s) (p : Int) (d : ByteArray) (hd : d.size ≤ 140737488351232) : Calls Tryd.prog 13 #[.pointer (some ⟨sb, 0, none⟩), .int .i64 p, .string d] w fun e w' => e = .returned (.int .i64 (putF s p d)) ∧ RTurned w w' B sb (putS s p d) := by
  cases hp : placeB p with
  | false =>
    rw [putS_no (by rw [putF_range hp]; decide), putF_range hp]
    have := of_decide_eq_false hp
    by_cases h0 : p < 0
    · exact rput_lo h p d h0
    · exact rput_hi h p d (by omega)
  | true =>
    obtain ⟨p0, p1⟩ : 0 ≤ p ∧ p ≤ 60 := of_decide_eq_true hp
    by_cases h2 : 60 < p + (d.size : Int)
    · rw [putS_no (by rw [putF_full hp h2]; decide), putF_full hp h2]; exact rput_full h p d p0 p1 h2 hd
    · obtain ⟨a, rfl⟩ : ∃ a : Nat, p = (a : Int) := ⟨p.toNat, by omega⟩
      cases hc : clB s a d with
      | true =>
        have e := putF_clash (s := s) (d := d) hp (by omega) (by simpa using hc)
        rw [putS_no (by rw [e]; decide), e]; exact rput_clash h a d (by omega) hc
      | false =>
        have e := putF_yes (s := s) (d := d) hp (by omega) (by simpa using hc)
        rw [putS_yes e, e]; exact rput_yes h a d (by omega) hc
end Go.Proofs.YtipmaphgkfegmaaDoor
