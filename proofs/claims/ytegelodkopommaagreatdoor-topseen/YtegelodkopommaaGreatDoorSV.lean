/- TopSeen's walk. -/
import Derived.Test.YtegelodkopommaaGreatDoorSE
import Derived.Deep.LoopGhost
import Derived.Deep.Cut
namespace Go.Proofs.YtegelodkopommaaGreatDoor
open Go.RowKit Go.Lib Go.Sort
set_option linter.unusedVariables false
set_option linter.unusedSimpArgs false

open Lo
set_option maxRecDepth 100000 in
set_option maxHeartbeats 4000000 in
theorem seen_go (ao : Option Addr) (len cap : Nat) (f : Nat → Int) (fl kp : Int) (w : World) (hV : V.Forms w ∧ Cnts w) (h0 : Ia w ao len f) (hf0 : -9223372036854775808 ≤ fl) (hf1 : fl ≤ 9223372036854775807) (hk0 : -9223372036854775808 ≤ kp) (hk1 : kp ≤ 9223372036854775807) : Calls Tryz.prog 3 #[.slice ao len cap, .int .i64 fl, .int .i64 kp] w fun e w' => e = .returned (.bool true) ∧ Below w.heap.size w w' := by
  have HV : Hid (V.Forms w ∧ Cnts w) := hV
  have H0 : Hid (Ia w ao len f) := h0
  have hone := one_calls w hV
  have hlen := h0.1
  clear hV h0
  go_enter Tryz.func3, Tryz.ntmps3
  go_wp2_with fail
  refine hone.mono ?_
  rintro e w1 ⟨rfl, hb1⟩
  clear hone
  go_wp2_with fail
  refine (q_new hb1).mono ?_
  rintro e w2 ⟨lb, rfl, hq2⟩
  clear hb1
  go_wp2_with fail
  refine (q_fail hq2 fl hf0 hf1).mono ?_
  rintro e w3 ⟨⟨v, rfl⟩, hq3⟩
  have hq : Hid (Gq w w3 lb _) := hq3
  clear hq2 hq3 hf0 hf1
  go_wp2_with fail
  go_loopg [9, 10, 11] 30 (fun gk s9 s10 s11 wr => ∃ (i nx mn : Nat) (s : Lg), Hid (gk + i = 30) ∧ s9 = .int .i64 (nx : Int) ∧ s10 = .int .i64 (mn : Int) ∧ s11 = .int .i64 (i : Int) ∧ Hid (nx ≤ 51 * i) ∧ Hid (s.ns.length = mn) ∧ Hid (mn ≤ i) ∧ Hid (Abv s nx) ∧ Hid (Gq w wr lb s))
  case atStart => exact ⟨0, 0, 0, { Lg.new with ah := fl }, rfl, rfl, rfl, rfl, Nat.zero_le _, rfl, Nat.zero_le _, Abv.new _ rfl, hq⟩
  case round =>
    clear hq
    obtain ⟨i, nx, mn, s, HG, rfl, rfl, rfl, HNX, HMN, HMI, HAB, hq⟩ := hrel
    by_cases g1 : (i : Int) < (len : Int)
    · by_cases g2 : (i : Int) < 30
      · obtain ⟨b0, o0, rfl, hb0, hc0⟩ := H0.out.at (j := i) (by omega)
        have HLC : Hid (∀ X, Below w.heap.size w X → X.cell? ⟨b0, o0 + i, none⟩ = some (.int .i64 (f i))) := hc0
        have x0 := hc0 _ hq.out.bel
        clear hc0
        generalize f i = n at HLC x0
        have hnb : (nx : Int) ≤ 1530 := by have := HNX.out; omega
        by_cases p1 : n < (nx : Int)
        · go_wp2_with fail
          go_roundg (30 - (i + 1))
          case measure => have := HG.out; omega
          case rel => exact ⟨i + 1, nx, mn, s, by show _ = _; have := HG.out; omega, rfl, rfl, by go_num, by show _ ≤ _; have := HNX.out; omega, HMN, by show _ ≤ _; have := HMI.out; omega, HAB, hq⟩
        · by_cases p2 : (nx : Int) + 50 < n
          · go_wp2_with fail
            go_roundg (30 - (i + 1))
            case measure => have := HG.out; omega
            case rel => exact ⟨i + 1, nx, mn, s, by show _ = _; have := HG.out; omega, rfl, rfl, by go_num, by show _ ≤ _; have := HNX.out; omega, HMN, by show _ ≤ _; have := HMI.out; omega, HAB, hq⟩
          · obtain ⟨m, rfl⟩ := Int.eq_ofNat_of_zero_le (show 0 ≤ n by omega)
            have hp : U.pairB (m : Int) ((nx : Int) - 1) = true := decide_eq_true (by omega)
            have bA : Below wr.heap.size wr (wr.alloc (.cells #[.int .i64 1, .slice none 0 0, .string { data := #[] }] 32)) := (Below.refl _ _).alloc (Nat.le_refl _) _
            have bW := hq.out.bel.trans (bA.mono hq.out.bel.size)
            have HPR := pkt_print_ok (m : Int) ((nx : Int) - 1) _ pingF _ (HV.out.1.below bW) (HV.out.2.below bW) (lit_row wr) (ping_pk2 hp)
            have hrd : rdP (pkS (m : Int) ((nx : Int) - 1) pingF) (nx : Int) = some ((m : Int), pingF) := by
              have := rdP_back (more := (nx : Int) - 1) (ping_pk2 hp) (by omega) (by omega)
              rwa [show (nx : Int) - 1 + 1 = nx by omega] at this
            have HPA := fun X (hb : Below w.heap.size w X) => pkt_parse_yes (pkS (m : Int) ((nx : Int) - 1) pingF) (nx : Int) X (HV.out.1.below hb) (HV.out.2.below hb) ((U.mayB_iff _).2 ⟨by omega, by omega⟩) (ping_sz2 hp) (m : Int) pingF hrd
            have hN : isN (m : Int) = true := (isN_iff _).2 ⟨by omega, by omega⟩
            have hfew : s.ns.length < 100000 := by have := HMN.out; have := HMI.out; omega
            have HFW : Hid (s.ns.length < 100000) := hfew
            have hI := hq.out.choose_spec.1.inv
            have hsc := seen_cases hI hN (HAB.out.mem (by omega))
            have HI : Hid (LInv s) := hI
            have HPM : Hid (nx ≤ m ∧ m ≤ nx + 50) := by show nx ≤ m ∧ m ≤ nx + 50; omega
            have HNB : Hid (nx ≤ 1530) := by show nx ≤ 1530; omega
            have hmb : (m : Int) ≤ 1580 := by omega
            clear hrd hp hN hI hfew
            generalize pkS (m : Int) ((nx : Int) - 1) pingF = pk at *
            go_wp2_with fail
            refine HPR.mono ?_
            rintro e w4 ⟨rfl, hb4⟩
            have hq4 := hq.out.below (bA.trans (hb4.mono bA.size))
            clear HPR x0 bW bA hb4 hq
            go_wp2_with fail
            refine (HPA _ hq4.bel).mono ?_
            rintro e w5 ⟨v5, us5, rfl, ho5, hb5⟩
            have hq5 := hq4.below hb5
            obtain ⟨a5, c5, hv5⟩ := ownSh ho5.own
            subst hv5
            have x5 := HLC.out _ hq5.bel
            clear HPA hq4 hb5 ho5
            have hca := q_came hq5 (m : Int) HFW.out
            rcases hsc with ⟨e1, fe, e2⟩ | ⟨e1, e2, e3, e4, e5, e6⟩
            · rw [e2] at hca
              have HE1 : Hid ((caS s (m : Int)).ns = s.ns) := e1
              clear e1 e2
              generalize caB s (m : Int) = cb at hca
              generalize caS s (m : Int) = s6 at *
              go_wp2_with fail
              refine hca.mono ?_
              rintro e w6 ⟨rfl, hq6⟩
              have hq : Hid (Gq w w6 lb s6) := hq6
              clear hca hq5 hq6 x5
              have hcr := q_crash hq.out kp hk0 hk1
              have HCC : Hid (cnt (rgN (crS s6 kp).ns) ≤ ((mn : Nat) : Int)) := by
                show _ ≤ _
                have h1 := cr_cnt hq.out.choose_spec.1.inv kp
                have h2 := (show s6.ns.length ≤ mn by rw [HE1.out]; exact Nat.le_of_eq HMN.out)
                omega
              have HFI : Hid (LInv (crS s6 kp)) := hq.out.choose_spec.1.inv.crash kp
              generalize crS s6 kp = s9 at *
              go_wp2_with fail
              refine hcr.mono ?_
              clear hcr hq
              rintro e w7 ⟨⟨v7, rfl⟩, hq7⟩
              go_wp2_with fail
              refine (q_all hq7).mono ?_
              rintro e w8 ⟨v8, rfl, ho8, hq8⟩
              have hct := count_ok v8 (rgN s9.ns) w8 (row_of_own ho8 (by have := HFI.out.fit.len; omega)) HFI.out.fit.chk
              have HB8 : Hid (Below w.heap.size w w8) := hq8.bel
              obtain ⟨a8, c8, hv8⟩ := ownSh ho8
              subst hv8
              have hle8 : cnt (rgN s9.ns) ≤ (mn : Int) := by have := HCC.out; omega
              clear hq7 hq8 ho8 HCC HFI
              generalize cnt (rgN s9.ns) = ct at *
              generalize (rgN s9.ns).length = l8 at *
              go_wp2_with fail
              refine hct.mono ?_
              rintro e w9 ⟨rfl, hb9⟩
              go_wp2_with fail
              go_ret
              exact ⟨rfl, HB8.out.trans (hb9.mono HB8.out.size)⟩
            · have HE3 : Hid ((caS s (m : Int)).ns = s.ns ++ [(m : Int)]) := e3
              rw [e1, e2] at hca
              have HC2 : Hid (∀ X, Gq w X lb (caS s (m : Int)) → Calls Tryz.prog 9 #[.pointer (some ⟨lb, 0, none⟩), .int .i64 (m : Int)] X fun e w' => e = .returned (.tuple #[.bool false, .nilIface]) ∧ Gq w w' lb (caS s (m : Int))) := by
                show ∀ X, _ → _
                intro X hX
                have h := q_came hX (m : Int) (by rw [HE3.out]; simp; have := HMN.out; have := HMI.out; omega)
                rw [e4, e5, e6] at h
                exact h
              clear e1 e2 e3 e4 e5 e6
              generalize caS s (m : Int) = s6 at *
              go_wp2_with fail
              refine hca.mono ?_
              rintro e w6 ⟨rfl, hq6⟩
              clear hca hq5 x5
              go_wp2_with fail
              refine (HC2.out _ hq6).mono ?_
              rintro e w7 ⟨rfl, hq7⟩
              clear HC2 hq6
              have HL6 : Hid (s6.ns.length = mn + 1) := by show _ = _; rw [HE3.out]; simp; exact HMN.out
              have HA6 : Hid (Abv s6 (m + 1)) := HAB.out.more HI.out HPM.out.1 HE3.out
              have hmn : (mn : Int) ≤ 30 := by have := HMI.out; omega
              by_cases i3 : i = 3
              · subst i3
                have hsy := q_sync hq7
                have HSN : Hid ((syS s6).ns = s6.ns) := sy_ns s6
                have hse := sy_err s6
                generalize errV (syF s6) = er at hsy hse
                generalize syS s6 = s7 at *
                rcases hse with rfl | rfl
                · go_wp2_with (go_at_call 10; refine hsy.mono ?_; rintro e w8 ⟨rfl, hq8⟩; clear hsy)
                  go_roundg 26
                  case measure => have := HG.out; omega
                  case rel => exact ⟨4, m + 1, mn + 1, s7, by show _ = _; have := HG.out; omega, by go_num, by go_num, by go_num, by show _ ≤ _; have := HNX.out; have := HPM.out; omega, by show _ = _; rw [HSN.out]; exact HL6.out, by show _ ≤ _; have := HMI.out; omega, HA6.out.same HSN.out, hq8⟩
                · go_wp2_with (go_at_call 10; refine hsy.mono ?_; rintro e w8 ⟨rfl, hq8⟩; clear hsy)
                  have hq : Hid (Gq w w8 lb s7) := hq8
                  clear hq7 hq8
                  have hcr := q_crash hq.out kp hk0 hk1
                  have HCC : Hid (cnt (rgN (crS s7 kp).ns) ≤ ((mn + 1 : Nat) : Int)) := by
                    show _ ≤ _
                    have h1 := cr_cnt hq.out.choose_spec.1.inv kp
                    have h2 := (show s7.ns.length ≤ mn + 1 by rw [HSN.out]; exact Nat.le_of_eq HL6.out)
                    omega
                  have HFI : Hid (LInv (crS s7 kp)) := hq.out.choose_spec.1.inv.crash kp
                  generalize crS s7 kp = s9 at *
                  go_wp2_with fail
                  refine hcr.mono ?_
                  clear hcr hq
                  rintro e w7 ⟨⟨v7, rfl⟩, hq7⟩
                  go_wp2_with fail
                  refine (q_all hq7).mono ?_
                  rintro e w8 ⟨v8, rfl, ho8, hq8⟩
                  have hct := count_ok v8 (rgN s9.ns) w8 (row_of_own ho8 (by have := HFI.out.fit.len; omega)) HFI.out.fit.chk
                  have HB8 : Hid (Below w.heap.size w w8) := hq8.bel
                  obtain ⟨a8, c8, hv8⟩ := ownSh ho8
                  subst hv8
                  have hle8 : cnt (rgN s9.ns) ≤ (mn : Int) + 1 := by have := HCC.out; omega
                  clear hq7 hq8 ho8 HCC HFI
                  generalize cnt (rgN s9.ns) = ct at *
                  generalize (rgN s9.ns).length = l8 at *
                  go_wp2_with fail
                  refine hct.mono ?_
                  rintro e w9 ⟨rfl, hb9⟩
                  go_wp2_with fail
                  go_ret
                  exact ⟨rfl, HB8.out.trans (hb9.mono HB8.out.size)⟩
              · have i3' : ((i : Int) == 3) = false := by simp; omega
                go_wp2_with fail
                go_roundg (30 - (i + 1))
                case measure => have := HG.out; omega
                case rel => exact ⟨i + 1, m + 1, mn + 1, s6, by show _ = _; have := HG.out; omega, by go_num, by go_num, by go_num, by show _ ≤ _; have := HNX.out; have := HPM.out; omega, HL6, by show _ ≤ _; have := HMI.out; omega, HA6, hq7⟩
      · have hmn : (mn : Int) ≤ 30 := by have := HMI.out; have := HG.out; omega
        have hcr := q_crash hq.out kp hk0 hk1
        have HCC : Hid (cnt (rgN (crS s kp).ns) ≤ ((mn : Nat) : Int)) := by
          show _ ≤ _
          have h1 := cr_cnt hq.out.choose_spec.1.inv kp
          have h2 := HMN.out
          omega
        have HFI : Hid (LInv (crS s kp)) := hq.out.choose_spec.1.inv.crash kp
        generalize crS s kp = s9 at *
        go_wp2_with fail
        refine hcr.mono ?_
        clear hcr hq
        rintro e w7 ⟨⟨v7, rfl⟩, hq7⟩
        go_wp2_with fail
        refine (q_all hq7).mono ?_
        rintro e w8 ⟨v8, rfl, ho8, hq8⟩
        have hct := count_ok v8 (rgN s9.ns) w8 (row_of_own ho8 (by have := HFI.out.fit.len; omega)) HFI.out.fit.chk
        have HB8 : Hid (Below w.heap.size w w8) := hq8.bel
        obtain ⟨a8, c8, hv8⟩ := ownSh ho8
        subst hv8
        have hle8 : cnt (rgN s9.ns) ≤ (mn : Int) := by have := HCC.out; omega
        clear hq7 hq8 ho8 HCC HFI
        generalize cnt (rgN s9.ns) = ct at *
        generalize (rgN s9.ns).length = l8 at *
        go_wp2_with fail
        refine hct.mono ?_
        rintro e w9 ⟨rfl, hb9⟩
        go_wp2_with fail
        go_ret
        exact ⟨rfl, HB8.out.trans (hb9.mono HB8.out.size)⟩
    · have hmn : (mn : Int) ≤ 30 := by have := HMI.out; have := HG.out; omega
      have hcr := q_crash hq.out kp hk0 hk1
      have HCC : Hid (cnt (rgN (crS s kp).ns) ≤ ((mn : Nat) : Int)) := by
        show _ ≤ _
        have h1 := cr_cnt hq.out.choose_spec.1.inv kp
        have h2 := HMN.out
        omega
      have HFI : Hid (LInv (crS s kp)) := hq.out.choose_spec.1.inv.crash kp
      generalize crS s kp = s9 at *
      go_wp2_with fail
      refine hcr.mono ?_
      clear hcr hq
      rintro e w7 ⟨⟨v7, rfl⟩, hq7⟩
      go_wp2_with fail
      refine (q_all hq7).mono ?_
      rintro e w8 ⟨v8, rfl, ho8, hq8⟩
      have hct := count_ok v8 (rgN s9.ns) w8 (row_of_own ho8 (by have := HFI.out.fit.len; omega)) HFI.out.fit.chk
      have HB8 : Hid (Below w.heap.size w w8) := hq8.bel
      obtain ⟨a8, c8, hv8⟩ := ownSh ho8
      subst hv8
      have hle8 : cnt (rgN s9.ns) ≤ (mn : Int) := by have := HCC.out; omega
      clear hq7 hq8 ho8 HCC HFI
      generalize cnt (rgN s9.ns) = ct at *
      generalize (rgN s9.ns).length = l8 at *
      go_wp2_with fail
      refine hct.mono ?_
      rintro e w9 ⟨rfl, hb9⟩
      go_wp2_with fail
      go_ret
      exact ⟨rfl, HB8.out.trans (hb9.mono HB8.out.size)⟩
end Go.Proofs.YtegelodkopommaaGreatDoor
