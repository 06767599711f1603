/- LossNever's walk. -/
import Derived.Test.YtingcgadolcanaaI
import Derived.Test.YtingcgadolcanaaR
namespace Go.Proofs.Ytingcgadolcanaa
open Go.RowKit Go.Lib Go.Sort
set_option linter.unusedVariables false
set_option linter.unusedSimpArgs false

theorem lostF_0 {zs : List S3} {acks : List R} {now wait : Int} (h : lostF zs acks now wait = 0) : both zs acks = 0 ∧ isT now = true ∧ isW wait = true := by
  unfold lostF at h
  by_cases h0 : both zs acks = 0
  · rw [if_pos h0] at h
    by_cases h1 : isT now = true ∧ isW wait = true
    · exact ⟨h0, h1⟩
    · rw [if_neg h1] at h; cases h
  · rw [if_neg h0] at h; exact absurd h h0
theorem lost_bad (u v : Value) (zs : List S3) (acks : List R) (now wait : Int) (w : World) (hZ : Row3 w u zs) (hR : Row w v acks) (h : lostF zs acks now wait ≠ 0) :
    Calls Try.prog 5 #[u, v, .int .i64 now, .int .i64 wait] w fun e w' => e = .returned (.tuple #[.slice none 0 0, .iface 42 (.int .i64 (lostF zs acks now wait))]) ∧ Below w.heap.size w w' := by
  by_cases h0 : both zs acks = 0
  · by_cases h1 : isT now = true ∧ isW wait = true
    · exact absurd (by rw [lostF, if_pos h0, if_pos h1]) h
    · have e : lostF zs acks now wait = 1 := by rw [lostF, if_pos h0, if_neg h1]
      rw [e]
      exact lost_range u v zs acks now wait w hZ hR h0 h1
  · have e : lostF zs acks now wait = both zs acks := by rw [lostF, if_neg h0]
    rw [e]
    have := lost_no u v zs acks now wait w hZ hR h0
    rwa [errV_f h0] at this
theorem lost_good (u v : Value) (zs : List S3) (acks : List R) (now wait : Int) (w : World) (hZ : Row3 w u zs) (hR : Row w v acks) (h : lostF zs acks now wait = 0) :
    Calls Try.prog 5 #[u, v, .int .i64 now, .int .i64 wait] w fun e w' => ∃ vo, e = .returned (.tuple #[vo, .nilIface]) ∧ IRow w' vo (lostL acks now wait zs) ∧ Below w.heap.size w w' :=
  lost_yes u v zs acks now wait w hZ hR (lostF_0 h).1 (lostF_0 h).2.1 (lostF_0 h).2.2

def facts : List S3 := [(1, 5, 9), (4, 6, 9), (5, 9, 9)]
theorem facts_row (W : World) : Row3 (W.alloc (.cells #[.int .i64 1, .int .i64 5, .int .i64 9, .int .i64 4, .int .i64 6, .int .i64 9, .int .i64 5, .int .i64 9, .int .i64 9] 30)) (.slice (some ⟨W.heap.size, 0, none⟩) 3 3) facts := by
  refine ⟨some ⟨W.heap.size, 0, none⟩, 3, rfl, by decide, (fun x => by cases x), .inr ⟨W.heap.size, 0, rfl, by simp, fun j hj => ?_⟩⟩
  match j, hj with
  | 0, _ => simp [facts, at3]
  | 1, _ => simp [facts, at3]
  | 2, _ => simp [facts, at3]
  | j + 3, hj => simp [facts] at hj; omega
theorem five_row (W : World) : Row (W.alloc (.cells #[.int .i64 5, .int .i64 5] 32)) (.slice (some ⟨W.heap.size, 0, none⟩) 1 1) [(5, 5)] := by
  refine ⟨some ⟨W.heap.size, 0, none⟩, 1, rfl, by decide, (fun x => by cases x), .inr ⟨W.heap.size, 0, rfl, by simp, fun j hj => ?_⟩⟩
  have : j = 0 := by simp at hj; exact hj
  subst this
  simp [at']
def W2 (w : World) : World := (w.alloc (.cells #[.int .i64 1, .int .i64 5, .int .i64 9, .int .i64 4, .int .i64 6, .int .i64 9, .int .i64 5, .int .i64 9, .int .i64 9] 30)).alloc (.cells #[.int .i64 5, .int .i64 5] 32)
theorem W2_below (w : World) : Below w.heap.size w (W2 w) := ((Below.refl _ w).alloc (Nat.le_refl _) _).alloc (by simp) _
theorem fact_calls (w : World) : Calls Try.prog 5 #[.slice (some ⟨w.heap.size, 0, none⟩) 3 3, .slice (some ⟨w.heap.size + 1, 0, none⟩) 1 1, .int .i64 10, .int .i64 50] (W2 w) fun e w' => ∃ b off c, e = .returned (.tuple #[.slice (some ⟨b, off, none⟩) 1 c, .nilIface]) ∧ w'.cell? ⟨b, off, none⟩ = some (.int .i64 1) ∧ Below (W2 w).heap.size (W2 w) w' := by
  have h := lost_good (.slice (some ⟨w.heap.size, 0, none⟩) 3 3) (.slice (some ⟨w.heap.size + 1, 0, none⟩) 1 1) facts [(5, 5)] 10 50 (W2 w) ((facts_row w).below ((Below.refl _ _).alloc (Nat.le_refl _) _)) (by have := five_row (w.alloc (.cells #[.int .i64 1, .int .i64 5, .int .i64 9, .int .i64 4, .int .i64 6, .int .i64 9, .int .i64 5, .int .i64 9, .int .i64 9] 30)); simpa [W2] using this) (by decide)
  have e : lostL [(5, 5)] 10 50 facts = [1] := by decide
  rw [e] at h
  refine h.mono fun e w' ⟨vo, he, ⟨ao, c, hv, _, hz⟩, hb⟩ => ?_
  rcases hz with hz | ⟨b, off, rfl, _, hc⟩
  · cases hz
  · subst hv
    have := hc 0 (by simp)
    exact ⟨b, off, c, he, by simpa [iat] using this, hb⟩

/-- What holds of the lost ones. -/
structure Facts (acks : List R) (ls : List S3) (xs : List Int) : Prop where
  out : ∀ i, i < xs.length → memB acks (iat xs i) = false
  left : ∀ i, i < xs.length → (ls.any fun s => s.1 == iat xs i) = true
  some : ∀ i, i < xs.length → 0 < acks.length ∧ iat xs i ≤ (at' acks 0).2
  rise : ∀ i, i + 1 < xs.length → iat xs i < iat xs (i + 1)
theorem facts_hold {zs : List S3} {acks : List R} {now wait : Int} (h : both zs acks = 0) : Facts acks (leftL acks zs) (lostL acks now wait zs) := by
  have hm : ∀ i, i < (lostL acks now wait zs).length → ∃ s, s ∈ leftL acks zs ∧ lostB acks now wait s = true ∧ s.1 = iat (lostL acks now wait zs) i := fun i hi => lostL_mem.1 (iat_mem hi)
  refine ⟨fun i hi => ?_, fun i hi => ?_, fun i hi => ?_, fun i hi => ?_⟩
  · obtain ⟨s, h1, _, h3⟩ := hm i hi
    rw [← h3]; exact (left_sub h1).2
  · obtain ⟨s, h1, _, h3⟩ := hm i hi
    exact List.any_eq_true.2 ⟨s, h1, by simp [h3]⟩
  · obtain ⟨s, _, h2, h3⟩ := hm i hi
    have hr := lost_reach h2
    have hg := (chk_ok acks).1 (both_0 h).2
    rw [h3] at hr
    simp only [reachB, List.any_eq_true, decide_eq_true_eq] at hr
    obtain ⟨r, hr1, hr2⟩ := hr
    cases acks with
    | nil => simp at hr1
    | cons a rs =>
      refine ⟨by simp, ?_⟩
      have e : at' (a :: rs) 0 = a := by simp [at']
      rw [e]
      rcases List.mem_cons.1 hr1 with rfl | hr1
      · omega
      · have := hg.2.2.2.1 r hr1
        have := hg.2.2.1
        omega
  · have hp := lostL_rise (acks := acks) (now := now) (wait := wait) (sc_good (both_0 h).1).2.2
    have := List.pairwise_iff_getElem.1 hp i (i + 1) (by omega) hi (by omega)
    simpa [iat, hi, show i < (lostL acks now wait zs).length by omega] using this
theorem any_next {α : Type} (p : α → Bool) (d : α) {l : List α} {k : Nat} (hk : k < l.length) : (l.take (k + 1)).any p = ((l.take k).any p || p (l[k]?.getD d)) := by
  rw [List.take_succ_eq_append_getElem hk, List.any_append]
  simp [hk]
theorem any_le {α : Type} (p : α → Bool) {l : List α} {k : Nat} (h : (l.take k).any p = true) : (l.take (k + 1)).any p = true := by
  obtain ⟨a, h1, h2⟩ := List.any_eq_true.1 h
  exact List.any_eq_true.2 ⟨a, (List.take_sublist_take_left (Nat.le_succ k)).subset h1, h2⟩

set_option maxRecDepth 100000 in
set_option maxHeartbeats 2000000 in
theorem never_bad (u v : Value) (zs : List S3) (acks : List R) (now wait more : Int) (w : World) (hZ : Row3 w u zs) (hR : Row w v acks) (h : lostF zs acks now wait ≠ 0) :
    Calls Try.prog 3 #[u, v, .int .i64 now, .int .i64 wait, .int .i64 more] w fun e w' => e = .returned (.bool true) ∧ Below w.heap.size w w' := by
  have bel := W2_below w
  have hf := fact_calls w
  have HL : Hid (∀ w1, Below w.heap.size w w1 → Calls Try.prog 5 #[u, v, .int .i64 now, .int .i64 wait] w1 fun e w' => e = .returned (.tuple #[.slice none 0 0, .iface 42 (.int .i64 (lostF zs acks now wait))]) ∧ Below w1.heap.size w1 w') := fun w1 hb => lost_bad u v zs acks now wait w1 (hZ.below hb) (hR.below hb) h
  clear hZ hR h
  generalize lostF zs acks now wait = f at HL
  unfold W2 at bel hf
  go_enter Try.func3, Try.ntmps3
  go_wp2_with (first | (go_at_call_of 5 now; refine (HL.out _ hB1).mono ?_; rintro e w2 ⟨rfl, hb2⟩) | (go_at_call 5; refine hf.mono ?_; rintro e w1 ⟨b, off, c, rfl, hc0, hb1⟩; have hB1 := bel.trans (hb1.mono bel.size)))
  go_ret
  exact ⟨rfl, hB1.trans (hb2.mono hB1.size)⟩
set_option maxRecDepth 100000 in
set_option maxHeartbeats 2000000 in
theorem never_good (u v : Value) (zs : List S3) (acks : List R) (now wait more : Int) (w : World) (hZ : Row3 w u zs) (hR : Row w v acks) (h : lostF zs acks now wait = 0) :
    Calls Try.prog 3 #[u, v, .int .i64 now, .int .i64 wait, .int .i64 more] w fun e w' => e = .returned (.bool true) ∧ Below w.heap.size w w' := by
  have bel := W2_below w
  have hf := fact_calls w
  have hboth := (lostF_0 h).1
  have twait := (isW_iff wait).1 (lostF_0 h).2.2
  have HL : Hid (∀ w1, Below w.heap.size w w1 → Calls Try.prog 5 #[u, v, .int .i64 now, .int .i64 wait] w1 fun e w' => ∃ vo, e = .returned (.tuple #[vo, .nilIface]) ∧ IRow w' vo (lostL acks now wait zs) ∧ Below w1.heap.size w1 w') := fun w1 hb => lost_good u v zs acks now wait w1 (hZ.below hb) (hR.below hb) h
  have HLB : Hid (∀ w1, Below w.heap.size w w1 → lostF zs acks now (wait + more) ≠ 0 → Calls Try.prog 5 #[u, v, .int .i64 now, .int .i64 (wait + more)] w1 fun e w' => e = .returned (.tuple #[.slice none 0 0, .iface 42 (.int .i64 (lostF zs acks now (wait + more)))]) ∧ Below w1.heap.size w1 w') := fun w1 hb hf => lost_bad u v zs acks now (wait + more) w1 (hZ.below hb) (hR.below hb) hf
  have HL2 : Hid (∀ w1, Below w.heap.size w w1 → lostF zs acks now (wait + more) = 0 → 0 ≤ more → Calls Try.prog 5 #[u, v, .int .i64 now, .int .i64 (wait + more)] w1 fun e w' => ∃ vo ys, e = .returned (.tuple #[vo, .nilIface]) ∧ IRow w' vo ys ∧ (∀ t, t < ys.length → iat ys t ∈ lostL acks now wait zs) ∧ Below w1.heap.size w1 w') := fun w1 hb hf hm =>
    (lost_good u v zs acks now (wait + more) w1 (hZ.below hb) (hR.below hb) hf).mono fun e w' ⟨vo, he, hi, hb⟩ => ⟨vo, _, he, hi, fun t ht => lostL_less hm (iat_mem ht), hb⟩
  have HLE : Hid (∀ w1, Below w.heap.size w w1 → Calls Try.prog 6 #[u, v] w1 fun e w' => ∃ u', e = .returned (.tuple #[u', .nilIface]) ∧ Row3 w' u' (leftL acks zs) ∧ Below w1.heap.size w1 w') := fun w1 hb => leftx_yes u v zs acks w1 (hZ.below hb) (hR.below hb) hboth
  have HF : Hid (Facts acks (leftL acks zs) (lostL acks now wait zs)) := facts_hold hboth
  have HRA : Hid (∀ w1, Below w.heap.size w w1 → Row w1 v acks) := fun w1 hb => hR.below hb
  have HR0 : Hid (∀ w1 n, Below w.heap.size w w1 → Calls Try.prog 7 #[v, .int .i64 n] w1 fun e w' => e = .returned (.bool (memB acks n)) ∧ Below w1.heap.size w1 w') := fun w1 n hb => rin_calls v acks n w1 (hR.below hb)
  have hxl30 : (lostL acks now wait zs).length ≤ 30 := by
    unfold lostL
    rw [List.length_map]
    exact Nat.le_trans (List.length_filter_le _ _) (Nat.le_trans (left_length acks zs) (sc_good (both_0 hboth).1).1)
  obtain ⟨ro, rc, rfl, hrl, _, hrz⟩ := hR
  clear hZ h hboth hrz
  generalize lostL acks now wait zs = xs at HL HL2 HF hxl30
  generalize leftL acks zs = ls at HLE HF
  have HM' : Hid (acks.length = acks.length) := rfl
  generalize hm : acks.length = m at HL HLB HL2 HLE HR0 HRA hrl ⊢
  have HM : Hid (acks.length = m) := hm
  clear hm HM'
  unfold W2 at bel hf
  go_enter Try.func3, Try.ntmps3
  go_wp2_with (first | (go_at_call_of 5 now; refine (HL.out _ hB1).mono ?_; rintro e w2 ⟨vo, rfl, hx2, hb2⟩; have hB2 := hB1.trans (hb2.mono hB1.size); obtain ⟨xo, xc, rfl, hxl, hxz⟩ := hx2) | (go_at_call 5; refine hf.mono ?_; rintro e w1 ⟨b, off, c, rfl, hc0, hb1⟩; have hB1 := bel.trans (hb1.mono bel.size)) | (go_at_call 6; refine (HLE.out _ hB2).mono ?_; rintro e w3 ⟨ul, rfl, hl3, hb3⟩; obtain ⟨lo, lc, rfl, hll, _, hlz⟩ := hl3))
  have hB3 := hB2.trans (hb3.mono hB2.size)
  have HXZ : Hid (xs = [] ∨ ∃ b off, xo = some ⟨b, off, none⟩ ∧ b < w3.heap.size ∧ ICells w3 b off xs) := by
    rcases hxz with h | ⟨b, off, e, hb, hc⟩
    · exact .inl h
    · exact .inr ⟨b, off, e, Nat.lt_of_lt_of_le hb hb3.size, hc.below hb hb3⟩
  have HLZ : Hid (ls = [] ∨ ∃ b off, lo = some ⟨b, off, none⟩ ∧ b < w3.heap.size ∧ Cells3 w3 b off ls) := hlz
  have HAZ : Hid (acks = [] ∨ ∃ b off, ro = some ⟨b, off, none⟩ ∧ b < w3.heap.size ∧ Cells w3 b off acks) := by
    obtain ⟨ao, c, e, _, _, h⟩ := HRA.out w3 hB3
    injection e with e1 e2 e3
    rw [e1]; exact h
  have HR : Hid (∀ w1 n, Below w3.heap.size w3 w1 → Calls Try.prog 7 #[.slice ro m rc, .int .i64 n] w1 fun e w' => e = .returned (.bool (memB acks n)) ∧ Below w1.heap.size w1 w') := fun w1 n hb => HR0.out w1 n (hB3.trans (hb.mono hB3.size))
  generalize hnx : xs.length = nx at hxl hxl30 ⊢
  have HX : Hid (xs.length = nx) := hnx
  generalize hnl : ls.length = nl at hll ⊢
  have HN : Hid (ls.length = nl) := hnl
  clear hnx hnl hxz hlz hf HL HLE HR0 HRA hc0
  go_loopg [17, 18, 19, 20] nx (fun gg s17 _ _ _ wr => ∃ k : Nat, k ≤ nx ∧ nx - k ≤ gg ∧ s17 = .int .i64 k ∧ Hid (Below w3.heap.size w3 wr))
  case atStart => exact ⟨0, Nat.zero_le _, by omega, rfl, Below.refl _ _⟩
  case round =>
    obtain ⟨k, hk, hgg, rfl, HBr⟩ := hrel
    by_cases hlt : k < nx
    · have hltz : (k : Int) < (nx : Int) := by omega
      have hkx : k < xs.length := by have := HX.out; omega
      obtain ⟨xb, xoff, rfl, hxb, hxC⟩ : ∃ b off, xo = some ⟨b, off, none⟩ ∧ b < w3.heap.size ∧ ICells w3 b off xs := by
        rcases HXZ.out with h | h
        · rw [h] at hkx; simp at hkx
        · exact h
      have x0 := (hxC.below hxb HBr.out) k hkx
      have xp : Hid (0 < k → wr.cell? ⟨xb, xoff + (k - 1), none⟩ = some (.int .i64 (iat xs (k - 1)))) := fun _ => (hxC.below hxb HBr.out) (k - 1) (by omega)
      have HIN := HR.out wr (iat xs k) HBr.out
      rw [HF.out.out k hkx] at HIN
      have HA : Hid ((ls.any fun s => s.1 == iat xs k) = true) := HF.out.left k hkx
      obtain ⟨hm0, hle0⟩ := HF.out.some k hkx
      have HS : Hid (0 < k → iat xs (k - 1) < iat xs k) := fun h0 => by
        have := HF.out.rise (k - 1) (by omega)
        rwa [show k - 1 + 1 = k by omega] at this
      obtain ⟨ab, aoff, rfl, hab, haC⟩ : ∃ b off, ro = some ⟨b, off, none⟩ ∧ b < w3.heap.size ∧ Cells w3 b off acks := by
        rcases HAZ.out with h | h
        · rw [h] at hm0; simp at hm0
        · exact h
      have a1 := ((haC.below hab HBr.out) 0 hm0).2
      simp only [Nat.zero_mul, Nat.add_zero] at a1
      have hmz : (0 : Int) < (m : Int) := by have := HM.out; omega
      have hmz' : ((m : Int) == 0) = false := by simp; omega
      have hab' : ab < wr.heap.size := Nat.lt_of_lt_of_le hab HBr.out.size
      have hxb' : xb < wr.heap.size := Nat.lt_of_lt_of_le hxb HBr.out.size
      clear hxC haC hkx hm0
      generalize iat xs k = xi at x0 HIN HA hle0 HS
      generalize at' acks 0 = r0 at a1 hle0
      obtain ⟨rlo, rhi⟩ := r0
      simp only at a1 hle0
      go_wp2_with (go_at_call 7; refine HIN.mono ?_; rintro e w4 ⟨rfl, hb4⟩)
      go_loopg [19, 20] nl (fun gh s19 s20 wi => ∃ j : Nat, j ≤ nl ∧ nl - j ≤ gh ∧ s20 = .int .i64 j ∧ s19 = .bool ((ls.take j).any fun s => s.1 == xi) ∧ Hid (Below wr.heap.size wr wi))
      case atStart => exact ⟨0, Nat.zero_le _, by omega, rfl, by simp, hb4⟩
      case round =>
        obtain ⟨j, hj, hgh, rfl, rfl, HBi⟩ := hrel
        have x1 := (HBi.out.cell (p := ⟨xb, xoff + k, none⟩) hxb').trans x0
        by_cases hjl : j < nl
        · have hjz : (j : Int) < (nl : Int) := by omega
          have hjl' : j < ls.length := by have := HN.out; omega
          obtain ⟨lb, loff, rfl, hlb, hlC⟩ : ∃ b off, lo = some ⟨b, off, none⟩ ∧ b < w3.heap.size ∧ Cells3 w3 b off ls := by
            rcases HLZ.out with h | h
            · rw [h] at hjl'; simp at hjl'
            · exact h
          have l0 := ((hlC.below hlb (HBr.out.trans (HBi.out.mono HBr.out.size))) j hjl').1
          have HNX : Hid ((ls.take (j + 1)).any (fun s => s.1 == xi) = ((ls.take j).any (fun s => s.1 == xi) || (at3 ls j).1 == xi)) := any_next (fun (s : S3) => s.1 == xi) (0, 0, 0) hjl'
          clear hlC hjl'
          generalize (at3 ls j).1 = n0 at l0 HNX
          cases hany : (ls.take j).any (fun s => s.1 == xi) with
          | true =>
            have HT : Hid ((ls.take (j + 1)).any (fun s => s.1 == xi) = true) := by show _ = _; rw [HNX.out, hany]; rfl
            clear HNX
            go_wp2_with fail
            go_quiet (fail)
            go_wp2_with fail
            go_roundg (nl - (j + 1))
            case measure => omega
            case rel => exact ⟨j + 1, by omega, Nat.le_refl _, by go_num, by rw [HT.out], below_drewN HBi.out _⟩
          | false =>
            have HT : Hid ((ls.take (j + 1)).any (fun s => s.1 == xi) = (n0 == xi)) := by show _ = _; rw [HNX.out, hany]; rfl
            clear HNX
            go_wp2_with fail
            go_quiet (fail)
            go_wp2_with fail
            go_roundg (nl - (j + 1))
            case measure => omega
            case rel => exact ⟨j + 1, by omega, Nat.le_refl _, by go_num, by rw [HT.out], below_drewN HBi.out _⟩
        · obtain rfl : j = nl := by omega
          have hjz : ¬ (j : Int) < (j : Int) := by omega
          have hany : (ls.take j).any (fun s => s.1 == xi) = true := by rw [List.take_of_length_le (by have := HN.out; omega)]; exact HA.out
          have a2 := (HBi.out.cell (p := ⟨ab, aoff + 1, none⟩) hab').trans a1
          have hgt : decide (rhi < xi) = false := by simp; exact hle0
          by_cases hk0 : k = 0
          · subst hk0
            simp only [Nat.add_zero] at x1
            have hk00 : decide ((0 : Int) < ((0 : Nat) : Int)) = false := by simp
            go_wp2_with fail
            go_quiet (fail)
            go_wp2_with fail
            go_roundg (nx - 1)
            case measure => omega
            case rel => exact ⟨1, by omega, by omega, by go_num, HBr.out.trans ((below_drewN HBi.out _).mono HBr.out.size)⟩
          · have hkz : (0 : Int) < (k : Int) := by omega
            have p1 := (HBi.out.cell (p := ⟨xb, xoff + (k - 1), none⟩) hxb').trans (xp.out (by omega))
            have hlt1 := HS.out (by omega)
            generalize iat xs (k - 1) = pi at p1 hlt1
            obtain ⟨k', rfl⟩ : ∃ k', k = k' + 1 := ⟨k - 1, by omega⟩
            simp only [Nat.add_sub_cancel] at p1
            have wk : IntKind.i64.wrap ((k' : Int)) = (k' : Int) := wrap_small _ (by omega) (by omega)
            have gk0 : ¬ (k' : Int) < 0 := by omega
            have gk1 : (k' : Int) < (nx : Int) := by omega
            have hle1 : decide (xi ≤ pi) = false := by simp; omega
            go_wp2_with fail
            go_quiet (fail)
            go_wp2_with fail
            go_roundg (nx - (k' + 1 + 1))
            case measure => omega
            case rel => exact ⟨k' + 1 + 1, by omega, Nat.le_refl _, by go_num, HBr.out.trans ((below_drewN HBi.out _).mono HBr.out.size)⟩
    · obtain rfl : k = nx := by omega
      have hltz : ¬ (k : Int) < (k : Int) := by omega
      have hBend := hB3.trans (HBr.out.mono hB3.size)
      by_cases hm0 : more < 0
      · go_wp2_with fail
        go_ret
        exact ⟨rfl, hBend⟩
      · by_cases hm1 : 100000 < more
        · go_wp2_with fail
          go_ret
          exact ⟨rfl, hBend⟩
        · have wm : IntKind.i64.wrap (wait + more) = wait + more := wrap_small _ (by omega) (by omega)
          have h2 := HL2.out wr hBend
          by_cases hf2 : lostF zs acks now (wait + more) = 0
          · have h3 := h2 hf2 (by omega)
            clear h2 hf2
            go_wp2_with (go_at_call 5; refine h3.mono ?_; rintro e w5 ⟨vo, ys, rfl, ⟨yo, yc, rfl, hyl, hyz⟩, hsub, hb5⟩)
            have HYZ : Hid (ys = [] ∨ ∃ b off, yo = some ⟨b, off, none⟩ ∧ b < w5.heap.size ∧ ICells w5 b off ys) := hyz
            have HSUB : Hid (∀ t, t < ys.length → iat ys t ∈ xs) := hsub
            have HXZ5 : Hid (xs = [] ∨ ∃ b off, xo = some ⟨b, off, none⟩ ∧ b < w5.heap.size ∧ ICells w5 b off xs) := by
              rcases HXZ.out with h | ⟨b, off, e, hb, hc⟩
              · exact .inl h
              · exact .inr ⟨b, off, e, Nat.lt_of_lt_of_le hb (HBr.out.trans (hb5.mono HBr.out.size)).size, hc.below hb (HBr.out.trans (hb5.mono HBr.out.size))⟩
            have HY' : Hid (ys.length = ys.length) := rfl
            generalize hyn : ys.length = ny at hyl HY' ⊢
            have HY : Hid (ys.length = ny) := hyn
            clear hyn hyz hsub HY' h3
            go_loopg [22, 23, 24] ny (fun gg s22 _ _ wr => ∃ k : Nat, k ≤ ny ∧ ny - k ≤ gg ∧ s22 = .int .i64 k ∧ Hid (Below w5.heap.size w5 wr))
            case atStart => exact ⟨0, Nat.zero_le _, by omega, rfl, Below.refl _ _⟩
            case round =>
              obtain ⟨t, ht, hgt, rfl, HBt⟩ := hrel
              by_cases hlt2 : t < ny
              · have hltz2 : (t : Int) < (ny : Int) := by omega
                have hty : t < ys.length := by have := HY.out; omega
                obtain ⟨yb, yoff, rfl, hyb, hyC⟩ : ∃ b off, yo = some ⟨b, off, none⟩ ∧ b < w5.heap.size ∧ ICells w5 b off ys := by
                  rcases HYZ.out with h | h
                  · rw [h] at hty; simp at hty
                  · exact h
                have y0 := (hyC.below hyb HBt.out) t hty
                have HA : Hid (xs.any (fun n => n == iat ys t) = true) := List.any_eq_true.2 ⟨_, HSUB.out t hty, by simp⟩
                have hyb' : yb < wr.heap.size := Nat.lt_of_lt_of_le hyb HBt.out.size
                clear hyC hty
                generalize iat ys t = yi at y0 HA
                go_wp2_with fail
                go_loopg [23, 24] k (fun gh s23 s24 wi => ∃ j : Nat, j ≤ k ∧ k - j ≤ gh ∧ s24 = .int .i64 j ∧ s23 = .bool ((xs.take j).any fun n => n == yi) ∧ Hid (Below wr.heap.size wr wi))
                case atStart => exact ⟨0, Nat.zero_le _, by omega, rfl, by simp, Below.refl _ _⟩
                case round =>
                  obtain ⟨j, hj, hgh, rfl, rfl, HBi⟩ := hrel
                  have y1 := (HBi.out.cell (p := ⟨yb, yoff + t, none⟩) hyb').trans y0
                  by_cases hjl : j < k
                  · have hjz : (j : Int) < (k : Int) := by omega
                    have hjl' : j < xs.length := by have := HX.out; omega
                    obtain ⟨xb, xoff, rfl, hxb, hxC⟩ : ∃ b off, xo = some ⟨b, off, none⟩ ∧ b < w5.heap.size ∧ ICells w5 b off xs := by
                      rcases HXZ5.out with h | h
                      · rw [h] at hjl'; simp at hjl'
                      · exact h
                    have l0 := (hxC.below hxb (HBt.out.trans (HBi.out.mono HBt.out.size))) j hjl'
                    have HNX : Hid ((xs.take (j + 1)).any (fun n => n == yi) = ((xs.take j).any (fun n => n == yi) || iat xs j == yi)) := any_next (fun (n : Int) => n == yi) 0 hjl'
                    clear hxC hjl'
                    generalize iat xs j = n0 at l0 HNX
                    cases hany : (xs.take j).any (fun n => n == yi) with
                    | true =>
                      have HT : Hid ((xs.take (j + 1)).any (fun n => n == yi) = true) := by show _ = _; rw [HNX.out, hany]; rfl
                      clear HNX
                      go_wp2_with fail
                      go_quiet (fail)
                      go_wp2_with fail
                      go_roundg (k - (j + 1))
                      case measure => omega
                      case rel => exact ⟨j + 1, by omega, Nat.le_refl _, by go_num, by rw [HT.out], below_drewN HBi.out _⟩
                    | false =>
                      have HT : Hid ((xs.take (j + 1)).any (fun n => n == yi) = (n0 == yi)) := by show _ = _; rw [HNX.out, hany]; rfl
                      clear HNX
                      go_wp2_with fail
                      go_quiet (fail)
                      go_wp2_with fail
                      go_roundg (k - (j + 1))
                      case measure => omega
                      case rel => exact ⟨j + 1, by omega, Nat.le_refl _, by go_num, by rw [HT.out], below_drewN HBi.out _⟩
                  · obtain rfl : j = k := by omega
                    have hjz : ¬ (j : Int) < (j : Int) := by omega
                    have hany : (xs.take j).any (fun n => n == yi) = true := by rw [List.take_of_length_le (by have := HX.out; omega)]; exact HA.out
                    go_wp2_with fail
                    go_roundg (ny - (t + 1))
                    case measure => omega
                    case rel => exact ⟨t + 1, by omega, Nat.le_refl _, by go_num, HBt.out.trans (HBi.out.mono HBt.out.size)⟩
              · obtain rfl : t = ny := by omega
                have hltz2 : ¬ (t : Int) < (t : Int) := by omega
                go_wp2_with fail
                go_ret
                exact ⟨rfl, hB3.trans ((HBr.out.trans ((hb5.trans (HBt.out.mono hb5.size)).mono HBr.out.size)).mono hB3.size)⟩
          · have h3 := HLB.out wr hBend hf2
            clear h2 hf2
            generalize lostF zs acks now (wait + more) = f at h3
            go_wp2_with (go_at_call 5; refine h3.mono ?_; rintro e w5 ⟨rfl, hb5⟩)
            go_ret
            exact ⟨rfl, hBend.trans (hb5.mono hBend.size)⟩
theorem never_walk (u v : Value) (zs : List S3) (acks : List R) (now wait more : Int) (w : World) (hZ : Row3 w u zs) (hR : Row w v acks) :
    Calls Try.prog 3 #[u, v, .int .i64 now, .int .i64 wait, .int .i64 more] w fun e w' => e = .returned (.bool true) ∧ Below w.heap.size w w' := by
  by_cases h : lostF zs acks now wait = 0
  · exact never_good u v zs acks now wait more w hZ hR h
  · exact never_bad u v zs acks now wait more w hZ hR h
end Go.Proofs.Ytingcgadolcanaa
