/- The walk of the law IDsOnce. -/
import Derived.Test.YtlmllfakoglbcaaDoorP
namespace Go.Proofs.YtlmllfakoglbcaaDoor
open Go.RowKit Go.Lib Go.Sort Go.Shelf
set_option linter.unusedVariables false
set_option linter.unusedSimpArgs false

set_option maxRecDepth 100000 in
set_option maxHeartbeats 4000000 in
theorem once_no1 (n : Int) (ao : Option Addr) (len cap : Nat) (w : World) (hH : Handle w) (h : limitB n = false) (c : n < 1) : Calls Tryd.prog 3 #[.int .i64 n, .slice ao len cap] w fun e w' => e = .returned (.bool true) ∧ Below w.heap.size w w' := by
  go_enter Tryd.func3, Tryd.ntmps3
  go_wp2_with fail
  refine (one_a _).mono ?_
  rintro e w1 ⟨sb1, bm1, v1, rfl, hO1, hB1⟩
  go_wp2_with fail
  refine (one_b hO1).mono ?_
  rintro e w2 ⟨rfl, v2, hO2, hb2⟩
  go_wp2_with fail
  have hB2 := hB1.trans hb2
  have hA := IdBox.new w2 0 7 29
  have hO2a := hO2.below ((Below.refl _ _).alloc (Nat.le_refl _) (.cells #[.int .i64 0, .int .i64 7] 29))
  have hB2a := hB2.alloc hO2.le (.cells #[.int .i64 0, .int .i64 7] 29)
  have hlt : ∀ k, own sb1 bm1 v2 k → k < w2.heap.size := fun k hk => hO2.lt hk
  generalize w2.heap.size = A7 at hA hlt ⊢
  generalize w2.alloc (.cells #[.int .i64 0, .int .i64 7] 29) = W2 at hA hO2a hB2a ⊢
  clear hO1 hB1 hO2 hb2 hB2
  refine (one_c hO2a).mono ?_
  rintro e w3 ⟨rfl, hb3⟩
  go_wp2_with fail
  have hb3a := hb3.alloc hb3.size (.cells #[.int .i64 0, .int .i64 0] 29)
  have hA3 := hA.below hb3a
  have hO3 := hO2a.below hb3a
  have hB3 := hB2a.trans (hb3a.mono hB2a.size)
  generalize w3.heap.size = X9
  generalize w3.alloc (.cells #[.int .i64 0, .int .i64 0] 29) = W3 at hA3 hO3 hB3 ⊢
  clear hA hO2a hB2a hb3 hb3a
  refine (one_d hO3).mono ?_
  rintro e w4 ⟨rfl, v4, hO4, ho4, hv4⟩
  go_wp2_with fail
  have hA4 := hA3.off ho4 (fun e => by have := hlt _ e; omega)
  have hB4 := hB3.trans (ho4.below (fun k hk => hO3.ge hk) hO3.le)
  have hlt4 : ∀ k, own sb1 bm1 v4 k → k < A7 := fun k hk => hlt k (own_same hv4 hk)
  clear hA3 hO3 hB3 ho4 hv4 hlt
  refine (one_e hO4).mono ?_
  rintro e w5 ⟨rfl, hb5⟩
  go_wp2_with fail
  have hb5a := hb5.alloc hb5.size (.cells #[.int .i64 0, .int .i64 0] 29)
  have hA5 := hA4.below hb5a
  have hO5 := hO4.below hb5a
  have hB5 := hB4.trans (hb5a.mono hB4.size)
  generalize w5.heap.size = X12
  generalize w5.alloc (.cells #[.int .i64 0, .int .i64 0] 29) = W5 at hA5 hO5 hB5 ⊢
  clear hA4 hO4 hB4 hb5 hb5a
  refine (one_f hO5).mono ?_
  rintro e w6 ⟨rfl, ho6⟩
  have hA6 := hA5.off ho6 (fun e => by have := hlt4 _ e; omega)
  have hB6 := hB5.trans (ho6.below (fun k hk => hO5.ge hk) hO5.le)
  have hF := IdBox.new w6 1 8 29
  have b6 : Below w6.heap.size w6 (w6.alloc (.cells #[.int .i64 1, .int .i64 8] 29)) := (Below.refl _ _).alloc (Nat.le_refl _) _
  have hA7 := hA6.below b6
  have a0 := hA7.c0
  go_wp2_with fail
  have hB7 := hB6.trans (b6.mono hB6.size)
  generalize w6.heap.size = X14 at hF ⊢
  generalize w6.alloc (.cells #[.int .i64 1, .int .i64 8] 29) = W6 at hF hA7 hB7 a0 ⊢
  clear hA5 hO5 hB5 ho6 hA6 hB6 b6 hlt4
  refine (same_err 4 4 _ (hH.below hB7)).mono ?_
  rintro e w7 ⟨rfl, hb7⟩
  go_wp2_with fail
  have hF8 := hF.below hb7
  have hB8 := hB7.trans (hb7.mono hB7.size)
  clear hA7 a0 hF hB7 hb7
  refine (same_err 7 7 _ (hH.below hB8)).mono ?_
  rintro e w8 ⟨rfl, hb8⟩
  have hF9 := hF8.below hb8
  have hB9 := hB8.trans (hb8.mono hB8.size)
  have f0 := hF9.c0
  go_wp2_with fail
  clear hF8 hB8 hb8
  clear f0 hF9
  refine (new_no n _ h).mono ?_
  rintro e w10 ⟨rfl, rfl⟩
  go_wp2_with fail
  go_ret
  exact ⟨by simp <;> omega, hB9⟩

set_option maxRecDepth 100000 in
set_option maxHeartbeats 4000000 in
theorem once_no2 (n : Int) (ao : Option Addr) (len cap : Nat) (w : World) (hH : Handle w) (h : limitB n = false) (c : 8 < n) : Calls Tryd.prog 3 #[.int .i64 n, .slice ao len cap] w fun e w' => e = .returned (.bool true) ∧ Below w.heap.size w w' := by
  go_enter Tryd.func3, Tryd.ntmps3
  go_wp2_with fail
  refine (one_a _).mono ?_
  rintro e w1 ⟨sb1, bm1, v1, rfl, hO1, hB1⟩
  go_wp2_with fail
  refine (one_b hO1).mono ?_
  rintro e w2 ⟨rfl, v2, hO2, hb2⟩
  go_wp2_with fail
  have hB2 := hB1.trans hb2
  have hA := IdBox.new w2 0 7 29
  have hO2a := hO2.below ((Below.refl _ _).alloc (Nat.le_refl _) (.cells #[.int .i64 0, .int .i64 7] 29))
  have hB2a := hB2.alloc hO2.le (.cells #[.int .i64 0, .int .i64 7] 29)
  have hlt : ∀ k, own sb1 bm1 v2 k → k < w2.heap.size := fun k hk => hO2.lt hk
  generalize w2.heap.size = A7 at hA hlt ⊢
  generalize w2.alloc (.cells #[.int .i64 0, .int .i64 7] 29) = W2 at hA hO2a hB2a ⊢
  clear hO1 hB1 hO2 hb2 hB2
  refine (one_c hO2a).mono ?_
  rintro e w3 ⟨rfl, hb3⟩
  go_wp2_with fail
  have hb3a := hb3.alloc hb3.size (.cells #[.int .i64 0, .int .i64 0] 29)
  have hA3 := hA.below hb3a
  have hO3 := hO2a.below hb3a
  have hB3 := hB2a.trans (hb3a.mono hB2a.size)
  generalize w3.heap.size = X9
  generalize w3.alloc (.cells #[.int .i64 0, .int .i64 0] 29) = W3 at hA3 hO3 hB3 ⊢
  clear hA hO2a hB2a hb3 hb3a
  refine (one_d hO3).mono ?_
  rintro e w4 ⟨rfl, v4, hO4, ho4, hv4⟩
  go_wp2_with fail
  have hA4 := hA3.off ho4 (fun e => by have := hlt _ e; omega)
  have hB4 := hB3.trans (ho4.below (fun k hk => hO3.ge hk) hO3.le)
  have hlt4 : ∀ k, own sb1 bm1 v4 k → k < A7 := fun k hk => hlt k (own_same hv4 hk)
  clear hA3 hO3 hB3 ho4 hv4 hlt
  refine (one_e hO4).mono ?_
  rintro e w5 ⟨rfl, hb5⟩
  go_wp2_with fail
  have hb5a := hb5.alloc hb5.size (.cells #[.int .i64 0, .int .i64 0] 29)
  have hA5 := hA4.below hb5a
  have hO5 := hO4.below hb5a
  have hB5 := hB4.trans (hb5a.mono hB4.size)
  generalize w5.heap.size = X12
  generalize w5.alloc (.cells #[.int .i64 0, .int .i64 0] 29) = W5 at hA5 hO5 hB5 ⊢
  clear hA4 hO4 hB4 hb5 hb5a
  refine (one_f hO5).mono ?_
  rintro e w6 ⟨rfl, ho6⟩
  have hA6 := hA5.off ho6 (fun e => by have := hlt4 _ e; omega)
  have hB6 := hB5.trans (ho6.below (fun k hk => hO5.ge hk) hO5.le)
  have hF := IdBox.new w6 1 8 29
  have b6 : Below w6.heap.size w6 (w6.alloc (.cells #[.int .i64 1, .int .i64 8] 29)) := (Below.refl _ _).alloc (Nat.le_refl _) _
  have hA7 := hA6.below b6
  have a0 := hA7.c0
  go_wp2_with fail
  have hB7 := hB6.trans (b6.mono hB6.size)
  generalize w6.heap.size = X14 at hF ⊢
  generalize w6.alloc (.cells #[.int .i64 1, .int .i64 8] 29) = W6 at hF hA7 hB7 a0 ⊢
  clear hA5 hO5 hB5 ho6 hA6 hB6 b6 hlt4
  refine (same_err 4 4 _ (hH.below hB7)).mono ?_
  rintro e w7 ⟨rfl, hb7⟩
  go_wp2_with fail
  have hF8 := hF.below hb7
  have hB8 := hB7.trans (hb7.mono hB7.size)
  clear hA7 a0 hF hB7 hb7
  refine (same_err 7 7 _ (hH.below hB8)).mono ?_
  rintro e w8 ⟨rfl, hb8⟩
  have hF9 := hF8.below hb8
  have hB9 := hB8.trans (hb8.mono hB8.size)
  have f0 := hF9.c0
  go_wp2_with fail
  clear hF8 hB8 hb8
  clear f0 hF9
  refine (new_no n _ h).mono ?_
  rintro e w10 ⟨rfl, rfl⟩
  go_wp2_with fail
  go_ret
  exact ⟨by simp <;> omega, hB9⟩

theorem Once.shape {w wr : World} {sb bm : Nat} {va vs : Value} {L : Int} {ns : List Int} {ls rs : List R} (h : Once w wr sb bm va vs L ns ls rs) : ∃ a cap, va = .slice a rs.length cap := by
  rcases h.row.2 with ⟨rfl, e⟩ | ⟨g, cap, cur, rfl, _⟩
  · exact ⟨none, 0, by rw [e]⟩
  · exact ⟨_, _, rfl⟩
theorem Once.addr {w wr : World} {sb bm : Nat} {a : Option Addr} {m cap : Nat} {vs : Value} {L : Int} {ns : List Int} {ls rs : List R} (h : Once w wr sb bm (.slice a m cap) vs L ns ls rs) (h0 : 0 < rs.length) : ∃ g, a = some ⟨g, 0, none⟩ ∧ g < wr.heap.size ∧ Cells wr g 0 rs := by
  have hr := h.row
  rcases hr.2 with ⟨_, e⟩ | ⟨g, cap', cur, e, _⟩
  · omega
  · injection e with e1 e2 e3
    subst e1
    rw [e2] at hr
    exact ⟨g, rfl, (hr.lt g rfl).2, cells_of_own hr⟩
theorem two_of {zs : List Int} (h : zs.length = 2) : ∃ x y, zs = [x, y] := by
  match zs, h with
  | [x, y], _ => exact ⟨x, y, rfl⟩
/-- The row of a step, in a world behind the law's start. -/
theorem row_at {w wr : World} {b off len : Nat} (h : Steps w b off len) (hb : Below w.heap.size w wr) {k : Nat} (hk : k < len) : ∃ ar cr zs, wr.cell? ⟨b, off + k, none⟩ = some (.slice ar zs.length cr) ∧ Ints w ar zs := by
  obtain ⟨ar, cr, zs, h1, h2⟩ := h.2.2 k hk
  exact ⟨ar, cr, zs, (hb.cell (p := ⟨b, off + k, none⟩) h.1).trans h1, h2⟩
theorem two_at {w : World} {ar : Option Addr} {zs : List Int} (h : Ints w ar zs) (h2 : zs.length = 2) : ∃ rb ro x0 x1, ar = some ⟨rb, ro, none⟩ ∧ rb < w.heap.size ∧ w.cell? ⟨rb, ro, none⟩ = some (.int .i64 x0) ∧ w.cell? ⟨rb, ro + 1, none⟩ = some (.int .i64 x1) ∧ wf64 x1 := by
  obtain ⟨x0, x1, rfl⟩ := two_of h2
  obtain ⟨_, hw, hz⟩ := h
  rcases hz with hz | ⟨rb, ro, e, hl, hc⟩
  · cases hz
  · exact ⟨rb, ro, x0, x1, e, hl, hc 0 (by simp), hc 1 (by simp), hw x1 (by simp)⟩
theorem isIn_snoc (ls : List R) (q n : Int) : isIn (ls ++ [(q, n)]) q = true := by simp [isIn]
set_option maxRecDepth 100000 in
set_option maxHeartbeats 4000000 in
theorem once_yes (L : Int) (ao : Option Addr) (len sc : Nat) (w : World) (hH : Handle w) (h : limitB L = true) (hS : len = 0 ∨ ∃ b off, ao = some ⟨b, off, none⟩ ∧ Steps w b off len) : Calls Tryd.prog 3 #[.int .i64 L, .slice ao len sc] w fun e w' => e = .returned (.bool true) ∧ Below w.heap.size w w' := by
  have HS : Hid (len = 0 ∨ ∃ b off, ao = some ⟨b, off, none⟩ ∧ Steps w b off len) := hS
  clear hS
  go_enter Tryd.func3, Tryd.ntmps3
  go_wp2_with fail
  refine (one_a _).mono ?_
  rintro e w1 ⟨sb1, bm1, v1, rfl, hO1, hB1⟩
  go_wp2_with fail
  refine (one_b hO1).mono ?_
  rintro e w2 ⟨rfl, v2, hO2, hb2⟩
  go_wp2_with fail
  have hB2 := hB1.trans hb2
  have hA := IdBox.new w2 0 7 29
  have hO2a := hO2.below ((Below.refl _ _).alloc (Nat.le_refl _) (.cells #[.int .i64 0, .int .i64 7] 29))
  have hB2a := hB2.alloc hO2.le (.cells #[.int .i64 0, .int .i64 7] 29)
  have hlt : ∀ k, own sb1 bm1 v2 k → k < w2.heap.size := fun k hk => hO2.lt hk
  generalize w2.heap.size = A7 at hA hlt ⊢
  generalize w2.alloc (.cells #[.int .i64 0, .int .i64 7] 29) = W2 at hA hO2a hB2a ⊢
  clear hO1 hB1 hO2 hb2 hB2
  refine (one_c hO2a).mono ?_
  rintro e w3 ⟨rfl, hb3⟩
  go_wp2_with fail
  have hb3a := hb3.alloc hb3.size (.cells #[.int .i64 0, .int .i64 0] 29)
  have hA3 := hA.below hb3a
  have hO3 := hO2a.below hb3a
  have hB3 := hB2a.trans (hb3a.mono hB2a.size)
  generalize w3.heap.size = X9
  generalize w3.alloc (.cells #[.int .i64 0, .int .i64 0] 29) = W3 at hA3 hO3 hB3 ⊢
  clear hA hO2a hB2a hb3 hb3a
  refine (one_d hO3).mono ?_
  rintro e w4 ⟨rfl, v4, hO4, ho4, hv4⟩
  go_wp2_with fail
  have hA4 := hA3.off ho4 (fun e => by have := hlt _ e; omega)
  have hB4 := hB3.trans (ho4.below (fun k hk => hO3.ge hk) hO3.le)
  have hlt4 : ∀ k, own sb1 bm1 v4 k → k < A7 := fun k hk => hlt k (own_same hv4 hk)
  clear hA3 hO3 hB3 ho4 hv4 hlt
  refine (one_e hO4).mono ?_
  rintro e w5 ⟨rfl, hb5⟩
  go_wp2_with fail
  have hb5a := hb5.alloc hb5.size (.cells #[.int .i64 0, .int .i64 0] 29)
  have hA5 := hA4.below hb5a
  have hO5 := hO4.below hb5a
  have hB5 := hB4.trans (hb5a.mono hB4.size)
  generalize w5.heap.size = X12
  generalize w5.alloc (.cells #[.int .i64 0, .int .i64 0] 29) = W5 at hA5 hO5 hB5 ⊢
  clear hA4 hO4 hB4 hb5 hb5a
  refine (one_f hO5).mono ?_
  rintro e w6 ⟨rfl, ho6⟩
  have hA6 := hA5.off ho6 (fun e => by have := hlt4 _ e; omega)
  have hB6 := hB5.trans (ho6.below (fun k hk => hO5.ge hk) hO5.le)
  have hF := IdBox.new w6 1 8 29
  have b6 : Below w6.heap.size w6 (w6.alloc (.cells #[.int .i64 1, .int .i64 8] 29)) := (Below.refl _ _).alloc (Nat.le_refl _) _
  have hA7 := hA6.below b6
  have a0 := hA7.c0
  go_wp2_with fail
  have hB7 := hB6.trans (b6.mono hB6.size)
  generalize w6.heap.size = X14 at hF ⊢
  generalize w6.alloc (.cells #[.int .i64 1, .int .i64 8] 29) = W6 at hF hA7 hB7 a0 ⊢
  clear hA5 hO5 hB5 ho6 hA6 hB6 b6 hlt4
  refine (same_err 4 4 _ (hH.below hB7)).mono ?_
  rintro e w7 ⟨rfl, hb7⟩
  go_wp2_with fail
  have hF8 := hF.below hb7
  have hB8 := hB7.trans (hb7.mono hB7.size)
  clear hA7 a0 hF hB7 hb7
  refine (same_err 7 7 _ (hH.below hB8)).mono ?_
  rintro e w8 ⟨rfl, hb8⟩
  have hF9 := hF8.below hb8
  have hB9 := hB8.trans (hb8.mono hB8.size)
  have f0 := hF9.c0
  go_wp2_with fail
  clear hF8 hB8 hb8
  clear f0 hF9
  refine (new_yes L _ h).mono ?_
  rintro e w10 ⟨rfl, hO10, hb10⟩
  have hS0 := Once.start (hO10.base hB9.size) (hB9.trans (hb10.mono hB9.size))
  generalize w8.heap.size + 1 = sb at hS0 ⊢
  generalize w8.heap.size = bm at hS0
  clear hO10 hb10 hB9
  go_wp2_with fail
  go_loopg [18, 19] 60 (fun gk s18 s19 wr => ∃ (k : Nat) (a : Option Addr) (cap : Nat) (vs : Value) (ns : List Int) (ls : List R), gk + k = 60 ∧ s18 = .slice a ns.length cap ∧ s19 = .int .i64 k ∧ Hid (∀ n ∈ ns, nameB n = true) ∧ Once w wr sb bm (.slice a ns.length cap) vs L ns ls (nm ns))
  case atStart => exact ⟨0, none, 0, _, [], [], rfl, rfl, rfl, (show ∀ n ∈ ([] : List Int), nameB n = true by simp), hS0⟩
  case round =>
    clear hS0
    obtain ⟨k, a, cap, vs, ns, ls, hk, rfl, rfl, HM, hE⟩ := hrel
    have HK : Hid (gk + k = 60) := hk
    clear hk
    have hmany : ns.length ≤ 100 := hE.obj.inv.many
    by_cases g1 : (k : Int) < (len : Int)
    · by_cases g2 : (k : Int) < 60
      · obtain ⟨b, off, rfl, hSt⟩ : ∃ b off, ao = some ⟨b, off, none⟩ ∧ Steps w b off len := by
          rcases HS.out with e | e
          · omega
          · exact e
        have hlen : len ≤ 9223372036854775807 := hSt.2.1
        obtain ⟨ar, cr, zs, hcell, hI⟩ := row_at hSt hE.bel (k := k) (by omega)
        have hzl : zs.length ≤ 9223372036854775807 := hI.1
        have HC : Hid (w.cell? ⟨b, off + k, none⟩ = some (.slice ar zs.length cr)) := (hE.bel.cell (p := ⟨b, off + k, none⟩) hSt.1).symm.trans hcell
        have hbw : b < w.heap.size := hSt.1
        clear hSt
        by_cases g3 : zs.length = 2
        · obtain ⟨rb, ro, x0, x1, rfl, hrb, hx0, hx1, hwf⟩ := two_at hI g3
          rw [g3] at hcell HC
          clear hI g3 hzl zs
          have y0 := (hE.bel.cell (p := ⟨rb, ro, none⟩) hrb).trans hx0
          have y1 := (hE.bel.cell (p := ⟨rb, ro + 1, none⟩) hrb).trans hx1
          have HX : Hid (w.cell? ⟨rb, ro + 1, none⟩ = some (.int .i64 x1)) := hx1
          clear hx0 hx1
          by_cases g4 : x0 = 0
          · subst g4
            cases g5 : isIn ls x1 with
            | false =>
              go_wp2_with fail
              refine (retire_no hE.obj x1 g5).mono ?_
              rintro e w11 ⟨rfl, hb11⟩
              go_wp2_with fail
              go_roundg (60 - (k + 1))
              case measure => have := HK.out; omega
              case rel => exact ⟨k + 1, a, cap, vs, ns, ls, by have := HK.out; omega, rfl, by go_num, HM, hE.below hb11⟩
            | true =>
              go_wp2_with fail
              refine (retire_yes hE.obj x1 g5).mono ?_
              rintro e w11 ⟨rfl, vs2, hO11, ho11, hv11⟩
              have hE2 := hE.turn hO11 ho11 (.inl hv11)
              clear hE hO11 ho11 hv11 hcell y0 y1
              go_wp2_with fail
              go_loopg [20] ns.length (fun gj s20 wr2 => ∃ j : Nat, gj + j = ns.length ∧ s20 = .int .i64 j ∧ Once w wr2 sb bm (.slice a ns.length cap) vs2 L ns (gone ls x1) (nm ns))
              case atStart => exact ⟨0, by omega, rfl, hE2⟩
              case round =>
                clear hE2
                obtain ⟨j, hj, rfl, hE3⟩ := hrel
                have HJ : Hid (gk + j = ns.length) := hj
                clear hj
                by_cases q1 : (j : Int) < (ns.length : Int)
                · obtain ⟨g, rfl, hgl, hcl⟩ := hE3.addr (by rw [nm_length]; omega)
                  have hcj := hcl j (by rw [nm_length]; omega)
                  rw [nm_at (by omega), Nat.zero_add] at hcj
                  obtain ⟨cj0, cj1⟩ := hcj
                  have hwj : (Lit.int .i64 (iat ns j)).wf = true := wf_name (HM.out _ (List.mem_of_getElem? (iat_get (by omega))))
                  have hgj : ns[j]? = some (iat ns j) := iat_get (by omega)
                  have rc := (hE3.bel.cell (p := ⟨b, off + k, none⟩) hbw).trans HC.out
                  have rx := (hE3.bel.cell (p := ⟨rb, ro + 1, none⟩) hrb).trans HX.out
                  have HGJ : Hid (ns[j]? = some (iat ns j)) := hgj
                  clear hgj hcl
                  have hE3q := fun q => hE3.below (below_drewN (Below.refl wr.heap.size wr) q)
                  by_cases q2 : (j : Int) = x1
                  · have hgone : isIn (gone ls x1) (j : Int) = false := by rw [q2]; exact gone_isIn
                    have HQ : Hid ((j : Int) = x1) := q2
                    have q3 : ((j : Int) == x1) = true := by simpa using q2
                    clear q2
                    go_wp2_with fail
                    go_quiet (fail)
                    go_wp2_with fail
                    refine (find_no2 (hE3q _).obj (iat ns j) hwj j HGJ.out hgone).mono ?_
                    rintro e w13 ⟨rfl, hb13⟩
                    have hE4 := ((hE3q _).below hb13).alloc (.cells #[.int .i64 0, .int .i64 0] 29)
                    go_wp2_with fail
                    refine (same_err 5 5 _ (hH.below hE4.bel)).mono ?_
                    rintro e w14 ⟨rfl, hb14⟩
                    have hE5 := hE4.below hb14
                    go_wp2_with fail
                    go_roundg (ns.length - (j + 1))
                    case measure => have := HJ.out; omega
                    case rel => exact ⟨j + 1, by have := HJ.out; omega, by go_num, hE5⟩
                  · have q3 : ((j : Int) == x1) = false := by simpa using q2
                    go_wp2_with fail
                    go_quiet (fail)
                    go_wp2_with fail
                    go_roundg (ns.length - (j + 1))
                    case measure => have := HJ.out; omega
                    case rel => exact ⟨j + 1, by have := HJ.out; omega, by go_num, hE3q _⟩
                · go_wp2_with fail
                  go_roundg (60 - (k + 1))
                  case measure => have := HK.out; omega
                  case rel => exact ⟨k + 1, a, cap, vs2, ns, gone ls x1, by have := HK.out; omega, rfl, by go_num, HM, hE3⟩
          · cases hn : nameB x1 with
            | false =>
              go_wp2_with fail
              refine (issue_range hE.obj x1 hn).mono ?_
              rintro e w11 ⟨rfl, hb11⟩
              have hE2 := (hE.below hb11).alloc (.cells #[.int .i64 0, .int .i64 0] 29)
              go_wp2_with fail
              go_roundg (60 - (k + 1))
              case measure => have := HK.out; omega
              case rel => exact ⟨k + 1, a, cap, vs, ns, ls, by have := HK.out; omega, rfl, by go_num, HM, hE2⟩
            | true =>
              by_cases hc : x1 ∈ ns
              · go_wp2_with fail
                refine (issue_clash hE.obj x1 hn hc).mono ?_
                rintro e w11 ⟨rfl, hb11⟩
                have hE2 := (hE.below hb11).alloc (.cells #[.int .i64 0, .int .i64 0] 29)
                go_wp2_with fail
                go_roundg (60 - (k + 1))
                case measure => have := HK.out; omega
                case rel => exact ⟨k + 1, a, cap, vs, ns, ls, by have := HK.out; omega, rfl, by go_num, HM, hE2⟩
              · cases hf : fullB L ns ls with
                | true =>
                  go_wp2_with fail
                  refine (issue_full hE.obj x1 hn hc hf).mono ?_
                  rintro e w11 ⟨rfl, hb11⟩
                  have hE2 := (hE.below hb11).alloc (.cells #[.int .i64 0, .int .i64 0] 29)
                  go_wp2_with fail
                  go_roundg (60 - (k + 1))
                  case measure => have := HK.out; omega
                  case rel => exact ⟨k + 1, a, cap, vs, ns, ls, by have := HK.out; omega, rfl, by go_num, HM, hE2⟩
                | false =>
                  have hroom : ns.length < 100 := by simp [fullB] at hf; omega
                  go_wp2_with fail
                  refine (issue_yes hE.obj x1 hn hc hf).mono ?_
                  rintro e w11 ⟨rfl, vs2, hO11, ho11, hv11⟩
                  have hE1 := hE.turn hO11 ho11 hv11
                  have hdk : ∀ g, (Value.slice a ns.length cap).ownBlock = some g → g < w11.heap.size := fun g hg => (hE1.row.lt g hg).2
                  have hE2 := hE1.alloc (.cells #[.int .i64 (ns.length : Int), .int .i64 x1] 29)
                  have hD := IdBox.new w11 (ns.length : Int) x1 29
                  clear hE1 hE hO11 ho11 hv11 hcell y0 y1
                  go_wp2_with fail
                  generalize w11.heap.size = dk at hD hdk ⊢
                  generalize w11.alloc (.cells #[.int .i64 (ns.length : Int), .int .i64 x1] 29) = W11 at hE2 hD ⊢
                  go_loopg [26] ns.length (fun gj s26 wr2 => ∃ j : Nat, gj + j = ns.length ∧ s26 = .int .i64 j ∧ IdBox wr2 dk (ns.length : Int) x1 ∧ Once w wr2 sb bm (.slice a ns.length cap) vs2 L (ns ++ [x1]) (ls ++ [((ns.length : Int), x1)]) (nm ns))
                  case atStart => exact ⟨0, by omega, rfl, hD, hE2⟩
                  case round =>
                    clear hE2 hD
                    obtain ⟨j, hj, rfl, hD3, hE3⟩ := hrel
                    have HJ : Hid (gk + j = ns.length) := hj
                    clear hj
                    by_cases q1 : (j : Int) < (ns.length : Int)
                    · obtain ⟨g, rfl, hgl, hcl⟩ := hE3.addr (by rw [nm_length]; omega)
                      have hcj := hcl j (by rw [nm_length]; omega)
                      rw [nm_at (by omega), Nat.zero_add] at hcj
                      obtain ⟨cj0, cj1⟩ := hcj
                      have hne : iat ns j ≠ x1 := fun e => hc (e ▸ List.mem_of_getElem? (iat_get (by omega)))
                      have n1 : (iat ns j == x1) = false := by simpa using hne
                      have n2 : decide ((ns.length : Int) ≤ (j : Int)) = false := decide_eq_false (by omega)
                      have d0 := hD3.c0
                      have d1 := hD3.c1
                      have hE3q := fun q => hE3.below (below_drewN (Below.refl wr.heap.size wr) q)
                      have hD3q := fun q => hD3.below (below_drewN (Below.refl wr.heap.size wr) q)
                      clear hcl hne
                      generalize iat ns j = y at cj1 n1
                      go_wp2_with fail
                      go_quiet (fail)
                      go_wp2_with fail
                      go_roundg (ns.length - (j + 1))
                      case measure => have := HJ.out; omega
                      case rel => exact ⟨j + 1, by have := HJ.out; omega, by go_num, hD3q _, hE3q _⟩
                    · have ba : Below wr.heap.size wr (wr.alloc (.cells #[.int .i64 (ns.length : Int), .int .i64 x1] 29)) := (Below.refl _ _).alloc (Nat.le_refl _) _
                      have hE4 := hE3.below ba
                      have hD4 := hD3.below ba
                      have hrow := hE4.row
                      rw [nm_length] at hrow
                      have hle4 := hE4.obj.le
                      have d0 := hD3.c0
                      have d1 := hD3.c1
                      obtain ⟨i0, hi0, hz0, hz1, hz2⟩ := info_parts infoR
                      go_wp2_with (at_builtin; refine wpList_append_own_at _ rfl (.tmp 201) (.tmp 203) 34 rfl w.heap.size 29 i0 _ 2 16 Tryd.underlying34 hi0 hz0 hz1 hz2 rfl (by decide) _ _ (flat (nm ns)) rfl hrow ⟨wr.heap.size, 0, none⟩ 1 1 (flat [((ns.length : Int), x1)]) rfl rfl (cells_two_new wr _ _ _) (fun u hu => flat_one u hu) (by unfold maxLen; omega) (by omega) hle4 ?_; intro v3 w12 ho12 hg12 _ hl12; obtain ⟨g3, cap3, rfl⟩ := own_shape ho12 (by omega); have hD5 := hD4.off (Off.of_grown (K := fun k => (Value.slice a ns.length cap).ownBlock = some k) hg12 (fun k e => e)) (fun e => by have := hdk _ e; omega); have dd := hD5.c1)
                      have hE5 := hE4.append (by rw [nm_length]; exact ho12) hg12 hl12
                      rw [← nm_snoc] at hE5
                      refine (find_yes hE5.obj x1 (wf_name hn) ns.length (by simp) (isIn_snoc _ _ _)).mono ?_
                      rintro e w13 ⟨rfl, hb13⟩
                      have b13 : Below w13.heap.size w13 (w13.alloc (.cells #[.int .i64 (ns.length : Int), .int .i64 x1] 29)) := (Below.refl _ _).alloc (Nat.le_refl _) _
                      have hE6 := (hE5.below hb13).below b13
                      have hD6 := (hD5.below hb13).below b13
                      have z0 := hD6.c0
                      have z1 := hD6.c1
                      have neq := neqI_same
                      have gdi := guardI
                      have hl2 : (ns ++ [x1]).length = ns.length + 1 := by simp
                      have HM2 : Hid (∀ n ∈ ns ++ [x1], nameB n = true) := by
                        intro n hn'
                        rcases List.mem_append.1 hn' with e | e
                        · exact HM.out n e
                        · have : n = x1 := by simpa using e
                          rw [this]; exact hn
                      clear hE3 hD3 hE4 hD4 hrow d0 d1 hE5 hD5 dd ho12 hg12 hl12 ba b13
                      go_wp2_with fail
                      go_roundg (60 - (k + 1))
                      case measure => have := HK.out; omega
                      case rel => exact ⟨k + 1, some ⟨g3, 0, none⟩, cap3, vs2, ns ++ [x1], ls ++ [((ns.length : Int), x1)], by have := HK.out; omega, by rw [hl2], by go_num, HM2, by rw [hl2]; exact hE6⟩
        · go_wp2_with fail
          go_roundg (60 - (k + 1))
          case measure => have := HK.out; omega
          case rel => exact ⟨k + 1, a, cap, vs, ns, ls, by have := HK.out; omega, rfl, by go_num, HM, hE⟩
      · go_wp2_with fail
        refine (live_calls hE.obj).mono ?_
        rintro e w11 ⟨u, rfl, hu, hb11⟩
        have hfull := hE.obj.inv.full
        obtain ⟨au, cu, rfl⟩ : ∃ a c, u = .slice a ls.length c := by
          rcases hu.2 with ⟨rfl, e⟩ | ⟨g, cap, cur, rfl, _⟩
          · exact ⟨none, 0, by rw [e]⟩
          · exact ⟨_, _, rfl⟩
        have hB11 := hE.bel.trans (hb11.mono hE.bel.size)
        go_wp2_with fail
        go_ret
        exact ⟨by simp <;> omega, hB11⟩
    · go_wp2_with fail
      refine (live_calls hE.obj).mono ?_
      rintro e w11 ⟨u, rfl, hu, hb11⟩
      have hfull := hE.obj.inv.full
      obtain ⟨au, cu, rfl⟩ : ∃ a c, u = .slice a ls.length c := by
        rcases hu.2 with ⟨rfl, e⟩ | ⟨g, cap, cur, rfl, _⟩
        · exact ⟨none, 0, by rw [e]⟩
        · exact ⟨_, _, rfl⟩
      have hB11 := hE.bel.trans (hb11.mono hE.bel.size)
      go_wp2_with fail
      go_ret
      exact ⟨by simp <;> omega, hB11⟩
theorem once_walk (n : Int) {v : Value} {w : World} (hv : StepsArg w v) (hH : Handle w) : Calls Tryd.prog 3 #[.int .i64 n, v] w fun e w' => e = .returned (.bool true) ∧ Below w.heap.size w w' := by
  obtain ⟨ao, len, c, rfl, hS⟩ := hv
  cases h : limitB n with
  | true => exact once_yes n ao len c w hH h hS
  | false =>
    rcases limitB_no h with g | g
    · exact once_no1 n ao len c w hH h g
    · exact once_no2 n ao len c w hH h g
end Go.Proofs.YtlmllfakoglbcaaDoor
