/- What the laws of package run need. -/
import Derived.Test.YtdokgalidhmbbaaGreatDoorHM
import Derived.Test.YtdokgalidhmbbaaGreatDoorChecked
import Derived.WalkKit
import Derived.WalkSpells
import Derived.WalkLawsBesides
import Derived.LoopN
import Derived.Outline
import Derived.BigQuiet
import Derived.Deep.RegionWith
import Derived.Deep.RegionHeld3
import Derived.Shelf.SlSortCmp.QuietGrown
import Derived.KernelRfl
import Derived.Laws.AppendOwn
import Derived.Laws.AppendOwnNone
set_option linter.unusedVariables false
set_option linter.unusedSimpArgs false
set_option maxRecDepth 100000
set_option maxHeartbeats 8000000
namespace Go.Proofs.YtdokgalidhmbbaaGreatDoor
open Go.RowKit Go.Lib Go.Sort

def at' (zs : List R) (j : Nat) : R := zs[j]?.getD (0, 0)
def Cells (w : World) (b off : Nat) (zs : List R) : Prop := ∀ j, j < zs.length → w.cell? ⟨b, off + j * 2, none⟩ = some (.int .i64 (at' zs j).1) ∧ w.cell? ⟨b, off + j * 2 + 1, none⟩ = some (.int .i64 (at' zs j).2)
/-- The slice's value v holds the ranges zs in the world w. -/
def Row (w : World) (v : Value) (zs : List R) : Prop := ∃ ao c, v = .slice ao zs.length c ∧ zs.length ≤ 9223372036854775807 ∧ (ao = none → c = 0) ∧ (zs = [] ∨ ∃ b off, ao = some ⟨b, off, none⟩ ∧ b < w.heap.size ∧ Cells w b off zs)
theorem Cells.below {w w' : World} {b off : Nat} {zs : List R} (h : Cells w b off zs) (hb : b < w.heap.size) (bel : Below w.heap.size w w') : Cells w' b off zs := fun j hj =>
  ⟨(bel.cell (p := ⟨b, off + j * 2, none⟩) hb).trans (h j hj).1, (bel.cell (p := ⟨b, off + j * 2 + 1, none⟩) hb).trans (h j hj).2⟩
theorem Row.below {w w' : World} {v : Value} {zs : List R} (h : Row w v zs) (bel : Below w.heap.size w w') : Row w' v zs := by
  obtain ⟨ao, c, rfl, hl, hn, h⟩ := h
  refine ⟨ao, c, rfl, hl, hn, ?_⟩
  rcases h with h | ⟨b, off, rfl, hb, hc⟩
  · exact .inl h
  · exact .inr ⟨b, off, rfl, Nat.lt_of_lt_of_le hb bel.size, hc.below hb bel⟩
theorem Row.nil (w : World) : Row w (.slice none 0 0) [] := ⟨none, 0, rfl, by simp, fun _ => rfl, .inl rfl⟩
theorem at_mem {zs : List R} {j : Nat} (h : j < zs.length) : at' zs j ∈ zs := by simp [at', h]
theorem drop_at {zs : List R} {j : Nat} (h : j < zs.length) : zs.drop j = at' zs j :: zs.drop (j + 1) := by
  rw [List.drop_eq_getElem_cons h]; simp [at', h]
theorem below_drewN {B : Nat} {a w : World} (h : Below B a w) (q : Nat) : Below B a (w.drewN q) := ⟨h.os, h.tape, h.output, h.size, h.block⟩
set_option maxRecDepth 100000 in
set_option maxHeartbeats 2000000 in
theorem isNumber_calls (n : Int) (w : World) : Calls Tryz.prog 157 #[.int .i64 n] w fun e w' => e = .returned (.bool (isN n)) ∧ w' = w := by
  by_cases h1 : 0 ≤ n
  · by_cases h2 : n ≤ 1073741823
    · have e : isN n = true := by simp [isN, h1, h2]
      go_enter Tryz.func157, Tryz.ntmps157
      go_wp2
      go_ret
      exact ⟨by simp [isN, h1, h2], rfl⟩
    · go_enter Tryz.func157, Tryz.ntmps157
      go_wp2
      go_ret
      exact ⟨by simp [isN, h1, h2], rfl⟩
  · go_enter Tryz.func157, Tryz.ntmps157
    go_wp2
    go_ret
    exact ⟨by rw [(isN_no n).2 (by omega)]; rfl, rfl⟩

set_option maxRecDepth 100000 in
set_option maxHeartbeats 2000000 in
theorem touches_grow (a b c d : Int) (w : World) (h0 : 0 ≤ b) (h1 : b ≤ 1073741823) : Calls Tryz.prog 180 #[.agg #[.int .i64 a, .int .i64 b], .agg #[.int .i64 c, .int .i64 d]] w fun e w' => e = .returned (.bool (decide (c ≤ b + 1))) ∧ ∃ q os', w' = grow (w.drewN q) os' := by
  go_enter Tryz.func180, Tryz.ntmps180
  go_wp2
  go_ret
  exact ⟨by simp <;> omega, 0, _, by rw [alloc_eq_grow, alloc_eq_grow, grow_grow]; rfl⟩
theorem below_grow {B : Nat} {a w : World} (h : Below B a w) (hB : B ≤ w.heap.size) (os : Array Obj) : Below B a (grow w os) := by
  refine ⟨h.os, h.tape, h.output, ?_, fun k hk => ?_⟩
  · have := h.size; show _ ≤ (w.heap ++ os).size; simp; omega
  · rw [← h.block k hk]; show (w.heap ++ os)[k]? = _; rw [Array.getElem?_append_left (by omega)]
theorem mixed : Tryz.prog.follows .mixedOrders = true := by kernel_rfl

def errV (k : Int) : Value := if k = 0 then .nilIface else .iface 133 (.int .i64 k)
theorem errV0 : errV 0 = .nilIface := rfl
theorem errV1 : errV 1 = .iface 133 (.int .i64 1) := rfl
theorem errV3 : errV 3 = .iface 133 (.int .i64 3) := rfl
theorem errV4 : errV 4 = .iface 133 (.int .i64 4) := rfl
def prv (zs : List R) (k : Nat) : Option Int := if k = 0 then none else some (at' zs (k - 1)).1
theorem prv_succ (zs : List R) (k : Nat) : prv zs (k + 1) = some (at' zs k).1 := by simp [prv]

theorem chk_r1 (p : Option Int) (r : R) (rs : List R) (h : isN r.1 = false ∨ isN r.2 = false) : chkFrom p (r :: rs) = 1 := by rw [chkFrom, if_pos h]
theorem chk_r3 (p : Option Int) (r : R) (rs : List R) (h1 : isN r.1 = true) (h2 : isN r.2 = true) (h : r.2 < r.1) : chkFrom p (r :: rs) = 3 := by rw [chkFrom, if_neg (by simp [h1, h2]), if_pos (.inl h)]
theorem chk_r3' (q : Int) (r : R) (rs : List R) (h1 : isN r.1 = true) (h2 : isN r.2 = true) (h : q ≤ r.2 + 1) : chkFrom (some q) (r :: rs) = 3 := by rw [chkFrom, if_neg (by simp [h1, h2]), if_pos (.inr ⟨q, rfl, h⟩)]
theorem chk_r0 (r : R) (rs : List R) (h1 : isN r.1 = true) (h2 : isN r.2 = true) (h : r.1 ≤ r.2) : chkFrom none (r :: rs) = chkFrom (some r.1) rs := by
  rw [chkFrom, if_neg (by simp [h1, h2]), if_neg]
  rintro (x | ⟨q, x, _⟩)
  · omega
  · cases x
theorem chk_r0' (q : Int) (r : R) (rs : List R) (h1 : isN r.1 = true) (h2 : isN r.2 = true) (h : r.1 ≤ r.2) (h3 : r.2 + 1 < q) : chkFrom (some q) (r :: rs) = chkFrom (some r.1) rs := by
  rw [chkFrom, if_neg (by simp [h1, h2]), if_neg]
  rintro (x | ⟨q', x, y⟩)
  · omega
  · cases x; omega

set_option maxRecDepth 100000 in
set_option maxHeartbeats 2000000 in
theorem check_full (a : Option Addr) (len cap : Nat) (w : World) (h : 12 < len) (hm : len ≤ 9223372036854775807) :
    Calls Tryz.prog 158 #[.slice a len cap] w fun e w' => e = .returned (.iface 133 (.int .i64 4)) ∧ Below w.heap.size w w' := by
  have h' : (12 : Int) < (len : Int) := by omega
  go_enter Tryz.func158, Tryz.ntmps158
  go_wp2_with fail
  go_ret
  exact ⟨rfl, Below.refl _ _⟩

set_option maxRecDepth 100000 in
set_option maxHeartbeats 2000000 in
theorem check_none (a : Option Addr) (cap : Nat) (w : World) :
    Calls Tryz.prog 158 #[.slice a 0 cap] w fun e w' => e = .returned .nilIface ∧ Below w.heap.size w w' := by
  go_enter Tryz.func158, Tryz.ntmps158
  go_wp2_with fail
  refine wp_loop_rounds 1 ?_
  rw [rounds_succ]
  go_wp2_with fail
  go_ret
  exact ⟨rfl, Below.refl _ _⟩

set_option maxRecDepth 100000 in
set_option maxHeartbeats 2000000 in
theorem check_some (b off len cap : Nat) (zs : List R) (w : World) (hlen : zs.length = len) (h12 : len ≤ 12) (hb : b < w.heap.size) (hc : Cells w b off zs) :
    Calls Tryz.prog 158 #[.slice (some ⟨b, off, none⟩) len cap] w fun e w' => e = .returned (errV (chkFrom none zs)) ∧ Below w.heap.size w w' := by
  have h12' : ¬ (12 : Int) < (len : Int) := by omega
  have HL : Hid (zs.length = len) := hlen
  have HC : Hid (Cells w b off zs) := hc
  clear hlen hc
  go_enter Tryz.func158, Tryz.ntmps158
  go_wp2_with fail
  go_loopw [11] (fun i wr => ∃ k : Nat, k ≤ len ∧ i = .int .i64 k ∧ Hid (chkFrom none zs = chkFrom (prv zs k) (zs.drop k)) ∧ Below w.heap.size w wr) (fun i _ => len - (intOf i).toNat)
  case atStart => exact ⟨0, Nat.zero_le _, rfl, rfl, Below.refl _ _⟩
  case round =>
    obtain ⟨k, hk, rfl, hE, hB⟩ := hrel
    by_cases hlt : k < len
    · have g1 : (k : Int) < (len : Int) := by omega
      have hkl : k < zs.length := by have := HL.out; omega
      have c0 := (HC.out.below hb hB k hkl).1
      have c1 := (HC.out.below hb hB k hkl).2
      have HD : Hid (zs.drop k = at' zs k :: zs.drop (k + 1)) := drop_at hkl
      have HP : Hid (prv zs (k + 1) = some (at' zs k).1) := prv_succ zs k
      have HK : Hid (0 < k → Cells wr b off zs) := fun _ => HC.out.below hb hB
      have hbr : b < wr.heap.size := Nat.lt_of_lt_of_le hb hB.size
      generalize hr : at' zs k = r at c0 c1 HD HP
      obtain ⟨lo, hi⟩ := r
      have HR : Hid (at' zs k = (lo, hi)) := hr
      clear hr
      simp only at c0 c1
      cases n1 : isN lo with
      | false =>
        have HF : Hid (chkFrom none zs = 1) := by
          show _ = _
          rw [hE.out, HD.out]; exact chk_r1 _ _ _ (.inl n1)
        clear hE
        go_wp2_with (go_at_call 157; refine (isNumber_calls lo _).mono ?_; rintro e w1 ⟨rfl, rfl⟩; rw [n1])
        go_ret
        exact ⟨by rw [HF.out, errV1]; rfl, hB.alloc hB.size _⟩
      | true =>
        cases n2 : isN hi with
        | false =>
          have HF : Hid (chkFrom none zs = 1) := by
            show _ = _
            rw [hE.out, HD.out]; exact chk_r1 _ _ _ (.inr n2)
          clear hE
          go_wp2_with (first | (go_at_call_of 157 lo; refine (isNumber_calls lo _).mono ?_; rintro e w1 ⟨rfl, rfl⟩; rw [n1]) | (go_at_call_of 157 hi; refine (isNumber_calls hi _).mono ?_; rintro e w1 ⟨rfl, rfl⟩; rw [n2]))
          go_ret
          exact ⟨by rw [HF.out, errV1]; rfl, hB.alloc hB.size _⟩
        | true =>
          have b1 := (isN_iff lo).1 n1
          have b2 := (isN_iff hi).1 n2
          by_cases h3 : hi < lo
          · have HF : Hid (chkFrom none zs = 3) := by
              show _ = _
              rw [hE.out, HD.out]; exact chk_r3 _ _ _ n1 n2 h3
            clear hE
            go_wp2_with (first | (go_at_call_of 157 lo; refine (isNumber_calls lo _).mono ?_; rintro e w1 ⟨rfl, rfl⟩; rw [n1]) | (go_at_call_of 157 hi; refine (isNumber_calls hi _).mono ?_; rintro e w1 ⟨rfl, rfl⟩; rw [n2]))
            go_quiet (fail)
            go_wp2_with fail
            go_ret
            exact ⟨by rw [HF.out, errV3]; rfl, below_drewN (hB.alloc hB.size _) _⟩
          · by_cases h0 : k = 0
            · subst h0
              have HF : Hid (chkFrom none zs = chkFrom (prv zs 1) (zs.drop 1)) := by
                show _ = _
                rw [hE.out, HD.out, HP.out]; exact chk_r0 _ _ n1 n2 (by show lo ≤ hi; omega)
              have hd : decide (hi < lo) = false := by simp; omega
              simp only [Nat.zero_mul, Nat.add_zero] at c0 c1
              clear hE HK
              go_wp2_with (first | (go_at_call_of 157 lo; refine (isNumber_calls lo _).mono ?_; rintro e w1 ⟨rfl, rfl⟩; rw [n1]) | (go_at_call_of 157 hi; refine (isNumber_calls hi _).mono ?_; rintro e w1 ⟨rfl, rfl⟩; rw [n2]))
              go_quiet (fail)
              go_wp2_with fail
              exact ⟨⟨1, by omega, by go_num, HF, below_drewN (hB.alloc hB.size _) _⟩, by simp [intOf]; omega⟩
            · have g2 : (0 : Int) < (k : Int) := by omega
              have hkl' : k - 1 < zs.length := by have := HL.out; omega
              have d0 := (HK.out (by omega) (k - 1) hkl').1
              have d1 := (HK.out (by omega) (k - 1) hkl').2
              have HQ : Hid (prv zs k = some (at' zs (k - 1)).1) := by
                show _ = _
                unfold prv; rw [if_neg h0]
              obtain ⟨j, rfl⟩ : ∃ j, k = j + 1 := ⟨k - 1, by omega⟩
              simp only [Nat.add_sub_cancel] at d0 d1 HQ
              generalize at' zs j = q at d0 d1 HQ
              obtain ⟨qlo, qhi⟩ := q
              simp only at d0 d1 HQ
              have hd : decide (hi < lo) = false := by simp; omega
              clear HK
              by_cases h4 : qlo ≤ hi + 1
              · have HF : Hid (chkFrom none zs = 3) := by
                  show _ = _
                  rw [hE.out, HD.out, HQ.out]; exact chk_r3' _ _ _ n1 n2 h4
                clear hE
                go_wp2_with (first | (go_at_call_of 157 lo; refine (isNumber_calls lo _).mono ?_; rintro e w1 ⟨rfl, rfl⟩; rw [n1]) | (go_at_call_of 157 hi; refine (isNumber_calls hi _).mono ?_; rintro e w1 ⟨rfl, rfl⟩; rw [n2]))
                generalize hW : wr.alloc (.cells #[.int .i64 lo, .int .i64 hi] 143) = W1
                have e0 : ∀ n os, (grow (W1.drewN n) os).cell? ⟨wr.heap.size, 0, none⟩ = some (.int .i64 lo) := cell_grown (by rw [← hW]; simp) (by rw [← hW]; simp)
                have e1 : ∀ n os, (grow (W1.drewN n) os).cell? ⟨wr.heap.size, 1, none⟩ = some (.int .i64 hi) := cell_grown (by rw [← hW]; simp) (by rw [← hW]; simp)
                have e2 : ∀ n os, (grow (W1.drewN n) os).cell? ⟨b, off + j * 2, none⟩ = some (.int .i64 qlo) := cell_grown (by rw [← hW]; show b < _; simp; omega) (by rw [← hW, Below.cell (((Below.refl wr.heap.size wr).alloc (Nat.le_refl _) _)) (by exact hbr)]; exact d0)
                have e3 : ∀ n os, (grow (W1.drewN n) os).cell? ⟨b, off + j * 2 + 1, none⟩ = some (.int .i64 qhi) := cell_grown (by rw [← hW]; show b < _; simp; omega) (by rw [← hW, Below.cell (((Below.refl wr.heap.size wr).alloc (Nat.le_refl _) _)) (by exact hbr)]; exact d1)
                have hB1 : Below w.heap.size w W1 := by rw [← hW]; exact hB.alloc hB.size _
                clear hW c0 c1 d0 d1 h3
                have mx := mixed
                have wj : IntKind.i64.wrap (j : Int) = (j : Int) := by simp [IntKind.wrap, IntKind.bits, IntKind.signed]; omega
                have gj : (j : Int) < (len : Int) := by omega
                have gj0 : ¬ (j : Int) < 0 := by omega
                go_quiet_grown (first | (go_at_call 180; refine Calls.grown_of (touches_grow lo hi qlo qhi _ b2.1 b2.2)))
                go_wp2_with fail
                go_ret
                exact ⟨by rw [HF.out, errV3]; rfl, below_grow (below_drewN hB1 _) hB1.size _⟩
              · have HF : Hid (chkFrom none zs = chkFrom (prv zs (j + 1 + 1)) (zs.drop (j + 1 + 1))) := by
                  show _ = _
                  rw [hE.out, HD.out, HQ.out, HP.out]; exact chk_r0' _ _ _ n1 n2 (by show lo ≤ hi; omega) (by show hi + 1 < qlo; omega)
                clear hE
                go_wp2_with (first | (go_at_call_of 157 lo; refine (isNumber_calls lo _).mono ?_; rintro e w1 ⟨rfl, rfl⟩; rw [n1]) | (go_at_call_of 157 hi; refine (isNumber_calls hi _).mono ?_; rintro e w1 ⟨rfl, rfl⟩; rw [n2]))
                generalize hW : wr.alloc (.cells #[.int .i64 lo, .int .i64 hi] 143) = W1
                have e0 : ∀ n os, (grow (W1.drewN n) os).cell? ⟨wr.heap.size, 0, none⟩ = some (.int .i64 lo) := cell_grown (by rw [← hW]; simp) (by rw [← hW]; simp)
                have e1 : ∀ n os, (grow (W1.drewN n) os).cell? ⟨wr.heap.size, 1, none⟩ = some (.int .i64 hi) := cell_grown (by rw [← hW]; simp) (by rw [← hW]; simp)
                have e2 : ∀ n os, (grow (W1.drewN n) os).cell? ⟨b, off + j * 2, none⟩ = some (.int .i64 qlo) := cell_grown (by rw [← hW]; show b < _; simp; omega) (by rw [← hW, Below.cell (((Below.refl wr.heap.size wr).alloc (Nat.le_refl _) _)) (by exact hbr)]; exact d0)
                have e3 : ∀ n os, (grow (W1.drewN n) os).cell? ⟨b, off + j * 2 + 1, none⟩ = some (.int .i64 qhi) := cell_grown (by rw [← hW]; show b < _; simp; omega) (by rw [← hW, Below.cell (((Below.refl wr.heap.size wr).alloc (Nat.le_refl _) _)) (by exact hbr)]; exact d1)
                have hB1 : Below w.heap.size w W1 := by rw [← hW]; exact hB.alloc hB.size _
                clear hW c0 c1 d0 d1 h3
                have mx := mixed
                have wj : IntKind.i64.wrap (j : Int) = (j : Int) := by simp [IntKind.wrap, IntKind.bits, IntKind.signed]; omega
                have gj : (j : Int) < (len : Int) := by omega
                have gj0 : ¬ (j : Int) < 0 := by omega
                go_quiet_grown (first | (go_at_call 180; refine Calls.grown_of (touches_grow lo hi qlo qhi _ b2.1 b2.2)))
                go_wp2_with fail
                exact ⟨⟨j + 1 + 1, by omega, by go_num, HF, below_grow (below_drewN hB1 _) hB1.size _⟩, by simp [intOf]; omega⟩
    · obtain rfl : k = len := by omega
      have e1 : zs.drop k = [] := List.drop_eq_nil_of_le (by have := HL.out; omega)
      have HF : Hid (chkFrom none zs = 0) := by
        show _ = _
        rw [hE.out, e1]; cases prv zs k <;> rfl
      clear hE e1
      go_wp2_with fail
      go_ret
      exact ⟨by rw [HF.out, errV0]; rfl, hB⟩

theorem check_calls (v : Value) (zs : List R) (w : World) (h : Row w v zs) :
    Calls Tryz.prog 158 #[v] w fun e w' => e = .returned (errV (chk zs)) ∧ Below w.heap.size w w' := by
  obtain ⟨ao, c, rfl, hl, hn, h⟩ := h
  unfold chk
  by_cases h12 : 12 < zs.length
  · rw [if_pos h12]
    exact check_full ao _ c w h12 hl
  · rw [if_neg h12]
    rcases h with rfl | ⟨b, off, rfl, hb, hc⟩
    · exact check_none ao c w
    · exact check_some b off _ c zs w rfl (by omega) hb hc

def encR (r : R) : List Value := [.int .i64 r.1, .int .i64 r.2]
def flat (zs : List R) : List Value := zs.flatMap encR
theorem flat_length (zs : List R) : (flat zs).length = zs.length * 2 := by
  induction zs with
  | nil => rfl
  | cons r rs ih => simp only [flat, List.flatMap_cons, List.length_append] at *; rw [ih]; simp [encR]; omega
theorem flat_append (a b : List R) : flat (a ++ b) = flat a ++ flat b := by simp [flat]
theorem flat_get : ∀ (zs : List R) (j : Nat), j < zs.length → (flat zs)[j * 2]? = some (.int .i64 (at' zs j).1) ∧ (flat zs)[j * 2 + 1]? = some (.int .i64 (at' zs j).2)
  | [], j, h => by simp at h
  | r :: rs, 0, _ => by simp [flat, encR, at']
  | r :: rs, j + 1, h => by
    have i := flat_get rs j (by simpa using h)
    have e1 : (j + 1) * 2 = j * 2 + 1 + 1 := by omega
    have e2 : flat (r :: rs) = .int .i64 r.1 :: .int .i64 r.2 :: flat rs := rfl
    have e3 : at' (r :: rs) (j + 1) = at' rs j := by simp [at']
    rw [e1, e2, e3]
    simpa using i
theorem flat_one {zs : List R} : ∀ u, u ∈ flat zs → u.oneCell' = true := by
  intro u hu
  simp only [flat, List.mem_flatMap] at hu
  obtain ⟨r, _, h⟩ := hu
  simp [encR] at h
  rcases h with rfl | rfl <;> rfl
theorem flat_cells {w : World} {b off : Nat} {zs : List R} (h : Cells w b off zs) (j : Nat) (u : Value) (hu : (flat zs)[j]? = some u) : w.cell? ((⟨b, off, none⟩ : Addr).add j) = some u := by
  have hl : j < (flat zs).length := (List.getElem?_eq_some_iff.1 hu).1
  rw [flat_length] at hl
  have hq : j / 2 < zs.length := by omega
  have g := flat_get zs (j / 2) hq
  have c := h (j / 2) hq
  rcases (show j = j / 2 * 2 ∨ j = j / 2 * 2 + 1 by omega) with e | e
  · rw [e] at hu ⊢
    rw [g.1] at hu
    rw [Addr.add_lit, ← hu]; exact c.1
  · rw [e] at hu ⊢
    rw [g.2] at hu
    rw [Addr.add_lit, ← hu, ← Nat.add_assoc]; exact c.2

theorem infoR : (Tryz.prog.info? 143).map (fun i => (i.zero, i.size, i.bytes)) = some (some (.agg #[.int .i64 0, .int .i64 0]), 2, 16) := by kernel_rfl

theorem own_lt {w : World} {base : Nat} {g n cap : Nat} {xs : List Value} (h : w.ownsRow base 143 2 (.slice (some ⟨g, 0, none⟩) n cap) n xs) : base ≤ g ∧ g < w.heap.size := h.lt g rfl
theorem cells_of_own {w : World} {base g n cap : Nat} {zs : List R} (h : w.ownsRow base 143 2 (.slice (some ⟨g, 0, none⟩) n cap) n (flat zs)) : Cells w g 0 zs := by
  intro j hj
  have f := flat_get zs j hj
  have c0 := h.cells (g := g) rfl _ _ f.1
  have c1 := h.cells (g := g) rfl _ _ f.2
  rw [Addr.add_lit] at c0 c1
  exact ⟨c0, by rw [← Nat.add_assoc] at c1; exact c1⟩
theorem own_length {w : World} {base n : Nat} {v : Value} {zs : List R} (h : w.ownsRow base 143 2 v n (flat zs)) : zs.length = n := by
  have := h.1; rw [flat_length] at this; omega
theorem row_of_own {w : World} {base n : Nat} {v : Value} {zs : List R} (h : w.ownsRow base 143 2 v n (flat zs)) (hl : zs.length ≤ 1000000) : Row w v zs := by
  have hn := own_length h
  rcases h.2 with ⟨rfl, h0⟩ | ⟨g, cap, cur, rfl, hb, hg, hr⟩
  · exact ⟨none, 0, by rw [hn, h0], by omega, fun _ => rfl, .inl (List.eq_nil_of_length_eq_zero (by omega))⟩
  · exact ⟨some ⟨g, 0, none⟩, cap, by rw [hn], by omega, (fun x => by cases x), .inr ⟨g, 0, rfl, (own_lt h).2, cells_of_own h⟩⟩
theorem own_below {w w' : World} {B e size n : Nat} {v : Value} {xs : List Value} (h : w.ownsRow B e size v n xs) (hb : Below w.heap.size w w') : w'.ownsRow B e size v n xs := by
  refine ⟨h.1, ?_⟩
  rcases h.2 with hn | ⟨g, cap, cur, rfl, hB, hgg, hr⟩
  · exact .inl hn
  · exact .inr ⟨g, cap, cur, rfl, hB, (hb.block g (Array.getElem?_eq_some_iff.1 hgg).1).trans hgg, hr⟩

theorem own_mono {w : World} {B B' e size n : Nat} {v : Value} {xs : List Value} (h : w.ownsRow B e size v n xs) (hb : B' ≤ B) : w.ownsRow B' e size v n xs := by
  refine ⟨h.1, ?_⟩
  rcases h.2 with hn | ⟨g, cap, cur, rfl, hB, hr⟩
  · exact .inl hn
  · exact .inr ⟨g, cap, cur, rfl, Nat.le_trans hb hB, hr⟩
theorem row_new (W : World) (lo hi : Int) : Row (W.alloc (.cells #[.int .i64 lo, .int .i64 hi] 143)) (.slice (some ⟨W.heap.size, 0, none⟩) 1 1) [(lo, hi)] := by
  refine ⟨some ⟨W.heap.size, 0, none⟩, 1, rfl, by simp, (fun x => by cases x), .inr ⟨W.heap.size, 0, rfl, by simp, fun j hj => ?_⟩⟩
  have : j = 0 := by simp at hj; exact hj
  subst this
  simp [at']

/-- append(out, xs...), out the call's own, xs any slice of ranges. -/
theorem append_row {w : World} {ops : Array Oper} {rest : List Oper} {o : Oper} {a : Act} {Q : Exit → Act → World → Prop} (hgd : o.guard = none) (s x : Operand)
    (ho : o.op = .call { callee := .builtin .append, args := #[s, x], argTypes := #[88, 88] }) (base : Nat) (v : Value) (n : Nat) (ys : List Value) (hs : a.eval s = v) (hown : w.ownsRow base 143 2 v n ys)
    (vx : Value) (zs : List R) (hx : a.eval x = vx) (hR : Row w vx zs) (hn : n + zs.length ≤ 1000000) (hbase : base ≤ w.heap.size)
    (h : ∀ v' w', w'.ownsRow base 143 2 v' (n + zs.length) (ys ++ flat zs) → Below base w w' → wpList Tryz.prog ops Q rest (a.put o.dst v') w') : wpList Tryz.prog ops Q (o :: rest) a w := by
  obtain ⟨i0, hi, hz0, hz1, hz2⟩ := info_parts infoR
  obtain ⟨ao, c, rfl, hl, hnn, hz⟩ := hR
  cases ao with
  | none =>
    have h0 : zs = [] := by
      rcases hz with hz | ⟨b, off, hz, _⟩
      · exact hz
      · cases hz
    subst h0
    have hc := hnn rfl
    subst hc
    refine wpList_append_own_none hgd s x 88 ho base 143 i0 2 Tryz.underlying88 hi v n ys hs hown hx ?_
    refine h v w ?_ (Below.refl _ _)
    simpa [flat] using hown
  | some ad =>
    refine wpList_append_own _ hgd s x 88 ho base 143 i0 _ 2 16 Tryz.underlying88 hi hz0 hz1 hz2 rfl (by decide) v n ys hs hown ad zs.length c (flat zs) hx (flat_length zs) ?_ (fun u hu => flat_one u hu) (by unfold maxLen; omega) (by omega) hbase ?_
    · rcases hz with rfl | ⟨b, off, hz, hb, hc⟩
      · intro j u hu; simp [flat] at hu
      · cases hz; exact flat_cells hc
    · intro v' w' h1 hg _
      exact h v' w' h1 ((Below.refl base w).grown hg hbase (fun j e => (hown.lt j e).1))

end Go.Proofs.YtdokgalidhmbbaaGreatDoor
