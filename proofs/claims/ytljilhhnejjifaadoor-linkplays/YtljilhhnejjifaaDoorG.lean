/- The walk of the law LinkMany. -/
import Derived.Test.YtljilhhnejjifaaDoorD
import Derived.Test.YtljilhhnejjifaaDoorK
import Derived.Deep.CutBlock
namespace Go.Proofs.YtljilhhnejjifaaDoor
open Go.RowKit Go.Lib Go.Sort
set_option linter.unusedVariables false
set_option linter.unusedSimpArgs false

/-- A link that the law made; what was there when it began is as it was. -/
def One (w wr : World) (sb : Nat) (ls : List LR) : Prop := ∃ v, Lnk wr 56 0 w.heap.size sb v ls ∧ Below w.heap.size w wr
section
variable {w wr wx : World} {sb : Nat} {ls ls' : List LR}
theorem One.bel (h : One w wr sb ls) : Below w.heap.size w wr := h.choose_spec.2
theorem One.inv (h : One w wr sb ls) : Inv ls := h.choose_spec.1.inv
theorem One.turn {v : Value} (h : Lnk wr 56 0 w.heap.size sb v ls) (hb : Below w.heap.size w wr) (ht : Turn wr wx 56 0 w.heap.size sb v ls') : One w wx sb ls' := by
  obtain ⟨v', h1, h2, _⟩ := ht
  exact ⟨v', h1, hb.trans (h2.below (fun k hk => h.ge hk) h.le)⟩
theorem One.below (h : One w wr sb ls) (hb : Below wr.heap.size wr wx) : One w wx sb ls := by
  obtain ⟨v, h1, h2⟩ := h
  exact ⟨v, h1.below hb, h2.trans (hb.mono h2.size)⟩
theorem new_one (hb : Below w.heap.size w wr) : Calls Tryd.prog 5 #[] wr fun e w' => ∃ sb, e = .returned (.pointer (some ⟨sb, 0, none⟩)) ∧ One w w' sb [] :=
  (new_calls wr).mono fun e w' ⟨h1, h2, h3⟩ => ⟨_, h1, _, h2.base hb.size, hb.trans (h3.mono hb.size)⟩
theorem send_one (h : One w wr sb ls) (q : Int) (b : ByteArray) (hb : b.size ≤ 140737488351232) : Calls Tryd.prog 7 #[.pointer (some ⟨sb, 0, none⟩), .int .i64 q, .string b] wr fun e w' => e = .returned (errV (sendF ls q b)) ∧ One w w' sb (sendS ls q b) := by
  obtain ⟨v, h1, h2⟩ := h
  exact (send_calls h1 q b hb).mono fun e w' ⟨he, ht⟩ => ⟨he, One.turn h1 h2 ht⟩
theorem give_one (h : One w wr sb ls) (i : Int) : Calls Tryd.prog 10 #[.pointer (some ⟨sb, 0, none⟩), .int .i64 i] wr fun e w' => e = .returned (.tuple #[.int .i64 (giveV ls i).1, .string (giveV ls i).2, errV (giveF ls i)]) ∧ One w w' sb (giveS ls i) := by
  obtain ⟨v, h1, h2⟩ := h
  exact (give_calls h1 i).mono fun e w' ⟨he, ht⟩ => ⟨he, One.turn h1 h2 ht⟩
theorem lose_one (h : One w wr sb ls) (i : Int) : Calls Tryd.prog 11 #[.pointer (some ⟨sb, 0, none⟩), .int .i64 i] wr fun e w' => e = .returned (errV (giveF ls i)) ∧ One w w' sb (giveS ls i) := by
  obtain ⟨v, h1, h2⟩ := h
  exact (lose_calls h1 i).mono fun e w' ⟨he, ht⟩ => ⟨he, One.turn h1 h2 ht⟩
theorem twice_one (h : One w wr sb ls) (i : Int) : Calls Tryd.prog 12 #[.pointer (some ⟨sb, 0, none⟩), .int .i64 i] wr fun e w' => e = .returned (errV (twF ls i)) ∧ One w w' sb (twS ls i) := by
  obtain ⟨v, h1, h2⟩ := h
  exact (twice_calls h1 i).mono fun e w' ⟨he, ht⟩ => ⟨he, One.turn h1 h2 ht⟩
theorem count_one (h : One w wr sb ls) : Calls Tryd.prog 6 #[.pointer (some ⟨sb, 0, none⟩)] wr fun e w' => e = .returned (.int .i64 (ls.length : Int)) ∧ w' = wr := by
  obtain ⟨v, h1, h2⟩ := h
  exact count_calls h1
end
theorem errV_eq (f : Int) (w : World) (hH : Handle w) : Calls Tryd.prog 8 #[errV f, .int .i64 f] w fun e w' => e = .returned (.bool true) ∧ Below w.heap.size w w' := by
  by_cases h : f = 0
  · subst h
    exact same_nil 0 w
  · rw [errV_f h]
    have := same_err f f w hH
    rw [show (f == f) = true by simp] at this
    exact this

set_option maxRecDepth 100000 in
set_option maxHeartbeats 2000000 in
theorem many_lo (q n : Int) (w : World) (hn : n < 0) : Calls Tryd.prog 3 #[.int .i64 q, .int .i64 n] w fun e w' => e = .returned (.bool true) ∧ Below w.heap.size w w' := by
  go_enter Tryd.func3, Tryd.ntmps3
  go_wp2_with fail
  refine (new_one (Below.refl w.heap.size w)).mono ?_
  rintro e w0 ⟨sb, rfl, h0⟩
  have hc := count_one h0
  go_wp2_with (go_at_call 6; refine hc.mono ?_; rintro e wc ⟨rfl, hwc⟩; rw [hwc]; clear hwc wc)
  go_ret
  exact ⟨by simp, h0.bel⟩

set_option maxRecDepth 100000 in
set_option maxHeartbeats 2000000 in
theorem many_hi (q n : Int) (w : World) (hn : 60 < n) : Calls Tryd.prog 3 #[.int .i64 q, .int .i64 n] w fun e w' => e = .returned (.bool true) ∧ Below w.heap.size w w' := by
  go_enter Tryd.func3, Tryd.ntmps3
  go_wp2_with fail
  refine (new_one (Below.refl w.heap.size w)).mono ?_
  rintro e w0 ⟨sb, rfl, h0⟩
  have hc := count_one h0
  go_wp2_with (go_at_call 6; refine hc.mono ?_; rintro e wc ⟨rfl, hwc⟩; rw [hwc]; clear hwc wc)
  go_ret
  exact ⟨by simp, h0.bel⟩

set_option maxRecDepth 100000 in
set_option maxHeartbeats 2000000 in
theorem many_bad (q n : Int) (w : World) (hH : Handle w) (n0 : 0 ≤ n) (n1 : n ≤ 60) (q0 : ¬ q = 0) (q1 : ¬ q = 1) : Calls Tryd.prog 3 #[.int .i64 q, .int .i64 n] w fun e w' => e = .returned (.bool true) ∧ Below w.heap.size w w' := by
  have hq : endB q = false := by simp [endB, q0, q1]
  have HF : ∀ b, sendF [] q b = 1 := fun b => by simp [sendF, hq]
  have HS : ∀ b, sendS [] q b = [] := fun b => sendS_no (by rw [HF b]; decide)
  have b0 : (q != 0) = true := by simpa using q0
  have b1 : (q != 1) = true := by simpa using q1
  go_enter Tryd.func3, Tryd.ntmps3
  go_wp2_with fail
  refine (new_one (Below.refl w.heap.size w)).mono ?_
  rintro e w0 ⟨sb, rfl, h0⟩
  go_wp2_with fail
  go_loopg [6] 60 (fun gk s6 wr => ∃ k : Nat, gk + k = 60 ∧ (k : Int) ≤ n ∧ s6 = .int .i64 k ∧ One w wr sb [])
  case atStart => exact ⟨0, rfl, by omega, rfl, h0⟩
  case round =>
    clear h0
    obtain ⟨k, hk, hkn, rfl, hO⟩ := hrel
    have HK : Hid (gk + k = 60) := hk
    clear hk
    by_cases g : (k : Int) < n
    · have hs := send_one hO q ⟨#[120]⟩ (by decide)
      rw [HF, HS, errV_f (by decide)] at hs
      go_wp2_with fail
      refine hs.mono ?_
      rintro e w1 ⟨rfl, h1⟩
      clear hs
      have he := same_err 1 1 w1 (hH.below h1.bel)
      go_wp2_with fail
      refine he.mono ?_
      rintro e w2 ⟨rfl, hb2⟩
      have h2 := h1.below hb2
      clear he hO h1 hb2
      go_wp2_with fail
      go_roundg (60 - (k + 1))
      case measure => have := HK.out; omega
      case rel => exact ⟨k + 1, by have := HK.out; omega, by omega, by go_num, h2⟩
    · have hc := count_one hO
      by_cases g4 : (40 : Int) < n
      · go_wp2_with (go_at_call 6; refine hc.mono ?_; rintro e wc ⟨rfl, hwc⟩; rw [hwc]; clear hwc wc)
        go_ret
        exact ⟨by simp [q0, q1], hO.bel⟩
      · go_wp2_with (go_at_call 6; refine hc.mono ?_; rintro e wc ⟨rfl, hwc⟩; rw [hwc]; clear hwc wc)
        go_ret
        exact ⟨by simp [q0, q1], hO.bel⟩

set_option maxRecDepth 100000 in
set_option maxHeartbeats 2000000 in
theorem many_0 (n : Int) (w : World) (hH : Handle w) (n0 : 0 ≤ n) (n1 : n ≤ 60) : Calls Tryd.prog 3 #[.int .i64 0, .int .i64 n] w fun e w' => e = .returned (.bool true) ∧ Below w.heap.size w w' := by
  go_enter Tryd.func3, Tryd.ntmps3
  go_wp2_with fail
  refine (new_one (Below.refl w.heap.size w)).mono ?_
  rintro e w0 ⟨sb, rfl, h0⟩
  go_wp2_with fail
  go_loopg [6] 60 (fun gk s6 wr => ∃ (k : Nat) (ls : List LR), gk + k = 60 ∧ (k : Int) ≤ n ∧ s6 = .int .i64 k ∧ Hid (ls.length = min k 40) ∧ One w wr sb ls)
  case atStart => exact ⟨0, [], rfl, by omega, rfl, (show ([] : List LR).length = min 0 40 by simp), h0⟩
  case round =>
    clear h0
    obtain ⟨k, ls, hk, hkn, rfl, HL, hO⟩ := hrel
    have HK : Hid (gk + k = 60) := hk
    clear hk
    by_cases g : (k : Int) < n
    · have hs := send_one hO 0 ⟨#[120]⟩ (by decide)
      by_cases g2 : (k : Int) < 40
      · have e0 : sendF ls 0 ⟨#[120]⟩ = 0 := by
          have h1 : ls.length < 40 := by have := HL.out; omega
          rcases sendF_cases ls 0 ⟨#[120]⟩ with ⟨_, e⟩ | ⟨_, _, e⟩ | ⟨e, _⟩
          · simp [endB] at e
          · rcases e with e | ⟨_, e⟩
            · omega
            · exact absurd e (by decide)
          · exact e
        rw [sendS_yes e0, e0, errV_0] at hs
        clear e0
        go_wp2_with fail
        refine hs.mono ?_
        rintro e w1 ⟨rfl, h1⟩
        have HLN : Hid ((ls ++ [((0 : Int), (⟨#[120]⟩ : ByteArray))]).length = min (k + 1) 40) := by show (ls ++ [((0 : Int), (⟨#[120]⟩ : ByteArray))]).length = min (k + 1) 40; have := HL.out; rw [List.length_append, List.length_singleton]; omega
        clear hs hO
        go_wp2_with fail
        go_roundg (60 - (k + 1))
        case measure => have := HK.out; omega
        case rel => exact ⟨k + 1, _, by have := HK.out; omega, by omega, by go_num, HLN, h1⟩
      · have e0 : sendF ls 0 ⟨#[120]⟩ = 4 := by
          have h1 : 40 ≤ ls.length := by have := HL.out; omega
          rcases sendF_cases ls 0 ⟨#[120]⟩ with ⟨_, e⟩ | ⟨e, _⟩ | ⟨_, _, e, _⟩
          · simp [endB] at e
          · exact e
          · omega
        rw [sendS_no (by rw [e0]; decide), e0, errV_f (by decide)] at hs
        clear e0
        go_wp2_with fail
        refine hs.mono ?_
        rintro e w1 ⟨rfl, h1⟩
        clear hs hO
        have he := same_err 4 4 w1 (hH.below h1.bel)
        go_wp2_with fail
        refine he.mono ?_
        rintro e w2 ⟨rfl, hb2⟩
        have h2 := h1.below hb2
        clear he h1 hb2
        go_wp2_with fail
        go_roundg (60 - (k + 1))
        case measure => have := HK.out; omega
        case rel => exact ⟨k + 1, _, by have := HK.out; omega, by omega, by go_num, (show ls.length = min (k + 1) 40 by have := HL.out; omega), h2⟩
    · have hc := count_one hO
      have HN : Hid ((ls.length : Int) = min n 40) := by show (ls.length : Int) = min n 40; have := HL.out; omega
      clear HL
      generalize (ls.length : Int) = m at hc HN
      by_cases g4 : (40 : Int) < n
      · go_wp2_with (go_at_call 6; refine hc.mono ?_; rintro e wc ⟨rfl, hwc⟩; rw [hwc]; clear hwc wc)
        go_ret
        exact ⟨by have := HN.out; simp; omega, hO.bel⟩
      · go_wp2_with (go_at_call 6; refine hc.mono ?_; rintro e wc ⟨rfl, hwc⟩; rw [hwc]; clear hwc wc)
        go_ret
        exact ⟨by have := HN.out; simp; omega, hO.bel⟩

set_option maxRecDepth 100000 in
set_option maxHeartbeats 2000000 in
theorem many_1 (n : Int) (w : World) (hH : Handle w) (n0 : 0 ≤ n) (n1 : n ≤ 60) : Calls Tryd.prog 3 #[.int .i64 1, .int .i64 n] w fun e w' => e = .returned (.bool true) ∧ Below w.heap.size w w' := by
  go_enter Tryd.func3, Tryd.ntmps3
  go_wp2_with fail
  refine (new_one (Below.refl w.heap.size w)).mono ?_
  rintro e w0 ⟨sb, rfl, h0⟩
  go_wp2_with fail
  go_loopg [6] 60 (fun gk s6 wr => ∃ (k : Nat) (ls : List LR), gk + k = 60 ∧ (k : Int) ≤ n ∧ s6 = .int .i64 k ∧ Hid (ls.length = min k 40) ∧ One w wr sb ls)
  case atStart => exact ⟨0, [], rfl, by omega, rfl, (show ([] : List LR).length = min 0 40 by simp), h0⟩
  case round =>
    clear h0
    obtain ⟨k, ls, hk, hkn, rfl, HL, hO⟩ := hrel
    have HK : Hid (gk + k = 60) := hk
    clear hk
    by_cases g : (k : Int) < n
    · have hs := send_one hO 1 ⟨#[120]⟩ (by decide)
      by_cases g2 : (k : Int) < 40
      · have e0 : sendF ls 1 ⟨#[120]⟩ = 0 := by
          have h1 : ls.length < 40 := by have := HL.out; omega
          rcases sendF_cases ls 1 ⟨#[120]⟩ with ⟨_, e⟩ | ⟨_, _, e⟩ | ⟨e, _⟩
          · simp [endB] at e
          · rcases e with e | ⟨_, e⟩
            · omega
            · exact absurd e (by decide)
          · exact e
        rw [sendS_yes e0, e0, errV_0] at hs
        clear e0
        go_wp2_with fail
        refine hs.mono ?_
        rintro e w1 ⟨rfl, h1⟩
        have HLN : Hid ((ls ++ [((1 : Int), (⟨#[120]⟩ : ByteArray))]).length = min (k + 1) 40) := by show (ls ++ [((1 : Int), (⟨#[120]⟩ : ByteArray))]).length = min (k + 1) 40; have := HL.out; rw [List.length_append, List.length_singleton]; omega
        clear hs hO
        go_wp2_with fail
        go_roundg (60 - (k + 1))
        case measure => have := HK.out; omega
        case rel => exact ⟨k + 1, _, by have := HK.out; omega, by omega, by go_num, HLN, h1⟩
      · have e0 : sendF ls 1 ⟨#[120]⟩ = 4 := by
          have h1 : 40 ≤ ls.length := by have := HL.out; omega
          rcases sendF_cases ls 1 ⟨#[120]⟩ with ⟨_, e⟩ | ⟨e, _⟩ | ⟨_, _, e, _⟩
          · simp [endB] at e
          · exact e
          · omega
        rw [sendS_no (by rw [e0]; decide), e0, errV_f (by decide)] at hs
        clear e0
        go_wp2_with fail
        refine hs.mono ?_
        rintro e w1 ⟨rfl, h1⟩
        clear hs hO
        have he := same_err 4 4 w1 (hH.below h1.bel)
        go_wp2_with fail
        refine he.mono ?_
        rintro e w2 ⟨rfl, hb2⟩
        have h2 := h1.below hb2
        clear he h1 hb2
        go_wp2_with fail
        go_roundg (60 - (k + 1))
        case measure => have := HK.out; omega
        case rel => exact ⟨k + 1, _, by have := HK.out; omega, by omega, by go_num, (show ls.length = min (k + 1) 40 by have := HL.out; omega), h2⟩
    · have hc := count_one hO
      have HN : Hid ((ls.length : Int) = min n 40) := by show (ls.length : Int) = min n 40; have := HL.out; omega
      clear HL
      generalize (ls.length : Int) = m at hc HN
      by_cases g4 : (40 : Int) < n
      · go_wp2_with (go_at_call 6; refine hc.mono ?_; rintro e wc ⟨rfl, hwc⟩; rw [hwc]; clear hwc wc)
        go_ret
        exact ⟨by have := HN.out; simp; omega, hO.bel⟩
      · go_wp2_with (go_at_call 6; refine hc.mono ?_; rintro e wc ⟨rfl, hwc⟩; rw [hwc]; clear hwc wc)
        go_ret
        exact ⟨by have := HN.out; simp; omega, hO.bel⟩

theorem many_walk (q n : Int) (w : World) (hH : Handle w) : Calls Tryd.prog 3 #[.int .i64 q, .int .i64 n] w fun e w' => e = .returned (.bool true) ∧ Below w.heap.size w w' := by
  by_cases a : n < 0
  · exact many_lo q n w a
  by_cases b : 60 < n
  · exact many_hi q n w b
  by_cases c : q = 0
  · subst c; exact many_0 n w hH (by omega) (by omega)
  by_cases d : q = 1
  · subst d; exact many_1 n w hH (by omega) (by omega)
  exact many_bad q n w hH (by omega) (by omega) c d
end Go.Proofs.YtljilhhnejjifaaDoor
