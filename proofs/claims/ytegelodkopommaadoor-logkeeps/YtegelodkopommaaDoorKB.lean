/- LogKeeps, as numbers; its arguments. -/
import Derived.Test.YtegelodkopommaaDoorKA
namespace Go.Proofs.YtegelodkopommaaDoor
open Go.RowKit Go.Lib Go.Sort
set_option linter.unusedVariables false
set_option linter.unusedSimpArgs false

open Lo
/-- A slice of integers that came in. -/
def Ia (w : World) (ao : Option Addr) (l : Nat) (f : Nat → Int) : Prop := l ≤ 9223372036854775807 ∧ (∀ j, j < l → -9223372036854775808 ≤ f j ∧ f j ≤ 9223372036854775807) ∧ (l = 0 ∨ ∃ b off, ao = some ⟨b, off, none⟩ ∧ b < w.heap.size ∧ ∀ j, j < l → w.cell? ⟨b, off + j, none⟩ = some (.int .i64 (f j)))
theorem Ia.at {w : World} {ao : Option Addr} {l : Nat} {f : Nat → Int} (h : Ia w ao l f) {j : Nat} (hj : j < l) : ∃ b off, ao = some ⟨b, off, none⟩ ∧ b < w.heap.size ∧ ∀ X, Below w.heap.size w X → X.cell? ⟨b, off + j, none⟩ = some (.int .i64 (f j)) := by
  rcases h.2.2 with e | ⟨b, off, e, hb, hc⟩
  · omega
  · exact ⟨b, off, e, hb, fun X hX => (hX.cell (p := ⟨b, off + j, none⟩) hb).trans (hc j hj)⟩
def dF (ds : List Int) (n : Int) : Int := if isN n = true then (if 12 < (addL (rgN ds) n).length then 4 else 0) else 1
def dB (ds : List Int) (n : Int) : Bool := isN n && decide ((addL (rgN ds) n).length ≤ 12) && !memB (rgN ds) n
theorem keep_cases {s : Lg} (hi : LInv s) (n : Int) :
    (caF s n = 6 ∧ caB s n = false ∧ (caS s n).ns = s.ns) ∨
    (caF s n = dF s.ns n ∧ dF s.ns n ≠ 6 ∧ dF s.ns n ≠ 0 ∧ caB s n = false ∧ dB s.ns n = false ∧ (caS s n).ns = s.ns) ∨
    (caF s n = 0 ∧ dF s.ns n = 0 ∧ caB s n = false ∧ dB s.ns n = false ∧ caS s n = s) ∨
    (caF s n = 0 ∧ dF s.ns n = 0 ∧ caB s n = true ∧ dB s.ns n = true ∧ (caS s n).ns = s.ns ++ [n] ∧ (caS s n).bs.length = s.bs.length + 4 ∧ s.bs.length = 4 * s.ns.length) := by
  cases h0 : s.st with
  | true =>
    have r : rdy s n = false := by simp [rdy, h0]
    exact .inl ⟨by rw [caF, if_pos h0], by rw [caB, r]; rfl, by rw [caS, r]; rfl⟩
  | false =>
    have q0 : ¬ s.st = true := by rw [h0]; decide
    cases h1 : isN n with
    | false =>
      have r : rdy s n = false := by simp [rdy, h1]
      have e : dF s.ns n = 1 := by rw [dF, if_neg (by rw [h1]; decide)]
      exact .inr (.inl ⟨by rw [caF, if_neg q0, if_neg (by rw [h1]; decide), e], by rw [e]; decide, by rw [e]; decide, by rw [caB, r]; rfl, by simp [dB, h1], by rw [caS, r]; rfl⟩)
    | true =>
      by_cases h2 : 12 < (addL (rgN s.ns) n).length
      · have h2' : ¬ (addL (rgN s.ns) n).length ≤ 12 := by omega
        have r : rdy s n = false := by simp [rdy, h2']
        have e : dF s.ns n = 4 := by rw [dF, if_pos h1, if_pos h2]
        exact .inr (.inl ⟨by rw [caF, if_neg q0, if_pos h1, if_pos h2, e], by rw [e]; decide, by rw [e]; decide, by rw [caB, r]; rfl, by simp [dB, h2'], by rw [caS, r]; rfl⟩)
      · have h2' : (addL (rgN s.ns) n).length ≤ 12 := by omega
        have e : dF s.ns n = 0 := by rw [dF, if_pos h1, if_neg h2]
        cases h3 : memB (rgN s.ns) n with
        | true =>
          have r : rdy s n = false := by simp [rdy, h3]
          exact .inr (.inr (.inl ⟨by rw [caF, if_neg q0, if_pos h1, if_neg h2, if_neg (fun q => by rw [r] at q; exact Bool.noConfusion q.1)], e, by rw [caB, r]; rfl, by simp [dB, h3], by rw [caS, r]; rfl⟩))
        | false =>
          have r : rdy s n = true := by simp [rdy, h0, h1, h2', h3]
          by_cases h4 : s.ah = 0
          · exact .inl ⟨by rw [caF, if_neg q0, if_pos h1, if_neg h2, if_pos ⟨r, h4⟩], by rw [caB, r, h4]; rfl, by rw [caS, if_pos r, if_pos h4]⟩
          · refine .inr (.inr (.inr ⟨by rw [caF, if_neg q0, if_pos h1, if_neg h2, if_neg (fun q => h4 q.2)], e, by rw [caB, r, decide_eq_true h4]; rfl, by simp [dB, h1, h2', h3], by rw [caS, if_pos r, if_neg h4], ?_, ?_⟩))
            · rw [caS, if_pos r, if_neg h4, Lg.bs_length, Lg.bs_length]
              simp
              omega
            · rw [Lg.bs_length, hi.xn h0]
              simp
/-- What a Came can answer, beside what the document says. -/
def Four (s : Lg) (n : Int) (bl : Nat) (b6 bt cb db : Bool) (er : Value) (s4 : Lg) : Prop :=
  (b6 = true ∧ cb = false ∧ er = .iface 47 (.int .i64 6) ∧ s4.ns = s.ns) ∨
  (∃ f, b6 = false ∧ bt = true ∧ cb = false ∧ db = false ∧ er = .iface 47 (.int .i64 f) ∧ s4.ns = s.ns) ∨
  (b6 = false ∧ bt = true ∧ cb = false ∧ db = false ∧ er = .nilIface ∧ s4.ns = s.ns ∧ s4.bs.length = bl) ∨
  (b6 = false ∧ bt = true ∧ cb = true ∧ db = true ∧ er = .nilIface ∧ s4.ns = s.ns ++ [n] ∧ s4.bs.length = bl + 4 ∧ bl = 4 * s.ns.length)
theorem keep_four {s : Lg} (hi : LInv s) (n : Int) : Four s n s.bs.length (caF s n == 6) (caF s n == dF s.ns n) (caB s n) (dB s.ns n) (errV (caF s n)) (caS s n) := by
  rcases keep_cases hi n with ⟨e1, e2, e3⟩ | ⟨e1, e2, e3, e4, e5, e6⟩ | ⟨e1, e2, e3, e4, e5⟩ | ⟨e1, e2, e3, e4, e5, e6, e7⟩
  · exact .inl ⟨by rw [e1]; rfl, e2, by rw [e1]; exact errV_f (by decide), e3⟩
  · exact .inr (.inl ⟨dF s.ns n, by rw [e1]; simpa using e2, by rw [e1]; simp, e4, e5, by rw [e1]; exact errV_f e3, e6⟩)
  · exact .inr (.inr (.inl ⟨by rw [e1]; rfl, by rw [e1, e2]; rfl, e3, e4, by rw [e1]; rfl, by rw [e5], by rw [e5]⟩))
  · exact .inr (.inr (.inr ⟨by rw [e1]; rfl, by rw [e1, e2]; rfl, e3, e4, by rw [e1]; rfl, e5, e6, e7⟩))
theorem sameR_eq (va vb : Value) (zs : List R) (w : World) (ha : Row w va zs) (hb : Row w vb zs) : Calls Tryd.prog 18 #[va, vb] w fun e w' => e = .returned (.bool true) ∧ Below w.heap.size w w' :=
  (same_calls va vb zs zs w ha hb).mono fun e w' ⟨he, h⟩ => ⟨by rw [he, decide_eq_true rfl], h⟩
theorem dB_next {ds : List Int} {n : Int} : rgN (ds ++ [n]) = addL (rgN ds) n := rgN_snoc _ _
theorem sync_cases {s : Lg} (hi : LInv s) : (syS s).ns = s.ns ∧ ((syF s = 0 ∧ (syS s).sf = (syS s).bs.length) ∨ syF s = 6) := by
  cases h0 : s.st with
  | true => exact ⟨by rw [syS, if_pos h0], .inr (by rw [syF, if_pos h0])⟩
  | false =>
    have q0 : ¬ s.st = true := by rw [h0]; decide
    by_cases h1 : s.ah = 0
    · exact ⟨by rw [syS, if_neg q0, if_pos h1], .inr (by rw [syF, if_neg q0, if_pos h1])⟩
    · refine ⟨by rw [syS, if_neg q0, if_neg h1], .inl ⟨by rw [syF, if_neg q0, if_neg h1], ?_⟩⟩
      rw [syS, if_neg q0, if_neg h1, Lg.bs_length]
      simp [hi.xn h0]
/-- How far bytes are left. -/
def hiN (s : Lg) (keep : Int) : Nat := s.sf + (min (max keep 0) ((s.bs.length : Int) - (s.sf : Int))).toNat
theorem hiN_cr (s : Lg) (keep : Int) : crN s keep = hiN s keep / 4 := rfl
theorem crS_facts {s : Lg} (hi : LInv s) (keep : Int) : (crS s keep).ns = s.ns.take (crN s keep) ∧ (crS s keep).ns.length = crN s keep ∧ (crS s keep).bs.length = 4 * crN s keep ∧ (crS s keep).sf = 4 * crN s keep := by
  have hl := crN_le hi keep
  have e : (crS s keep).ns.length = crN s keep := by show (s.ns.take _).length = _; rw [List.length_take]; omega
  exact ⟨rfl, e, by rw [Lg.bs_length, e]; rfl, rfl⟩
theorem same_errV' (f k : Int) (w : World) (hH : Handle w) : Calls Tryd.prog 8 #[errV f, .int .i64 k] w fun e w' => e = .returned (.bool (f == k)) ∧ Below w.heap.size w w' := by
  by_cases h : f = 0
  · subst h
    rw [errV_0]
    exact same_nil k w
  · rw [errV_f h]
    exact same_err f k w hH
theorem o1 : caB Lg.new 7 = true ∧ caF Lg.new 7 = 0 ∧ caS Lg.new 7 = (⟨[7], [], 0, -1, false⟩ : Lg) := ⟨rfl, rfl, rfl⟩
theorem o2 : syF (⟨[7], [], 0, -1, false⟩ : Lg) = 0 ∧ syS (⟨[7], [], 0, -1, false⟩ : Lg) = (⟨[7], [], 4, -1, false⟩ : Lg) := ⟨rfl, rfl⟩
theorem o3 : caB (⟨[7], [], 4, -1, false⟩ : Lg) 7 = false ∧ caF (⟨[7], [], 4, -1, false⟩ : Lg) 7 = 0 ∧ caS (⟨[7], [], 4, -1, false⟩ : Lg) 7 = (⟨[7], [], 4, -1, false⟩ : Lg) := ⟨rfl, rfl, rfl⟩
theorem o4 : caB (⟨[7], [], 4, -1, false⟩ : Lg) 9 = true ∧ caF (⟨[7], [], 4, -1, false⟩ : Lg) 9 = 0 ∧ caS (⟨[7], [], 4, -1, false⟩ : Lg) 9 = (⟨[7, 9], [], 4, -1, false⟩ : Lg) := ⟨rfl, rfl, rfl⟩
theorem o5 : crS (⟨[7, 9], [], 4, -1, false⟩ : Lg) 0 = (⟨[7], [], 4, -1, false⟩ : Lg) := rfl
theorem infoS : (Tryd.prog.info? 34).map (fun i => (i.zero, i.size, i.bytes)) = some (some (.slice none 0 0), 1, 24) := by kernel_rfl
theorem infoI : (Tryd.prog.info? 3).map (fun i => (i.zero, i.size, i.bytes)) = some (some (.int .i64 0), 1, 8) := by kernel_rfl
theorem cell_new (W : World) (v : Value) (t : Nat) : ∀ j u, [v][j]? = some u → (W.alloc (.cells #[v] t)).cell? ((⟨W.heap.size, 0, none⟩ : Addr).add j) = some u := by
  intro j u h
  match j, h with
  | 0, h => simp at h; subst h; simp [Addr.add]
  | j + 1, h => simp at h
theorem run_preS (ao : Option Addr) (n c m : Nat) (h : m + 1 ≤ c) (w : World) : (Instr.slice 38 (.slice ao n c) none (some (.int .i64 ((m : Int) + 1))) none).run Tryd.prog w = .ok (.slice ao (m + 1) c) w := by
  have e := Tryd.underlying38
  have h' : (m : Int) + 1 ≤ (c : Int) := by omega
  have e2 : ((m : Int) + 1).toNat = m + 1 := by omega
  cases ao with
  | none =>
    go_simp
    intro hx
    omega
  | some a =>
    go_simp
    intro hx
    omega
theorem run_preI (ao : Option Addr) (n c m : Nat) (h : m + 1 ≤ c) (w : World) : (Instr.slice 33 (.slice ao n c) none (some (.int .i64 ((m : Int) + 1))) none).run Tryd.prog w = .ok (.slice ao (m + 1) c) w := by
  have e := Tryd.underlying33
  have h' : (m : Int) + 1 ≤ (c : Int) := by omega
  have e2 : ((m : Int) + 1).toNat = m + 1 := by omega
  cases ao with
  | none =>
    go_simp
    intro hx
    omega
  | some a =>
    go_simp
    intro hx
    omega
end Go.Proofs.YtegelodkopommaaDoor
