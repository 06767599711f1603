/- What the laws of package run need. -/
import Derived.Test.YtdokgalidhmbbaaGreatDoorHWF
import Derived.Test.YtdokgalidhmbbaaGreatDoorHWE
set_option linter.unusedVariables false
set_option linter.unusedSimpArgs false
set_option maxRecDepth 100000
set_option maxHeartbeats 8000000
namespace Go.Proofs.YtdokgalidhmbbaaGreatDoor
namespace Rn
open Go.RowKit

theorem want_nine {l : List UInt8} (h : wantF l ≠ none) : l = [99, 111, 109, 101] ∨ l = [99, 111, 117, 110, 116] ∨ l = [108, 111, 115, 101] ∨ l = [110, 101, 101, 100] ∨ l = [114, 101, 97, 100] ∨ l = [115, 101, 110, 100] ∨ l = [116, 119, 105, 99, 101] ∨ l = [118, 97, 114, 105, 110, 116] ∨ l = [119, 114, 105, 116, 101] := by
  unfold wantF at h
  repeat' split at h
  all_goals first | exact absurd rfl h | skip
  all_goals simp_all
theorem numD_bd {l : List UInt8} {v : Int} (h : numD l = some v) : 0 ≤ v ∧ v ≤ 9999 := by
  obtain ⟨n, rfl, hn, _⟩ := numD_yes h
  omega
theorem getD_le {ps : List (List UInt8)} {m : Nat} (h : ∀ p ∈ ps, p.length ≤ m) (j : Nat) : (ps.getD j []).length ≤ m := by
  rw [List.getD]
  cases e : ps[j]? with
  | none => exact Nat.zero_le _
  | some p => exact h p (List.mem_of_getElem? e)
theorem cut_le (c : UInt8) : ∀ (l : List UInt8), ∀ p ∈ cutF c l, p.length ≤ l.length
  | [], p, hp => by simp [cutF] at hp; simp [hp]
  | x :: xs, p, hp => by
    have ih := cut_le c xs
    rw [cutF] at hp
    split at hp
    · rcases List.mem_cons.1 hp with rfl | hp
      · simp
      · exact Nat.le_succ_of_le (ih p hp)
    · split at hp
      · simp at hp; subst hp; simp
      · rename_i e
        rw [e] at ih
        rcases List.mem_cons.1 hp with rfl | hp
        · have := ih _ List.mem_cons_self
          simp at this ⊢; omega
        · exact Nat.le_succ_of_le (ih p (List.mem_cons_of_mem _ hp))
theorem ord_ok {l n wd : List UInt8} {x y : Int} (h : ordL (cutF 32 l) = some (n, x, y, wd)) : wantF n ≠ none ∧ (0 ≤ x ∧ x ≤ 9999) ∧ (0 ≤ y ∧ y ≤ 9999) ∧ wd.length ≤ l.length := by
  have hc := cut_le 32 l
  generalize cutF 32 l = ps at h hc
  unfold ordL at h
  cases hw : wantF (ps.getD 0 []) with
  | none => rw [hw] at h; cases h
  | some ab =>
    obtain ⟨a, b⟩ := ab
    rw [hw] at h
    simp only at h
    split at h
    · cases h
    · have hx : ∀ v, (if 1 ≤ a then numD (ps.getD 1 []) else some 0) = some v → 0 ≤ v ∧ v ≤ 9999 := fun v hv => by
        split at hv
        · exact numD_bd hv
        · injection hv with hv; omega
      have hy : ∀ v, (if 2 ≤ a then numD (ps.getD 2 []) else some 0) = some v → 0 ≤ v ∧ v ≤ 9999 := fun v hv => by
        split at hv
        · exact numD_bd hv
        · injection hv with hv; omega
      revert h hx hy
      generalize (if 1 ≤ a then numD (ps.getD 1 []) else some 0) = p
      generalize (if 2 ≤ a then numD (ps.getD 2 []) else some 0) = q
      intro h hx hy
      cases p with
      | none => cases h
      | some vx =>
        cases q with
        | none => cases h
        | some vy =>
          simp only [Option.some.injEq, Prod.mk.injEq] at h
          obtain ⟨h0, h1, h2, h3⟩ := h
          refine ⟨by rw [← h0, hw]; simp, by rw [← h1]; exact hx _ rfl, by rw [← h2]; exact hy _ rfl, ?_⟩
          rw [← h3]
          split
          · exact getD_le hc _
          · exact Nat.zero_le _
/-- What a call leaves, and tells. -/
def Told (w0 w : World) (bv : Value) (d tb mb : Nat) (u : Tv) (D : Did) (e : Ending) (w' : World) : Prop :=
  ∃ tx, e = .returned (.tuple #[.string (str tx), errV D.flt]) ∧ (D.flt = 0 → tx = D.text) ∧ DTurn w0 w w' bv d tb mb u D.st
theorem call_calls {w0 w : World} {bv : Value} {d tb mb : Nat} {u : Tv} {s : Tt} (h : Ds w0 w bv d tb mb u s) {K : Nat} (hK : K ≤ 1000000) (hf : Few K s) {n : List UInt8} (hn : wantF n ≠ none) (x y : Int) (hx : 0 ≤ x ∧ x ≤ 9999) (wd : ByteArray) (hwd : wd.size ≤ 140737488351232) :
    Calls Tryz.prog 51 #[.pointer (some ⟨d, 0, none⟩), .agg #[.string (str n), .int .i64 x, .int .i64 y, .string wd]] w fun e w' => Told w0 w bv d tb mb u (didF n x y wd s) e w' := by
  have hmk : Lk.endB x = true → makeF (s.who x) = 0 := fun hw => by
    have hi : EInv (s.who x) := by
      rcases end_cases hw with rfl | rfl
      · exact h.tk.ia
      · exact h.tk.ib
    have := hf.who x
    exact makeF_zero hi (by omega)
  rcases want_nine hn with rfl | rfl | rfl | rfl | rfl | rfl | rfl | rfl | rfl
  · rw [show didF [99, 111, 109, 101] x y wd s = ⟨okL, tComeF s x, tComeS s x⟩ from rfl]
    exact (call_come h x y wd).mono fun e w' ⟨a, b⟩ => ⟨okL, a, fun _ => rfl, b⟩
  · rw [show didF [99, 111, 117, 110, 116] x y wd s = ⟨digF s.ls.length, 0, s⟩ from rfl]
    exact (call_count h x y wd).mono fun e w' ⟨a, b⟩ => ⟨_, a, fun _ => rfl, b⟩
  · rw [show didF [108, 111, 115, 101] x y wd s = ⟨okL, Lk.giveF s.ls x, tLoseS s x⟩ from rfl]
    exact (call_lose h x y wd).mono fun e w' ⟨a, b⟩ => ⟨okL, a, fun _ => rfl, b⟩
  · rw [show didF [110, 101, 101, 100] x y wd s = ⟨digF (U.need x y).toNat, if U.pairB x y = true then 0 else 1, s⟩ from rfl]
    cases hp : U.pairB x y with
    | true => exact (call_need1 h x y wd hp).mono fun e w' ⟨a, b⟩ => ⟨_, a, fun _ => rfl, b⟩
    | false => exact (call_need0 h x y wd hp).mono fun e w' ⟨a, b⟩ => ⟨_, a, fun e => absurd (show (1 : Int) = 0 from e) (by decide), b⟩
  · rw [show didF [114, 101, 97, 100] x y wd s = ⟨orMinus (tReadB s x y), tReadF s x y, tReadS s x y⟩ from rfl]
    exact (call_read h x y wd).mono fun e w' ⟨a, b⟩ => ⟨_, a, fun _ => rfl, b⟩
  · rw [show didF [115, 101, 110, 100] x y wd s = ⟨okL, tSendF s x, tSendS s x⟩ from rfl]
    exact (call_send h x y wd hmk).mono fun e w' ⟨a, b⟩ => ⟨okL, a, fun _ => rfl, b⟩
  · rw [show didF [116, 119, 105, 99, 101] x y wd s = ⟨okL, Lk.twF s.ls x, tTwiceS s x⟩ from rfl]
    exact (call_twice h x y wd).mono fun e w' ⟨a, b⟩ => ⟨okL, a, fun _ => rfl, b⟩
  · rw [show didF [118, 97, 114, 105, 110, 116] x y wd s = ⟨dec x, 0, s⟩ from rfl]
    exact (call_varint h x y wd hx).mono fun e w' ⟨a, b⟩ => ⟨_, a, fun _ => rfl, b⟩
  · rw [show didF [119, 114, 105, 116, 101] x y wd s = ⟨okL, tWriteF s x wd, tWriteS s x wd⟩ from rfl]
    exact (call_write h x y wd hwd).mono fun e w' ⟨a, b⟩ => ⟨okL, a, fun _ => rfl, b⟩
/-- The name of an error. -/
theorem errno_calls (f : Int) (w : World) : Calls Tryz.prog 56 #[.int .i64 f] w fun e w' => e = .returned (.string (str (errN f))) ∧ w' = w := by
  by_cases h0 : f = 0
  · subst h0; go_enter Tryz.func56, Tryz.ntmps56; go_wp2; go_ret; exact ⟨rfl, rfl⟩
  by_cases h1 : f = 1
  · subst h1; go_enter Tryz.func56, Tryz.ntmps56; go_wp2; go_ret; exact ⟨rfl, rfl⟩
  by_cases h2 : f = 2
  · subst h2; go_enter Tryz.func56, Tryz.ntmps56; go_wp2; go_ret; exact ⟨rfl, rfl⟩
  by_cases h3 : f = 3
  · subst h3; go_enter Tryz.func56, Tryz.ntmps56; go_wp2; go_ret; exact ⟨rfl, rfl⟩
  by_cases h4 : f = 4
  · subst h4; go_enter Tryz.func56, Tryz.ntmps56; go_wp2; go_ret; exact ⟨rfl, rfl⟩
  by_cases h5 : f = 5
  · subst h5; go_enter Tryz.func56, Tryz.ntmps56; go_wp2; go_ret; exact ⟨rfl, rfl⟩
  by_cases h6 : f = 6
  · subst h6; go_enter Tryz.func56, Tryz.ntmps56; go_wp2; go_ret; exact ⟨rfl, rfl⟩
  by_cases h7 : f = 7
  · subst h7; go_enter Tryz.func56, Tryz.ntmps56; go_wp2; go_ret; exact ⟨rfl, rfl⟩
  by_cases h8 : f = 8
  · subst h8; go_enter Tryz.func56, Tryz.ntmps56; go_wp2; go_ret; exact ⟨rfl, rfl⟩
  have he : errN f = [69, 114, 114, 110, 111] := by simp [errN, h0, h1, h2, h3, h4, h5, h6, h7, h8]
  go_enter Tryz.func56, Tryz.ntmps56
  go_wp2
  go_ret
  exact ⟨by rw [he]; rfl, rfl⟩
end Rn
end Go.Proofs.YtdokgalidhmbbaaGreatDoor
namespace Go.Proofs.YtdokgalidhmbbaaGreatDoor
namespace Rn
open Go.RowKit

/-- errBad, as the world has it, and the library's own variable. -/
structure Hn (w : World) (bv : Value) : Prop where
  hand : Handle w
  bad : ∃ p : Addr, bv = .iface 286 (.pointer (some p)) ∧ w.cell? p = some (.string (str badL))
theorem Hn.below {w w' : World} {bv : Value} (h : Hn w bv) (hb : Below w.heap.size w w') : Hn w' bv := by
  obtain ⟨p, e, hc⟩ := h.bad
  exact ⟨h.hand.below hb, p, e, (hb.cell (World.block_lt_of_cell? w p hc)).trans hc⟩
theorem m_error (x : Value) (w : World) : (Go.method 466 286 x "Error").run Tryz.prog w = .ok (295, x) w := by kernel_rfl
set_option maxRecDepth 100000 in
set_option maxHeartbeats 4000000 in
theorem name_err (f : Int) (w : World) (hH : Handle w) : Calls Tryz.prog 37 #[.agg #[.iface 133 (.int .i64 f)]] w fun e w' => e = .returned (.string (str (errN f))) ∧ Below w.heap.size w w' := by
  obtain ⟨W1, hW1⟩ : ∃ W1, (w.alloc (.cells #[.iface 133 (.int .i64 f)] 77)).alloc (.cells #[.int .i64 0] 133) = W1 := ⟨_, rfl⟩
  have hb : Below w.heap.size w W1 := by rw [← hW1]; exact ((Below.refl _ w).alloc (Nat.le_refl _) _).alloc (by simp) _
  have hbx : (w.alloc (.cells #[.iface 133 (.int .i64 f)] 77)).heap[w.heap.size]? = some (.cells #[.iface 133 (.int .i64 f)] 77) := heap_new _ _
  have c0 : W1.cell? ⟨w.heap.size, 0, none⟩ = some (.iface 133 (.int .i64 f)) := by
    rw [← hW1, Lib.cell_of_heap ((heap_old _ _ (by simp)).trans hbx)]; rfl
  have hz : W1.heap.size = w.heap.size + 2 := by rw [← hW1]; simp
  have hbt : W1.heap[w.heap.size + 1]? = some (.cells #[.int .i64 0] 133) := by
    rw [← hW1]
    have := heap_new (w.alloc (.cells #[.iface 133 (.int .i64 f)] 77)) (.cells #[.int .i64 0] 133)
    simpa using this
  have ct : W1.cell? ⟨w.heap.size + 1, 0, none⟩ = some (.int .i64 0) := by rw [Lib.cell_of_heap hbt]; rfl
  have ft : W1.frozen? ⟨w.heap.size + 1, 0, none⟩ = false := Lib.frozen_of_heap hbt 0
  have HA := as_wrap f ⟨w.heap.size + 1, 0, none⟩ (.int .i64 0) W1 (hH.below hb) ct ft
  have HE : Hid (∀ w2, Calls Tryz.prog 56 #[.int .i64 f] w2 fun e w' => e = .returned (.string (str (errN f))) ∧ w' = w2) := errno_calls f
  obtain ⟨V, hV⟩ : ∃ V, ((((W1.alloc (.cells #[.pointer (some ⟨w.heap.size + 1, 0, none⟩)] 134)).alloc (.cells #[.pointer (some ⟨17, 134, none⟩), .pointer (some ⟨W1.heap.size, 0, none⟩), .int .u64 150] 123)).alloc (.cells #[.pointer (some ⟨17, 134, none⟩), .pointer (some ⟨W1.heap.size, 0, none⟩), .int .u64 150] 123)).alloc (.cells #[.iface 133 (.int .i64 f)] 77)).alloc (.cells #[.int .i64 f] 133) = V := ⟨_, rfl⟩
  rw [hV] at HA
  have hbV : Below W1.heap.size W1 V := by
    rw [← hV]
    exact (((((Below.refl _ W1).alloc (Nat.le_refl _) _).alloc (by simp) _).alloc (by simp <;> omega) _).alloc (by simp <;> omega) _).alloc (by simp <;> omega) _
  have hvt : V.heap[w.heap.size + 1]? = some (.cells #[.int .i64 0] 133) := (hbV.block _ (by omega)).trans hbt
  have cv : (V.setCell ⟨w.heap.size + 1, 0, none⟩ (.int .i64 f)).cell? ⟨w.heap.size + 1, 0, none⟩ = some (.int .i64 f) := by
    have : (V.setCell ⟨w.heap.size + 1, 0, none⟩ (.int .i64 f)).heap[w.heap.size + 1]? = some (.cells #[.int .i64 f] 133) := by simp [World.setCell, Array.getElem?_modify, hvt]
    rw [Lib.cell_of_heap this]; rfl
  have hbf : Hid (Below w.heap.size w (V.setCell ⟨w.heap.size + 1, 0, none⟩ (.int .i64 f))) := (hb.trans (hbV.mono hb.size)).setCell (p := ⟨w.heap.size + 1, 0, none⟩) (Nat.le_succ _) _
  clear hV hvt hbt hbx hbV hz ct ft
  generalize str (errN f) = tx at HE ⊢
  go_enter Tryz.func37, Tryz.ntmps37
  go_wp2_with (first | (go_at_call 36; refine HA.mono ?_; rintro e w2 ⟨rfl, rfl⟩; have HE2 := HE.out (V.setCell ⟨w.heap.size + 1, 0, none⟩ (.int .i64 f))) | (go_at_call 56; refine HE2.mono ?_; rintro e w3 ⟨rfl, hw3⟩; obtain rfl := hw3))
  go_ret
  exact ⟨rfl, hbf.out⟩
set_option maxRecDepth 100000 in
theorem estr_calls (p : Addr) (w : World) (hp : w.cell? p = some (.string (str badL))) : Calls Tryz.prog 295 #[.pointer (some p)] w fun e w' => e = .returned (.string (str badL)) ∧ w' = w := by
  obtain ⟨b, o, q⟩ := p
  generalize str badL = tx at hp ⊢
  go_enter Tryz.func295, Tryz.ntmps295
  go_wp2
  go_ret
  exact ⟨rfl, rfl⟩
set_option maxRecDepth 100000 in
set_option maxHeartbeats 4000000 in
theorem name_bad (p : Addr) (w : World) (hH : Handle w) (hp : w.cell? p = some (.string (str badL))) : Calls Tryz.prog 37 #[.agg #[.iface 286 (.pointer (some p))]] w fun e w' => e = .returned (.string (str badL)) ∧ Below w.heap.size w w' := by
  obtain ⟨W1, hW1⟩ : ∃ W1, (w.alloc (.cells #[.iface 286 (.pointer (some p))] 77)).alloc (.cells #[.int .i64 0] 133) = W1 := ⟨_, rfl⟩
  have hb : Below w.heap.size w W1 := by rw [← hW1]; exact ((Below.refl _ w).alloc (Nat.le_refl _) _).alloc (by simp) _
  have hbx : (w.alloc (.cells #[.iface 286 (.pointer (some p))] 77)).heap[w.heap.size]? = some (.cells #[.iface 286 (.pointer (some p))] 77) := heap_new _ _
  have hb0 : W1.heap[w.heap.size]? = some (.cells #[.iface 286 (.pointer (some p))] 77) := by rw [← hW1]; exact (heap_old _ _ (by simp)).trans hbx
  have c0 : W1.cell? ⟨w.heap.size, 0, none⟩ = some (.iface 286 (.pointer (some p))) := by rw [Lib.cell_of_heap hb0]; rfl
  have hz : W1.heap.size = w.heap.size + 2 := by rw [← hW1]; simp
  have hbt : W1.heap[w.heap.size + 1]? = some (.cells #[.int .i64 0] 133) := by
    rw [← hW1]
    have := heap_new (w.alloc (.cells #[.iface 286 (.pointer (some p))] 77)) (.cells #[.int .i64 0] 133)
    simpa using this
  have ct : W1.cell? ⟨w.heap.size + 1, 0, none⟩ = some (.int .i64 0) := by rw [Lib.cell_of_heap hbt]; rfl
  have ft : W1.frozen? ⟨w.heap.size + 1, 0, none⟩ = false := Lib.frozen_of_heap hbt 0
  have HA := as_miss p ⟨w.heap.size + 1, 0, none⟩ (.int .i64 0) W1 (hH.below hb) ct ft
  obtain ⟨V, hV⟩ : ∃ V, (((W1.alloc (.cells #[.pointer (some ⟨w.heap.size + 1, 0, none⟩)] 134)).alloc (.cells #[.pointer (some ⟨17, 134, none⟩), .pointer (some ⟨W1.heap.size, 0, none⟩), .int .u64 150] 123)).alloc (.cells #[.pointer (some ⟨17, 134, none⟩), .pointer (some ⟨W1.heap.size, 0, none⟩), .int .u64 150] 123)).alloc (.cells #[.iface 286 (.pointer (some p))] 77) = V := ⟨_, rfl⟩
  rw [hV] at HA
  have hbV : Below W1.heap.size W1 V := by
    rw [← hV]
    exact ((((Below.refl _ W1).alloc (Nat.le_refl _) _).alloc (by simp) _).alloc (by simp <;> omega) _).alloc (by simp <;> omega) _
  have cv : V.cell? ⟨w.heap.size, 0, none⟩ = some (.iface 286 (.pointer (some p))) := by rw [Lib.cell_of_heap ((hbV.block _ (by omega)).trans hb0)]; rfl
  have hbf : Hid (Below w.heap.size w V) := hb.trans (hbV.mono hb.size)
  have HE := estr_calls p V ((hbf.out.cell (World.block_lt_of_cell? w p hp)).trans hp)
  have mE := m_error
  clear hV hbt hbx hb0 hbV hz ct ft hp
  generalize str badL = tx at HE ⊢
  go_enter Tryz.func37, Tryz.ntmps37
  go_wp2_with (first | (go_at_call 36; refine HA.mono ?_; rintro e w2 ⟨rfl, hw2⟩; obtain rfl := hw2.symm) | (go_at_call 295; refine HE.mono ?_; rintro e w3 ⟨rfl, hw3⟩; obtain rfl := hw3.symm))
  go_ret
  exact ⟨rfl, hbf.out⟩
/-- What obey tells: an error, whose name the answer is, or the answer. -/
def obE (bv : Value) (x : List UInt8) (v : Value) : Prop := (v = bv ∧ x = badL) ∨ ∃ f : Int, f ≠ 0 ∧ v = .iface 133 (.int .i64 f) ∧ x = errN f
def obV (bv : Value) (x : List UInt8) (e : Ending) : Prop :=
  (∃ v, obE bv x v ∧ e = .returned (.tuple #[.string emp, .iface 77 (.agg #[v])])) ∨ e = .returned (.tuple #[.string (str x), .nilIface])
theorem line_none {l : List UInt8} (s : Tt) (h : ordL (cutF 32 l) = none) : lineF l s = (badL, s) := by unfold lineF; rw [h]
theorem line_some {l n wd : List UInt8} {x y : Int} (s : Tt) (h : ordL (cutF 32 l) = some (n, x, y, wd)) : lineF l s = ((didF n x y (str wd) s).ans, (didF n x y (str wd) s).st) := by unfold lineF; rw [h]
set_option maxRecDepth 100000 in
set_option maxHeartbeats 4000000 in
theorem obey_calls {w0 w : World} {bv : Value} {d tb mb : Nat} {u : Tv} {s : Tt} (h : Ds w0 w bv d tb mb u s) {K : Nat} (hK : K ≤ 1000000) (hf : Few K s) (l : List UInt8) (hl : l.length ≤ 3000) :
    Calls Tryz.prog 35 #[.pointer (some ⟨d, 0, none⟩), .string (str l)] w fun e w' => obV bv (lineF l s).1 e ∧ DTurn w0 w w' bv d tb mb u (lineF l s).2 := by
  have HO := order_calls (str l) (by rw [str_size]; exact hl) h.dk
  rw [ord_eq] at HO
  obtain ⟨bt, bp, rfl⟩ := h.dk.env.isB
  cases ho : ordL (cutF 32 l) with
  | none =>
    rw [line_none s ho]
    rw [ho] at HO
    simp only [Option.map_none, ordV, noOrd] at HO
    have hE : Hid (obE (.iface bt bp) badL (.iface bt bp)) := .inl ⟨rfl, rfl⟩
    have hS : Hid (∀ w2, Below w.heap.size w w2 → DTurn w0 w w2 (.iface bt bp) d tb mb u s) := fun w2 => h.same
    clear h
    go_enter Tryz.func35, Tryz.ntmps35
    go_wp2_with (go_at_call 50; refine HO.mono ?_; rintro e w2 ⟨rfl, hb2⟩)
    go_ret2
    refine ⟨.inl ⟨_, hE.out, rfl⟩, hS.out _ (hb2.alloc hb2.size _)⟩
  | some o =>
    obtain ⟨n, x, y, wd⟩ := o
    obtain ⟨hn, hx, hy, hwd⟩ := ord_ok ho
    rw [line_some s ho]
    rw [ho] at HO
    simp only [Option.map_some, ordV, Ord.val] at HO
    have HC : Hid (∀ w2, Below w.heap.size w w2 → Calls Tryz.prog 51 #[.pointer (some ⟨d, 0, none⟩), .agg #[.string (str n), .int .i64 x, .int .i64 y, .string (str wd)]] w2 fun e w' => Told w0 w2 (.iface bt bp) d tb mb u (didF n x y (str wd) s) e w') :=
      fun w2 hb2 => call_calls (h.below hb2) hK hf hn x y hx (str wd) (by rw [str_size]; omega)
    have hS : Hid (∀ w2 w3 s2, Below w.heap.size w w2 → DTurn w0 w2 w3 (.iface bt bp) d tb mb u s2 → DTurn w0 w w3 (.iface bt bp) d tb mb u s2) := fun w2 w3 s2 hb2 => DTurn.pre hb2 h
    clear h hf ho
    generalize didF n x y (str wd) s = D at HC ⊢
    generalize str n = sn at HO HC
    generalize str wd = sw at HO HC
    go_enter Tryz.func35, Tryz.ntmps35
    go_wp2_with (go_at_call 50; refine HO.mono ?_; rintro e w2 ⟨rfl, hb2⟩)
    have hb3 := hb2.alloc hb2.size (.cells #[.string sn, .int .i64 x, .int .i64 y, .string sw] 117)
    have HC2 := HC.out _ hb3
    have hS2 : Hid (∀ w3 s2, DTurn w0 (w2.alloc (.cells #[.string sn, .int .i64 x, .int .i64 y, .string sw] 117)) w3 (.iface bt bp) d tb mb u s2 → DTurn w0 w w3 (.iface bt bp) d tb mb u s2) := fun w3 s2 => hS.out _ w3 s2 hb3
    clear HC hS hb2 hb3 HO
    by_cases hf : D.flt = 0
    · refine HC2.mono ?_
      rintro e w3 ⟨tx, rfl, ht, hd⟩
      have hA : Hid (D.ans = tx) := by show D.ans = tx; rw [Did.ans, if_pos hf]; exact (ht hf).symm
      have hd2 := hS2.out _ _ hd
      rw [hf, errV_0]
      clear hS2 HC2 ht hd
      go_wp2
      go_ret2
      exact ⟨.inr (by rw [hA.out]; rfl), hd2⟩
    · refine HC2.mono ?_
      rintro e w3 ⟨tx, rfl, ht, hd⟩
      have hA : Hid (obE (.iface bt bp) D.ans (.iface 133 (.int .i64 D.flt))) := .inr ⟨D.flt, hf, rfl, by rw [Did.ans, if_neg hf]⟩
      have hd2 := hS2.out _ _ hd
      rw [errV_f hf]
      clear hS2 HC2 ht hd
      go_wp2
      go_ret2
      exact ⟨.inl ⟨_, hA.out, rfl⟩, hd2⟩
set_option maxRecDepth 100000 in
set_option maxHeartbeats 4000000 in
/-- A line is answered, and all but the Talk's own is as it was. -/
theorem answer_calls {w0 w : World} {bv : Value} {d tb mb : Nat} {u : Tv} {s : Tt} (h : Ds w0 w bv d tb mb u s) (hH : Hn w0 bv) {K : Nat} (hK : K ≤ 1000000) (hf : Few K s) (l : List UInt8) (hl : l.length ≤ 3000) :
    Calls Tryz.prog 14 #[.pointer (some ⟨d, 0, none⟩), .string (str l)] w fun e w' => e = .returned (.string (str (lineF l s).1)) ∧ DTurn w0 w w' bv d tb mb u (lineF l s).2 := by
  have HO := obey_calls h hK hf l hl
  have hHn : ∀ w2 u2 s2, Ds w0 w2 bv d tb mb u2 s2 → Hn w2 bv := fun w2 u2 s2 h2 => hH.below h2.bel
  clear h hH hf
  generalize (lineF l s).1 = x at HO ⊢
  generalize (lineF l s).2 = s2 at HO ⊢
  go_enter Tryz.func14, Tryz.ntmps14
  go_wp2_with (go_at_call 35; refine HO.mono ?_)
  rintro e w1 ⟨he, u2, hD, ho, hk⟩
  have hn := hHn w1 u2 s2 hD
  rcases he with ⟨v, hv, rfl⟩ | rfl
  · have hv1 : v.oneCell' = true := by
      rcases hv with ⟨rfl, _⟩ | ⟨f, _, rfl, _⟩
      · obtain ⟨p, rfl, _⟩ := hn.bad
        rfl
      · rfl
    obtain ⟨W1, hW1⟩ : ∃ W1, w1.alloc (.cells #[.nilIface] 77) = W1 := ⟨_, rfl⟩
    have hb : Below w1.heap.size w1 W1 := by rw [← hW1]; exact (Below.refl _ w1).alloc (Nat.le_refl _) _
    have hz : W1.heap.size = w1.heap.size + 1 := by rw [← hW1]; simp
    have hbt : W1.heap[w1.heap.size]? = some (.cells #[.nilIface] 77) := by rw [← hW1]; exact heap_new _ _
    have ct : W1.cell? ⟨w1.heap.size, 0, none⟩ = some .nilIface := by rw [Lib.cell_of_heap hbt]; rfl
    have ft : W1.frozen? ⟨w1.heap.size, 0, none⟩ = false := Lib.frozen_of_heap hbt 0
    have HA := as_line v hv1 ⟨w1.heap.size, 0, none⟩ .nilIface W1 (hn.below hb).hand ct ft
    obtain ⟨V, hV⟩ : ∃ V, (((W1.alloc (.cells #[.pointer (some ⟨w1.heap.size, 0, none⟩)] 79)).alloc (.cells #[.pointer (some ⟨17, 79, none⟩), .pointer (some ⟨W1.heap.size, 0, none⟩), .int .u64 150] 123)).alloc (.cells #[.pointer (some ⟨17, 79, none⟩), .pointer (some ⟨W1.heap.size, 0, none⟩), .int .u64 150] 123)).alloc (.cells #[v] 77) = V := ⟨_, rfl⟩
    rw [hV] at HA
    have hbV : Below W1.heap.size W1 V := by
      rw [← hV]
      exact ((((Below.refl _ W1).alloc (Nat.le_refl _) _).alloc (by simp) _).alloc (by simp <;> omega) _).alloc (by simp <;> omega) _
    have hvt : V.heap[w1.heap.size]? = some (.cells #[.nilIface] 77) := (hbV.block _ (by omega)).trans hbt
    have cv : (V.setCell ⟨w1.heap.size, 0, none⟩ v).cell? ⟨w1.heap.size, 0, none⟩ = some v := by
      have : (V.setCell ⟨w1.heap.size, 0, none⟩ v).heap[w1.heap.size]? = some (.cells #[v] 77) := by simp [World.setCell, Array.getElem?_modify, hvt]
      rw [Lib.cell_of_heap this]; rfl
    have hbf : Below w1.heap.size w1 (V.setCell ⟨w1.heap.size, 0, none⟩ v) := (hb.trans (hbV.mono hb.size)).setCell (p := ⟨w1.heap.size, 0, none⟩) (Nat.le_refl _) _
    have hnf := hn.below hbf
    have HN : Calls Tryz.prog 37 #[.agg #[v]] (V.setCell ⟨w1.heap.size, 0, none⟩ v) fun e w' => e = .returned (.string (str x)) ∧ Below (V.setCell ⟨w1.heap.size, 0, none⟩ v).heap.size (V.setCell ⟨w1.heap.size, 0, none⟩ v) w' := by
      rcases hv with ⟨rfl, rfl⟩ | ⟨f, _, rfl, rfl⟩
      · obtain ⟨p, rfl, hp⟩ := hnf.bad
        exact name_bad p _ hnf.hand hp
      · exact name_err f _ hnf.hand
    have hF : Hid (∀ w', Below (V.setCell ⟨w1.heap.size, 0, none⟩ v).heap.size (V.setCell ⟨w1.heap.size, 0, none⟩ v) w' → DTurn w0 w w' bv d tb mb u s2) := fun w' hb' =>
      have hall := hbf.trans (hb'.mono hbf.size)
      ⟨u2, hD.below hall, ho.trans (Off.of_below hall), hk⟩
    clear hV hvt hbt hbV hz ct ft hv hb hD ho hk hn hHn hnf hbf HO
    go_wp2_with (first | (go_at_call 36; refine HA.mono ?_; rintro e w2 ⟨rfl, hw2⟩; obtain rfl := hw2.symm) | (go_at_call 37; refine HN.mono ?_; rintro e w3 ⟨rfl, hb3⟩))
    go_ret
    exact ⟨rfl, hF.out _ hb3⟩
  · go_wp2
    go_ret
    exact ⟨rfl, u2, hD.below ((Below.refl _ _).alloc (Nat.le_refl _) _), ho.alloc _, hk⟩
end Rn
end Go.Proofs.YtdokgalidhmbbaaGreatDoor
