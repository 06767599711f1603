/- What the laws of package run need. -/
import Derived.Test.YtdokgalidhmbbaaGreatDoorHWF
set_option linter.unusedVariables false
set_option linter.unusedSimpArgs false
set_option maxRecDepth 100000
set_option maxHeartbeats 8000000
namespace Go.Proofs.YtdokgalidhmbbaaGreatDoor
namespace Rn
open Go.RowKit

theorem cut_at (c : UInt8) : ∀ (l : List UInt8) (m : Nat), (∀ j, j < m → l[j]? ≠ some c) → l[m]? = some c → cutF c l = l.take m :: cutF c (l.drop (m + 1))
  | [], m, _, h => by simp at h
  | x :: xs, 0, _, h => by
    simp at h
    subst h
    rw [cutF, if_pos rfl]
    rfl
  | x :: xs, m + 1, hn, h => by
    have hx : x ≠ c := by have := hn 0 (by omega); simpa using this
    rw [cutF, if_neg hx, cut_at c xs m (fun j hj => by have := hn (j + 1) (by omega); simpa using this) (by simpa using h)]
    rfl
theorem cut_end (c : UInt8) : ∀ (l : List UInt8), (∀ j : Nat, l[j]? ≠ some c) → cutF c l = [l]
  | [], _ => rfl
  | x :: xs, hn => by
    have hx : x ≠ c := by have := hn 0; simpa using this
    rw [cutF, if_neg hx, cut_end c xs (fun j => by have := hn (j + 1); simpa using this)]
theorem sl_both (s : ByteArray) (a b : Nat) (hab : a ≤ b) (h : b ≤ s.size) (hl : s.size ≤ 9223372036854775807) (w : World) : (Instr.slice 9 (.string s) (some (.int .i64 (a : Int))) (some (.int .i64 (b : Int))) none).run Tryz.prog w = .ok (.string (s.extract a b)) w := by
  have h' : (b : Int) ≤ (s.size : Int) := by omega
  have h'' : (a : Int) ≤ (b : Int) := by omega
  have e := Tryz.underlying9
  go_simp
theorem str_both (l : List UInt8) (a b : Nat) : (str l).extract a b = str ((l.drop a).take (b - a)) := by
  have h : ((str l).extract a b).data.toList = (str ((l.drop a).take (b - a))).data.toList := by
    rw [str_list, Lib.extract_data, str_list]
  rw [← str_of ((str l).extract a b), h, str_of]
theorem bat_str {l : List UInt8} {k : Nat} (hk : k < l.length) (c : UInt8) : (Sx.bat (str l) k = (c.toNat : Int)) ↔ l[k]? = some c := by
  unfold Sx.bat
  have e : (str l).data[k]? = some l[k] := by
    rw [← Array.getElem?_toList, str_list]
    exact List.getElem?_eq_getElem hk
  rw [e, List.getElem?_eq_getElem hk]
  simp only [Option.getD_some, Option.some.injEq]
  constructor
  · intro h
    exact UInt8.toNat_inj.1 (by omega)
  · rintro rfl
    rfl
def vals (ps : List (List UInt8)) : List Value := ps.map fun p => .string (str p)
theorem vals_app (a b : List (List UInt8)) : vals (a ++ b) = vals a ++ vals b := List.map_append
set_option maxRecDepth 100000 in
set_option maxHeartbeats 4000000 in
theorem cut_calls (l : List UInt8) (c : UInt8) (hl : l.length ≤ 1000000) (w : World) :
    Calls Tryz.prog 7 #[.string (str l), .int .u8 c.toNat] w fun e w' => ∃ v, e = .returned v ∧ w'.ownsRow w.heap.size 9 1 v (cutF c l).length (vals (cutF c l)) ∧ Below w.heap.size w w' := by
  obtain ⟨i0, hi, hz0, hz1, hz2⟩ := info_parts infoS
  have hsz : (str l).size = l.length := str_size l
  have hix : Hid (∀ k : Nat, k < l.length → ∀ W, (Instr.index 9 (.string (str l)) (.int .i64 (k : Int))).run Tryz.prog W = .ok (.int .u8 (Sx.bat (str l) k)) W) := fun k hk W => Sx.index_at (by omega) W
  have hpc : Hid (∀ f k : Nat, f ≤ k → k ≤ l.length → ∀ W, (Instr.slice 9 (.string (str l)) (some (.int .i64 (f : Int))) (some (.int .i64 (k : Int))) none).run Tryz.prog W = .ok (.string (str ((l.drop f).take (k - f)))) W) := fun f k h1 h2 W => by
    rw [sl_both (str l) f k h1 (by omega) (by omega) W, str_both]
  have hpe : Hid (∀ f : Nat, f ≤ l.length → ∀ W, (Instr.slice 9 (.string (str l)) (some (.int .i64 (f : Int))) none none).run Tryz.prog W = .ok (.string (str (l.drop f))) W) := fun f h1 W => by
    rw [sl_from (str l) f (by omega) (by omega) W, str_from]
  have hbt : Hid (∀ k : Nat, k < l.length → (Sx.bat (str l) k = (c.toNat : Int) ↔ l[k]? = some c)) := fun k hk => bat_str hk c
  generalize str l = s at *
  generalize hcn : (c.toNat : Int) = cn at *
  go_enter Tryz.func7, Tryz.ntmps7
  go_wp2_with fail
  go_loopw [5, 6, 7] (fun v f i wr => ∃ (k fr : Nat) (ps : List (List UInt8)), fr ≤ k ∧ k ≤ l.length ∧ ps.length ≤ k ∧ f = .int .i64 fr ∧ i = .int .i64 k ∧ wr.ownsRow w.heap.size 9 1 v ps.length (vals ps) ∧ Hid (cutF c l = ps ++ cutF c (l.drop fr)) ∧ Hid (∀ j, fr ≤ j → j < k → l[j]? ≠ some c) ∧ Hid (Below w.heap.size w wr)) (fun _ _ i _ => l.length - (intOf i).toNat)
  case atStart => exact ⟨0, 0, [], Nat.le_refl _, Nat.zero_le _, Nat.zero_le _, rfl, rfl, World.ownsRow_nil _ _ _ _, rfl, fun j _ hj => absurd hj (Nat.not_lt_zero _), Below.refl _ _⟩
  case round =>
    obtain ⟨k, fr, ps, hfk, hk, hps, rfl, rfl, hown, hc, hno, hB⟩ := hrel
    by_cases hlt : k < l.length
    · have hi1 := hix.out k hlt
      have hb1 := hbt.out k hlt
      have g1 : (k : Int) < (s.size : Int) := by omega
      by_cases hb : Sx.bat s k = cn
      · have hs1 := hpc.out fr k hfk hk
        have hat := hb1.1 hb
        have hCut : Hid (cutF c l = (ps ++ [(l.drop fr).take (k - fr)]) ++ cutF c (l.drop (k + 1))) := by
          have := cut_at c (l.drop fr) (k - fr) (fun j hj => by rw [List.getElem?_drop]; exact hno.out _ (by omega) (by omega)) (by rw [List.getElem?_drop, show fr + (k - fr) = k by omega]; exact hat)
          rw [List.drop_drop, show fr + (k - fr + 1) = k + 1 by omega] at this
          show cutF c l = _
          rw [hc.out, this]
          simp
        rw [hb] at hi1
        clear hix hpc hbt hb1 hat hc hno hpe
        generalize (l.drop fr).take (k - fr) = pc at *
        go_wp2_with (at_builtin; refine wpList_append_own _ rfl _ _ 23 rfl w.heap.size 9 i0 (.string ⟨#[]⟩) 1 16 Tryz.underlying23 hi hz0 hz1 hz2 rfl (by decide) _ _ _ rfl (hown.alloc _) ⟨wr.heap.size, 0, none⟩ 1 1 [.string (str pc)] rfl rfl ?c1 ?c2 ?c3 ?c4 ?c5 ?_)
        case c1 =>
          intro j u hj
          match j, hj with
          | 0, hj => simp at hj; subst hj; simp [Addr.add]
        case c2 => intro u hu; simp at hu; subst hu; rfl
        case c3 => unfold maxLen; omega
        case c4 => omega
        case c5 => have := hB.out.size; simp; omega
        intro v' w2 hown' hgrow _
        go_wp2
        go_roundw
        case rel =>
          have hsz1 := hB.out.size
          refine ⟨k + 1, k + 1, ps ++ [pc], Nat.le_refl _, by omega, by rw [List.length_append]; simp; omega, by simp, by simp, ?_, hCut, fun j h1 h2 => by omega, ?_⟩
          · rw [List.length_append, vals_app]
            exact hown'
          · exact (hB.out.alloc (by omega) _).grown hgrow (by simp; omega) (fun j hj => (hown.lt j hj).1)
        case measure => simp [intOf]; omega
      · have hne : Hid (l[k]? ≠ some c) := fun h => hb (hb1.2 h)
        clear hix hpc hbt hb1 hpe
        generalize Sx.bat s k = bk at *
        go_wp2
        go_roundw
        case rel =>
          exact ⟨k + 1, fr, ps, by omega, by omega, by omega, rfl, by simp, hown, hc, fun j h1 h2 => by
            by_cases e : j = k
            · subst e; exact hne.out
            · exact hno.out j h1 (by omega), hB⟩
        case measure => simp [intOf]; omega
    · obtain rfl : k = l.length := by omega
      have g2 : ¬ (l.length : Int) < (s.size : Int) := by omega
      have hs1 := hpe.out fr hfk
      have hCut : Hid (cutF c l = ps ++ [l.drop fr]) := by
        show cutF c l = _
        rw [hc.out, cut_end c (l.drop fr) fun j => ?_]
        rw [List.getElem?_drop]
        by_cases h : fr + j < l.length
        · exact hno.out _ (by omega) h
        · rw [List.getElem?_eq_none (by omega)]; simp
      clear hix hpc hbt hc hno hpe
      generalize l.drop fr = pc at *
      have hN1 : ∀ (j : Nat) (x : Value), [Value.string (str pc)][j]? = some x → (wr.alloc (.cells #[.string (str pc)] 9)).cell? ((⟨wr.heap.size, 0, none⟩ : Addr).add j) = some x := by
        intro j x hj
        match j, hj with
        | 0, hj => simp at hj; subst hj; simp [Addr.add]
      have hN2 : ∀ x ∈ [Value.string (str pc)], x.oneCell' = true := by intro x hx; simp at hx; subst hx; rfl
      have HN : Hid _ := And.intro hN1 hN2
      clear hN1 hN2
      go_wp2_with (at_builtin; refine wpList_append_own _ rfl _ _ 23 rfl w.heap.size 9 i0 (.string ⟨#[]⟩) 1 16 Tryz.underlying23 hi hz0 hz1 hz2 rfl (by decide) _ _ _ rfl (hown.alloc _) ⟨wr.heap.size, 0, none⟩ 1 1 [.string (str pc)] rfl rfl HN.out.1 HN.out.2 (by unfold maxLen; omega) (by omega) (by have := hB.out.size; simp; omega) ?_)
      intro v' w2 hown' hgrow _
      go_wp2
      go_ret
      have hsz1 := hB.out.size
      refine ⟨v', rfl, ?_, (hB.out.alloc (by omega) _).grown hgrow (by simp; omega) (fun j hj => (hown.lt j hj).1)⟩
      rw [hCut.out, List.length_append, vals_app]
      exact hown'
end Rn
end Go.Proofs.YtdokgalidhmbbaaGreatDoor
