/- What the document's ReadAck answers, also where bytes are left. -/
import Derived.Test.YtjpdembofiadbaaDoorFG
import Derived.Test.YtjpdembofiadbaaDoorVO
import Derived.Laws.OwnMore
namespace Go.Proofs.YtjpdembofiadbaaDoor
open Go.RowKit Go.Lib Go.Sort
set_option linter.unusedVariables false
set_option linter.unusedSimpArgs false
set_option linter.unusedSimpArgs false


/-- What is left to be read behind A bytes: so many numbers, below lo. -/
def gLeft (need : Nat) (lo : Int) (zs : List R) (A : Nat) (l : List Int) : Option (List R × Nat) :=
  (tk need (l.drop A)).bind fun y => if 0 ≤ lastLo lo y.1 then some (zs ++ pairs lo y.1, A + y.2) else none
def gF (a m : Int) (A : Nat) (l : List Int) : Option (List R × Nat) := match V.getI (l.drop A) with
  | none => none
  | some x => if 12 ≤ m then none else gLeft (2 * m.toNat) (a - x.1) [(a - x.1, a)] (A + x.2.toNat) l
theorem lastLo_le : ∀ (k : Nat) (ns : List Int) (lo : Int), ns.length ≤ k → Mays ns → lastLo lo ns ≤ lo := by
  intro k
  induction k with
  | zero =>
    intro ns lo hl _
    obtain rfl : ns = [] := List.eq_nil_of_length_eq_zero (by omega)
    exact Int.le_refl _
  | succ k ih =>
    intro ns lo hl hm
    match ns, hl, hm with
    | [], _, _ => exact Int.le_refl _
    | [a], _, _ => exact Int.le_refl _
    | a :: b :: ns, hl, hm =>
      have := ih ns (lo - a - 2 - b) (by simp at hl; omega) (fun z hz => hm z (by simp [hz]))
      have ma := hm a (by simp)
      have mb := hm b (by simp)
      simp only [lastLo]
      omega
theorem gLeft_bad1 {need : Nat} {lo : Int} {zs : List R} {A : Nat} {l : List Int} (hn : 0 < need) (h : V.getI (l.drop A) = none) : gLeft need lo zs A l = none := by
  obtain ⟨n, rfl⟩ : ∃ n, need = n + 1 := ⟨need - 1, by omega⟩
  simp [gLeft, tk, h]
theorem gLeft_bad2 {need : Nat} {lo : Int} {zs : List R} {A c : Nat} {l : List Int} {g : Int} (hn : 1 < need) (h : V.getI (l.drop A) = some (g, (c : Int))) (h2 : V.getI (l.drop (A + c)) = none) : gLeft need lo zs A l = none := by
  obtain ⟨n, rfl⟩ : ∃ n, need = n + 1 + 1 := ⟨need - 2, by omega⟩
  simp [gLeft, tk, h, List.drop_drop, h2]
theorem gLeft_two {n : Nat} {lo : Int} {zs : List R} {A c c2 : Nat} {l : List Int} {g d : Int} (h : V.getI (l.drop A) = some (g, (c : Int))) (h2 : V.getI (l.drop (A + c)) = some (d, (c2 : Int))) :
    gLeft (n + 2) lo zs A l = gLeft n (lo - 2 - g - d) (zs ++ [(lo - 2 - g - d, lo - 2 - g)]) (A + c + c2) l := by
  unfold gLeft
  have e1 : lo - g - 2 - d = lo - 2 - g - d := by omega
  have e2 : lo - g - 2 = lo - 2 - g := by omega
  simp only [tk, h, Int.toNat_natCast, List.drop_drop, h2]
  cases tk n (l.drop (A + c + c2)) with
  | none => rfl
  | some y =>
    simp only [Option.map_some, Option.bind_some, lastLo, pairs, e1, e2, List.append_assoc, List.singleton_append, Nat.add_assoc]
theorem gLeft_low {need : Nat} {lo : Int} {zs : List R} {A : Nat} {l : List Int} (hb : Bytes l) (h : lo < 0) : gLeft need lo zs A l = none := by
  unfold gLeft
  cases hr : tk need (l.drop A) with
  | none => rfl
  | some y =>
    obtain ⟨ns, c⟩ := y
    have hm := (tk_inv need _ ns c (bytes_drop hb _) hr).2.1
    have := lastLo_le ns.length ns lo (Nat.le_refl _) hm
    simp only [Option.bind_some]
    rw [if_neg (by omega)]
theorem gLeft_end {lo : Int} {zs : List R} {A : Nat} {l : List Int} (h : 0 ≤ lo) : gLeft 0 lo zs A l = some (zs, A) := by
  simp [gLeft, tk, lastLo, pairs, h]
theorem rdAck_bad1 {l : List Int} (h : V.getI l = none) : rdAck l = none := by simp [rdAck, tk, h]
theorem rdAck_bad2 {l : List Int} {a : Int} {c : Nat} (h : V.getI l = some (a, (c : Int))) (h2 : V.getI (l.drop c) = none) : rdAck l = none := by simp [rdAck, tk, h, h2]
theorem rdAck_two {l : List Int} {a m : Int} {c c2 : Nat} (h : V.getI l = some (a, (c : Int))) (h2 : V.getI (l.drop c) = some (m, (c2 : Int))) : rdAck l = gF a m (c + c2) l := by
  unfold rdAck gF
  simp only [tk, h, Int.toNat_natCast, h2, List.drop_drop]
  cases V.getI (l.drop (c + c2)) with
  | none => rfl
  | some x =>
    simp only [Option.map_some, Option.bind_some, Nat.add_zero]
    by_cases hm : 12 ≤ m
    · rw [if_pos hm, if_pos hm]
    · rw [if_neg hm, if_neg hm]
      unfold gLeft
      rw [show c + (c2 + x.2.toNat) = c + c2 + x.2.toNat by omega]
      cases tk (2 * m.toNat) (l.drop (c + c2 + x.2.toNat)) with
      | none => rfl
      | some y => simp
theorem gF_many {a m : Int} {A : Nat} {l : List Int} (h : 12 ≤ m) : gF a m A l = none := by
  unfold gF
  cases V.getI (l.drop A) with
  | none => rfl
  | some x => simp [h]
theorem gF_bad {a m : Int} {A : Nat} {l : List Int} (h : V.getI (l.drop A) = none) : gF a m A l = none := by simp [gF, h]
theorem gF_one {a m d c : Int} {A : Nat} {l : List Int} (h : V.getI (l.drop A) = some (d, c)) (hm : ¬ 12 ≤ m) : gF a m A l = gLeft (2 * m.toNat) (a - d) [(a - d, a)] (A + c.toNat) l := by simp [gF, h, hm]

theorem flat_last (front : List R) (cur : R) : (flat (front ++ [cur]))[front.length * 2]? = some (.int .i64 cur.1) ∧ (flat (front ++ [cur]))[front.length * 2 + 1]? = some (.int .i64 cur.2) := by
  have h := flat_get (front ++ [cur]) front.length (by simp)
  have e : at' (front ++ [cur]) front.length = cur := by simp [at']
  rw [e] at h
  exact h
theorem rget_at (s : ByteArray) (A : Nat) (hA : A ≤ s.size) (w : World) (hl : s.size ≤ 9223372036854775807) :
    Calls Tryd.prog 36 #[.string (s.extract A s.size)] w fun e w' => e = .returned (V.getRV (V.getI ((V.ints s).drop A))) ∧ Below w.heap.size w w' := by
  have h := V.rget_all (s.extract A s.size) w (by unfold maxLen; simp; omega)
  rw [ints_drop s A hA] at h
  exact h
theorem rget_no (s : ByteArray) (A : Nat) (hA : A ≤ s.size) (w : World) (hl : s.size ≤ 9223372036854775807) (h : V.getI ((V.ints s).drop A) = none) :
    Calls Tryd.prog 36 #[.string (s.extract A s.size)] w fun e w' => e = .returned (.tuple #[.int .i64 0, .int .i64 0, .bool false]) ∧ Below w.heap.size w w' := by
  have := rget_at s A hA w hl
  rw [h] at this
  exact this
theorem rget_yes (s : ByteArray) (A : Nat) (hA : A ≤ s.size) (w : World) (hl : s.size ≤ 9223372036854775807) (g c : Int) (h : V.getI ((V.ints s).drop A) = some (g, c)) :
    Calls Tryd.prog 36 #[.string (s.extract A s.size)] w fun e w' => e = .returned (.tuple #[.int .i64 g, .int .i64 c, .bool true]) ∧ Below w.heap.size w w' := by
  have := rget_at s A hA w hl
  rw [h] at this
  exact this

abbrev ReadPost (s : ByteArray) (w : World) (e : Ending) (w' : World) : Prop :=
  ((rdAck (V.ints s) = none ∧ e = .returned (.tuple #[.slice none 0 0, .int .i64 0, .bool false])) ∨ (∃ (zs : List R) (v : Value) (A : Nat), rdAck (V.ints s) = some (zs, A) ∧ e = .returned (.tuple #[v, .int .i64 (A : Int), .bool true]) ∧ w'.ownsRow w.heap.size 76 2 v zs.length (flat zs))) ∧ Below w.heap.size w w'

set_option maxRecDepth 100000 in
set_option maxHeartbeats 4000000 in
theorem read_bad1 (s : ByteArray) (w : World) (hl : s.size ≤ maxLen) (h : V.getI (V.ints s) = none) : Calls Tryd.prog 35 #[.string s] w (ReadPost s w) := by
  have HG := V.rget_all s w hl
  rw [h] at HG
  simp only [V.getRV] at HG
  have hp := rdAck_bad1 h
  go_enter Tryd.func35, Tryd.ntmps35
  go_wp2_with fail
  refine HG.mono ?_
  rintro e w1 ⟨rfl, hb1⟩
  go_wp2_with fail
  go_ret3
  exact ⟨.inl ⟨hp, rfl⟩, hb1⟩

set_option maxRecDepth 100000 in
set_option maxHeartbeats 4000000 in
theorem read_bad2 (s : ByteArray) (w : World) (hl : s.size ≤ maxLen) (a : Int) (C1 : Nat) (hC1 : C1 ≤ s.size) (h : V.getI (V.ints s) = some (a, (C1 : Int))) (h2 : V.getI ((V.ints s).drop C1) = none) : Calls Tryd.prog 35 #[.string s] w (ReadPost s w) := by
  have HG := V.rget_all s w hl
  unfold maxLen at hl
  rw [h] at HG
  simp only [V.getRV] at HG
  have HG2 := fun W => rget_no s C1 hC1 W hl h2
  have hp : rdAck (V.ints s) = none := rdAck_bad2 h h2
  have g1 : (C1 : Int) ≤ (s.size : Int) := by omega
  clear h h2
  go_enter Tryd.func35, Tryd.ntmps35
  go_wp2_with fail
  refine HG.mono ?_
  rintro e w1 ⟨rfl, hb1⟩
  clear HG
  go_wp2_with fail
  refine (HG2 _).mono ?_
  rintro e w2 ⟨rfl, hb2⟩
  have hB2 := hb1.trans (hb2.mono hb1.size)
  go_wp2_with fail
  go_ret3
  exact ⟨.inl ⟨hp, rfl⟩, hB2⟩

set_option maxRecDepth 100000 in
set_option maxHeartbeats 4000000 in
theorem read_many (s : ByteArray) (w : World) (hl : s.size ≤ maxLen) (a m : Int) (C1 C2 : Nat) (hC1 : C1 ≤ s.size) (h : V.getI (V.ints s) = some (a, (C1 : Int))) (h2 : V.getI ((V.ints s).drop C1) = some (m, (C2 : Int))) (hm : 12 ≤ m) : Calls Tryd.prog 35 #[.string s] w (ReadPost s w) := by
  have HG := V.rget_all s w hl
  unfold maxLen at hl
  rw [h] at HG
  simp only [V.getRV] at HG
  have HG2 := fun W => rget_yes s C1 hC1 W hl m C2 h2
  have hp : rdAck (V.ints s) = none := by
    rw [rdAck_two h h2]
    exact gF_many hm
  have g1 : (C1 : Int) ≤ (s.size : Int) := by omega
  clear h h2
  go_enter Tryd.func35, Tryd.ntmps35
  go_wp2_with fail
  refine HG.mono ?_
  rintro e w1 ⟨rfl, hb1⟩
  clear HG
  go_wp2_with fail
  refine (HG2 _).mono ?_
  rintro e w2 ⟨rfl, hb2⟩
  have hB2 := hb1.trans (hb2.mono hb1.size)
  go_wp2_with fail
  go_ret3
  exact ⟨.inl ⟨hp, rfl⟩, hB2⟩

set_option maxRecDepth 100000 in
set_option maxHeartbeats 4000000 in
theorem read_go (s : ByteArray) (w : World) (hl : s.size ≤ maxLen) (a m : Int) (C1 C2 : Nat) (hC1 : C1 ≤ 4) (hC2 : C2 ≤ 4) (hC : C1 + C2 ≤ s.size) (h : V.getI (V.ints s) = some (a, (C1 : Int))) (h2 : V.getI ((V.ints s).drop C1) = some (m, (C2 : Int))) (ha : 0 ≤ a ∧ a < 1073741824) (hm0 : 0 ≤ m) (hm : m < 12) : Calls Tryd.prog 35 #[.string s] w (ReadPost s w) := by
  have HG := V.rget_all s w hl
  unfold maxLen at hl
  rw [h] at HG
  simp only [V.getRV] at HG
  have HG2 := fun W => rget_yes s C1 (by omega) W hl m C2 h2
  have HP : Hid (rdAck (V.ints s) = gF a m (C1 + C2) (V.ints s)) := by
    show _ = _
    exact rdAck_two h h2
  have g1 : (C1 : Int) ≤ (s.size : Int) := by omega
  clear h h2
  go_enter Tryd.func35, Tryd.ntmps35
  go_wp2_with fail
  refine HG.mono ?_
  rintro e w1 ⟨rfl, hb1⟩
  clear HG
  go_wp2_with fail
  refine (HG2 _).mono ?_
  rintro e w2 ⟨rfl, hb2⟩
  have hB2 := hb1.trans (hb2.mono hb1.size)
  clear HG2
  have gm : ¬ 12 ≤ m := by omega
  go_wp2_with fail
  go_loopw [5, 6, 10, 11] (fun hv av ov iv wr => ∃ (k A : Nat) (zs : List R), (k : Int) ≤ m + 1 ∧ iv = .int .i64 (k : Int) ∧ av = .int .i64 (A : Int) ∧ A ≤ s.size ∧ wr.ownsRow w.heap.size 76 2 ov k (flat zs) ∧ Below w.heap.size w wr ∧
      ((k = 0 ∧ hv = .int .i64 a ∧ zs = [] ∧ Hid (rdAck (V.ints s) = gF a m A (V.ints s))) ∨ (∃ (j : Nat) (lo hx : Int) (front : List R), k = j + 1 ∧ front.length = j ∧ zs = front ++ [(lo, hx)] ∧ 0 ≤ lo ∧ lo < 1073741824 ∧ Hid (rdAck (V.ints s) = gLeft (2 * (m.toNat + 1 - k)) lo zs A (V.ints s)))))
    (fun _ _ _ iv _ => (m + 1 - intOf iv).toNat)
  case atStart => exact ⟨0, C1 + C2, [], by omega, rfl, by simp, hC, World.ownsRow_nil _ _ _ _, hB2, .inl ⟨rfl, rfl, rfl, HP⟩⟩
  case round =>
    obtain ⟨k, A, zs, hk, rfl, rfl, hA, hown, hB, hcase⟩ := hrel
    have gA : (A : Int) ≤ (s.size : Int) := by omega
    have hBs := hB.size
    have hby := bytes_drop (bytes_ints s) A
    rcases hcase with ⟨rfl, rfl, rfl, hE⟩ | ⟨j, lo, hx, front, rfl, hfl, rfl, hlo0, hlo1, hE⟩
    · have g0 : (0 : Int) ≤ m := hm0
      have hov : ∃ ao c, u10 = .slice ao 0 c := by
        rcases hown.2 with ⟨e, _⟩ | ⟨g, cap, cur, e, _⟩
        · exact ⟨_, _, e⟩
        · exact ⟨_, _, e⟩
      obtain ⟨ao, cc, rfl⟩ := hov
      cases hg : V.getI ((V.ints s).drop A) with
      | none =>
        have HF : Hid (rdAck (V.ints s) = none) := by show _ = _; rw [hE.out]; exact gF_bad hg
        have HC := fun W => rget_no s A hA W hl hg
        clear hE hg hby
        go_wp2_with fail
        refine (HC _).mono ?_
        rintro e w3 ⟨rfl, hb3⟩
        have hB3 := hB.trans (hb3.mono hBs)
        go_wp2_with fail
        go_ret3
        exact ⟨.inl ⟨HF.out, rfl⟩, hB3⟩
      | some p =>
        obtain ⟨d, c⟩ := p
        obtain ⟨cn, rfl, hc4, hcl, hd0, hd1⟩ := get_nat hby hg
        have hA2 : A + cn ≤ s.size := by rw [List.length_drop, ints_length] at hcl; omega
        have HC := fun W => rget_yes s A hA W hl d cn hg
        have HE : Hid (rdAck (V.ints s) = gLeft (2 * m.toNat) (a - d) [(a - d, a)] (A + cn) (V.ints s)) := by
          show _ = _
          rw [hE.out, gF_one hg (by omega)]; rfl
        clear hE hg hcl hby
        by_cases hlow : a - d < 0
        · have HF : Hid (rdAck (V.ints s) = none) := by show _ = _; rw [HE.out]; exact gLeft_low (bytes_ints s) hlow
          clear HE
          go_wp2_with fail
          refine (HC _).mono ?_
          rintro e w3 ⟨rfl, hb3⟩
          have hB3 := hB.trans (hb3.mono hBs)
          go_wp2_with fail
          go_ret3
          exact ⟨.inl ⟨HF.out, rfl⟩, hB3⟩
        · have gl : ¬ a - d < 0 := hlow
          go_wp2_with fail
          refine (HC _).mono ?_
          rintro e w3 ⟨rfl, hb3⟩
          have hB3 := hB.trans (hb3.mono hBs)
          have own3 := own_below hown hb3
          clear HC
          go_wp2_with (at_builtin; refine append_row rfl (.tmp 91) (.tmp 97) rfl w.heap.size _ _ _ rfl (own3.alloc _) _ [(a - d, a)] rfl (row_new _ (a - d) a) (by simp) (by simp; have := hB3.size; omega) ?_; intro v4 w4 hown4 hb4)
          have hB4 : Below w.heap.size w w4 := (hB3.alloc hB3.size _).trans hb4
          exact ⟨⟨1, A + cn, [(a - d, a)], by omega, by go_num, by simp, hA2, by simpa [flat] using hown4, hB4, .inr ⟨0, a - d, a, [], rfl, rfl, rfl, by omega, by omega, (by
            show _ = _
            rw [HE.out, show 2 * (m.toNat + 1 - 1) = 2 * m.toNat by omega])⟩⟩, by simp [intOf]; omega⟩
    · have hfl' : front.length * 2 + 2 ≤ (flat (front ++ [(lo, hx)])).length := by rw [flat_length]; simp; omega
      have HO : Hid (wr.ownsRow w.heap.size 76 2 u10 (j + 1) (flat (front ++ [(lo, hx)]))) := hown
      by_cases hlt : (j : Int) + 1 ≤ m
      · obtain ⟨gb, cap, rfl⟩ := ownsRow_succ hown
        have hg2 : gb < wr.heap.size := (hown.lt gb rfl).2
        have cl0 := hown.cells (g := gb) rfl (j * 2) (.int .i64 lo) (by have := (flat_last front (lo, hx)).1; rw [hfl] at this; exact this)
        rw [Addr.add_lit, Nat.zero_add] at cl0
        have hneed : 2 * (m.toNat + 1 - (j + 1)) = 2 * (m.toNat + 1 - (j + 1 + 1)) + 2 := by omega
        rw [hneed] at hE
        have hj11 : j + 1 ≤ 11 := by omega
        have HFL : Hid (front.length = j) := hfl
        clear hneed hfl hfl' hk hown
        cases hg : V.getI ((V.ints s).drop A) with
        | none =>
          have HF : Hid (rdAck (V.ints s) = none) := by show _ = _; rw [hE.out]; exact gLeft_bad1 (by omega) hg
          have HC := fun W => rget_no s A hA W hl hg
          clear hE hg hby
          go_wp2_with fail
          refine (HC _).mono ?_
          rintro e w3 ⟨rfl, hb3⟩
          have hB3 := hB.trans (hb3.mono hBs)
          go_wp2_with fail
          go_ret3
          exact ⟨.inl ⟨HF.out, rfl⟩, hB3⟩
        | some p =>
          obtain ⟨g, c⟩ := p
          obtain ⟨cn, rfl, hc4, hcl, hd0, hd1⟩ := get_nat hby hg
          have hA2 : A + cn ≤ s.size := by rw [List.length_drop, ints_length] at hcl; omega
          have HC := fun W => rget_yes s A hA W hl g cn hg
          have gA2 : (A : Int) + (cn : Int) ≤ (s.size : Int) := by omega
          cases hg2' : V.getI ((V.ints s).drop (A + cn)) with
          | none =>
            have HF : Hid (rdAck (V.ints s) = none) := by show _ = _; rw [hE.out]; exact gLeft_bad2 (by omega) hg hg2'
            have HC2 := fun W => rget_no s (A + cn) hA2 W hl hg2'
            clear hE hg hby hg2' hcl
            go_wp2_with fail
            refine (HC _).mono ?_
            rintro e w3 ⟨rfl, hb3⟩
            have hB3 := hB.trans (hb3.mono hBs)
            have q0 := (hb3.cell (p := ⟨gb, j * 2, none⟩) hg2).trans cl0
            have hat : ((A : Int) + (cn : Int)).toNat = A + cn := by omega
            go_wp2_with fail
            refine (HC2 _).mono ?_
            rintro e w4 ⟨rfl, hb4⟩
            have hB4 := hB3.trans (hb4.mono hB3.size)
            go_wp2_with fail
            go_ret3
            exact ⟨.inl ⟨HF.out, rfl⟩, hB4⟩
          | some p2 =>
            obtain ⟨d, c2⟩ := p2
            obtain ⟨cm, rfl, hc5, hcl2, he0, he1⟩ := get_nat (bytes_drop (bytes_ints s) _) hg2'
            have hA3 : A + cn + cm ≤ s.size := by rw [List.length_drop, ints_length] at hcl2; omega
            have HC2 := fun W => rget_yes s (A + cn) hA2 W hl d cm hg2'
            have HE : Hid (rdAck (V.ints s) = gLeft (2 * (m.toNat + 1 - (j + 1 + 1))) (lo - 2 - g - d) (front ++ [(lo, hx)] ++ [(lo - 2 - g - d, lo - 2 - g)]) (A + cn + cm) (V.ints s)) := by
              show _ = _
              rw [hE.out, gLeft_two hg hg2']
            have hat : ((A : Int) + (cn : Int)).toNat = A + cn := by omega
            clear hE hg hby hg2' hcl hcl2
            by_cases hlow : lo - 2 - g - d < 0
            · have HF : Hid (rdAck (V.ints s) = none) := by show _ = _; rw [HE.out]; exact gLeft_low (bytes_ints s) hlow
              clear HE
              go_wp2_with fail
              refine (HC _).mono ?_
              rintro e w3 ⟨rfl, hb3⟩
              have hB3 := hB.trans (hb3.mono hBs)
              have q0 := (hb3.cell (p := ⟨gb, j * 2, none⟩) hg2).trans cl0
              go_wp2_with fail
              refine (HC2 _).mono ?_
              rintro e w4 ⟨rfl, hb4⟩
              have hB4 := hB3.trans (hb4.mono hB3.size)
              go_wp2_with fail
              go_ret3
              exact ⟨.inl ⟨HF.out, rfl⟩, hB4⟩
            · have gl : ¬ lo - 2 - g - d < 0 := hlow
              go_wp2_with fail
              refine (HC _).mono ?_
              rintro e w3 ⟨rfl, hb3⟩
              have hB3 := hB.trans (hb3.mono hBs)
              have q0 := (hb3.cell (p := ⟨gb, j * 2, none⟩) hg2).trans cl0
              go_wp2_with fail
              refine (HC2 _).mono ?_
              rintro e w4 ⟨rfl, hb4⟩
              have hB4 := hB3.trans (hb4.mono hB3.size)
              have own4 := own_below (own_below HO.out hb3) hb4
              clear HC HC2
              go_wp2_with (at_builtin; refine append_row rfl (.tmp 91) (.tmp 97) rfl w.heap.size _ _ _ rfl (own4.alloc _) _ [(lo - 2 - g - d, lo - 2 - g)] rfl (row_new _ (lo - 2 - g - d) (lo - 2 - g)) (by simp; omega) (by simp; have := hB4.size; omega) ?_; intro v5 w5 hown5 hb5)
              have hB5 : Below w.heap.size w w5 := (hB4.alloc hB4.size _).trans hb5
              exact ⟨⟨j + 1 + 1, A + cn + cm, front ++ [(lo, hx)] ++ [(lo - 2 - g - d, lo - 2 - g)], by omega, by go_num, by simp, hA3, (by rw [flat_append]; exact hown5), hB5, .inr ⟨j + 1, lo - 2 - g - d, lo - 2 - g, front ++ [(lo, hx)], rfl, by simp [HFL.out], rfl, by omega, by omega, (by
                show _ = _
                rw [HE.out])⟩⟩, by simp [intOf]; omega⟩
      · have hjm : 2 * (m.toNat + 1 - (j + 1)) = 0 := by omega
        rw [hjm] at hE
        have F1 : Hid (rdAck (V.ints s) = some (front ++ [(lo, hx)], A)) := by show _ = _; rw [hE.out]; exact gLeft_end hlo0
        have hrow := row_of_own HO.out (by simp; omega)
        have HR : Hid (Row wr u10 (front ++ [(lo, hx)])) := hrow
        obtain ⟨ao, cc, hv, _⟩ := hrow
        rw [show (front ++ [(lo, hx)]).length = j + 1 by simp [hfl]] at hv
        subst hv
        have glt : ¬ (j : Int) + 1 ≤ m := hlt
        clear hE hby hfl'
        go_wp2_with fail
        go_ret3
        exact ⟨.inr ⟨front ++ [(lo, hx)], _, A, F1.out, rfl, by rw [show (front ++ [(lo, hx)]).length = j + 1 by simp [hfl]]; exact HO.out⟩, hB⟩
theorem read_calls (s : ByteArray) (w : World) (hl : s.size ≤ maxLen) : Calls Tryd.prog 35 #[.string s] w (ReadPost s w) := by
  cases hg : V.getI (V.ints s) with
  | none => exact read_bad1 s w hl hg
  | some p =>
    obtain ⟨a, c⟩ := p
    obtain ⟨C1, rfl, h4, hle, a0, a1⟩ := get_nat (bytes_ints s) hg
    rw [ints_length] at hle
    cases hg2 : V.getI ((V.ints s).drop C1) with
    | none => exact read_bad2 s w hl a C1 hle hg hg2
    | some p2 =>
      obtain ⟨m, c2⟩ := p2
      obtain ⟨C2, rfl, h5, hle2, m0, m1⟩ := get_nat (bytes_drop (bytes_ints s) _) hg2
      rw [List.length_drop, ints_length] at hle2
      by_cases hm : 12 ≤ m
      · exact read_many s w hl a m C1 C2 hle hg hg2 hm
      · exact read_go s w hl a m C1 C2 h4 h5 (by omega) hg hg2 ⟨a0, a1⟩ m0 (by omega)
end Go.Proofs.YtjpdembofiadbaaDoor
