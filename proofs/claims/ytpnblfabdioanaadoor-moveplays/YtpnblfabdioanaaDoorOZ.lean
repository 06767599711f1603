/- The texts E,F of proof, at this seat. -/
import Derived.Test.YtpnblfabdioanaaDoorOX
namespace Go.Proofs.YtpnblfabdioanaaDoor.Ox
open Go.RowKit Go.Lib Go.Sort
set_option linter.unusedVariables false
set_option linter.unusedSimpArgs false


def encT (x : T) : List Value := [.int .i64 x.1, .int .i64 x.2.1, .int .i64 x.2.2]
def flat (zs : List T) : List Value := zs.flatMap encT
theorem flat_length (zs : List T) : (flat zs).length = zs.length * 3 := by
  induction zs with
  | nil => rfl
  | cons r rs ih => simp only [flat, List.flatMap_cons, List.length_append] at *; rw [ih]; simp [encT]; omega
theorem flat_append (a b : List T) : flat (a ++ b) = flat a ++ flat b := by simp [flat]
theorem flat_get : ∀ (zs : List T) (j : Nat), j < zs.length → (flat zs)[j * 3]? = some (.int .i64 (tat zs j).1) ∧ (flat zs)[j * 3 + 1]? = some (.int .i64 (tat zs j).2.1) ∧ (flat zs)[j * 3 + 2]? = some (.int .i64 (tat zs j).2.2)
  | [], j, h => by simp at h
  | r :: rs, 0, _ => by simp [flat, encT, tat]
  | r :: rs, j + 1, h => by
    have i := flat_get rs j (by simpa using h)
    have e1 : (j + 1) * 3 = j * 3 + 1 + 1 + 1 := by omega
    have e2 : flat (r :: rs) = .int .i64 r.1 :: .int .i64 r.2.1 :: .int .i64 r.2.2 :: flat rs := rfl
    have e3 : tat (r :: rs) (j + 1) = tat rs j := by simp [tat]
    rw [e1, e2, e3]
    simpa using i
theorem flat_one {zs : List T} : ∀ u, u ∈ flat zs → u.oneCell' = true := by
  intro u hu
  simp only [flat, List.mem_flatMap] at hu
  obtain ⟨r, _, h⟩ := hu
  simp [encT] at h
  rcases h with rfl | rfl | rfl <;> rfl
theorem infoR : (Tryd.prog.info? 83).map (fun i => (i.zero, i.size, i.bytes)) = some (some (.agg #[.int .i64 0, .int .i64 0, .int .i64 0]), 3, 24) := by kernel_rfl
theorem info_parts {P : Program} {e : TypeId} {z : Value} {s b : Nat} (h : (P.info? e).map (fun i => (i.zero, i.size, i.bytes)) = some (some z, s, b)) : ∃ i, P.info? e = some i ∧ i.zero = some z ∧ i.size = s ∧ i.bytes = b := by
  cases hi : P.info? e with
  | none => rw [hi] at h; simp at h
  | some i => rw [hi] at h; simp at h; exact ⟨i, rfl, h.1, h.2.1, h.2.2⟩
theorem cells_three_new (w : World) (p n t : Int) (ty : TypeId) : ∀ j u, (flat [(p, n, t)])[j]? = some u → (w.alloc (.cells #[.int .i64 p, .int .i64 n, .int .i64 t] ty)).cell? ((⟨w.heap.size, 0, none⟩ : Addr).add j) = some u := by
  intro j u hj
  match j, hj with
  | 0, hj => simp [flat, encT] at hj; subst hj; simp [Addr.add]
  | 1, hj => simp [flat, encT] at hj; subst hj; simp [Addr.add]
  | 2, hj => simp [flat, encT] at hj; subst hj; simp [Addr.add]
  | j + 3, hj => simp [flat, encT] at hj
theorem own_shape {w : World} {B e size n : Nat} {v : Value} {xs : List Value} (h : w.ownsRow B e size v n xs) (h0 : 0 < n) : ∃ g cap, v = .slice (some ⟨g, 0, none⟩) n cap := by
  rcases h.2 with ⟨_, e⟩ | ⟨g, cap, cur, e, _⟩
  · omega
  · exact ⟨g, cap, e⟩
def rown (mb : Nat) (v : Value) (k : Nat) : Prop := k = mb ∨ v.ownBlock = some k
/-- The block mb holds the document's Proofs: what is open in the slice v. -/
structure Ref (w : World) (B mb : Nat) (v : Value) (ls : List T) : Prop where
  c0 : w.cell? ⟨mb, 0, none⟩ = some v
  f0 : w.frozen? ⟨mb, 0, none⟩ = false
  row : w.ownsRow B 83 3 v ls.length (flat ls)
  hm : B ≤ mb
  nv : ∀ k, v.ownBlock = some k → k ≠ mb
theorem Ref.lt {w : World} {B mb : Nat} {v : Value} {ls : List T} (h : Ref w B mb v ls) {k : Nat} (hk : rown mb v k) : k < w.heap.size := by
  rcases hk with rfl | hk
  · exact World.block_lt_of_cell? w _ h.c0
  · exact (h.row.lt k hk).2
theorem Ref.ge {w : World} {B mb : Nat} {v : Value} {ls : List T} (h : Ref w B mb v ls) {k : Nat} (hk : rown mb v k) : B ≤ k := by
  rcases hk with rfl | hk
  · exact h.hm
  · exact (h.row.lt k hk).1
theorem Ref.le {w : World} {B mb : Nat} {v : Value} {ls : List T} (h : Ref w B mb v ls) : B ≤ w.heap.size := by have := h.hm; have := h.lt (k := mb) (.inl rfl); omega
theorem Ref.off {K : Nat → Prop} {w' : World} {w : World} {B mb : Nat} {v : Value} {ls : List T} (h : Ref w B mb v ls) (ho : Off K w w') (hK : ∀ k, rown mb v k → ¬ K k) : Ref w' B mb v ls := by
  have km := hK mb (.inl rfl)
  have hl := h.lt (k := mb) (.inl rfl)
  exact ⟨ho.cell h.c0 km, (ho.frozen (p := ⟨mb, 0, none⟩) hl km).trans h.f0, ho.row h.row (fun k e => hK k (.inr e)), h.hm, h.nv⟩
theorem Ref.below {w' : World} {w : World} {B mb : Nat} {v : Value} {ls : List T} (h : Ref w B mb v ls) (hb : Below w.heap.size w w') : Ref w' B mb v ls := h.off (Off.of_below (K := fun _ => False) hb) (fun _ _ => id)
theorem Ref.new (w : World) (B : Nat) (hB : B ≤ w.heap.size) : Ref (w.alloc (.cells #[.slice none 0 0] 45)) B w.heap.size (.slice none 0 0) [] :=
  ⟨by simp, by simp, World.ownsRow_nil _ _ _ _, hB, (fun k hk => by simp [Value.ownBlock] at hk)⟩
theorem Ref.shape {w : World} {B mb : Nat} {v : Value} {ls : List T} (h : Ref w B mb v ls) : ∃ a c, v = .slice a ls.length c := by
  rcases h.row.2 with ⟨rfl, e⟩ | ⟨g, cap, cur, rfl, _⟩
  · exact ⟨none, 0, by rw [e]⟩
  · exact ⟨_, _, rfl⟩
/-- Where the row lies, if there is anything in it. -/
theorem Ref.rows {w : World} {B mb m c : Nat} {a : Option Addr} {ls : List T} (h : Ref w B mb (.slice a m c) ls) (h0 : 0 < ls.length) :
    ∃ g, a = some ⟨g, 0, none⟩ ∧ g < w.heap.size ∧ g ≠ mb ∧ m = ls.length ∧ ls.length ≤ c ∧ (∀ j u, (flat ls)[j]? = some u → w.cell? ⟨g, j, none⟩ = some u) ∧ ∀ j, j < ls.length → w.cell? ⟨g, j * 3, none⟩ = some (.int .i64 (tat ls j).1) ∧ w.cell? ⟨g, j * 3 + 1, none⟩ = some (.int .i64 (tat ls j).2.1) ∧ w.cell? ⟨g, j * 3 + 2, none⟩ = some (.int .i64 (tat ls j).2.2) := by
  have h1 := h.row
  rcases h1.2 with ⟨_, e⟩ | ⟨g, cap, cur, e, _, _, hcap, _⟩
  · omega
  injection e with e1 e2 e3
  subst e1; subst e3
  rw [e2] at h1
  have hc : ∀ j u, (flat ls)[j]? = some u → w.cell? ⟨g, j, none⟩ = some u := fun j u hu => by
    have := h1.cells (g := g) rfl j u hu
    rw [Addr.add_lit, Nat.zero_add] at this
    exact this
  refine ⟨g, rfl, (h1.lt g rfl).2, h.nv g rfl, e2, hcap, hc, fun j hj => ?_⟩
  have f := flat_get ls j hj
  exact ⟨hc _ _ f.1, hc _ _ f.2.1, hc _ _ f.2.2⟩
/-- Its slice is put anew. -/
theorem Ref.put {w w' : World} {B mb : Nat} {v v' : Value} {ls ls' : List T} (h : Ref w B mb v ls) (ho : Off (fun k => v.ownBlock = some k) w w') (hr : w'.ownsRow B 83 3 v' ls'.length (flat ls')) (hn : ∀ k, v'.ownBlock = some k → v.ownBlock = some k ∨ w.heap.size ≤ k) : Ref (w'.setCell ⟨mb, 0, none⟩ v') B mb v' ls' := by
  have hl := h.lt (k := mb) (.inl rfl)
  have hne : ∀ k, v'.ownBlock = some k → k ≠ mb := fun k hk => by
    rcases hn k hk with e | e
    · exact h.nv k e
    · omega
  have km : ¬ v.ownBlock = some mb := fun e => h.nv mb e rfl
  refine ⟨World.cell?_setCell_same _ _ _ (ho.cell h.c0 km), ?_, ?_, h.hm, hne⟩
  · have := (ho.frozen (p := ⟨mb, 0, none⟩) hl km).trans h.f0
    simpa using this
  · exact ((Off.refl (fun k => k = mb) w').setCell (a := ⟨mb, 0, none⟩) rfl v').row hr hne

set_option maxRecDepth 100000 in
set_option maxHeartbeats 2000000 in
theorem rask_a (mb : Nat) (p n t : Int) (w : World) (h1 : p < 0) : Calls Tryd.prog 17 #[.pointer (some ⟨mb, 0, none⟩), .int .i64 p, .int .i64 n, .int .i64 t] w fun e w' => e = .returned (.int .i64 1) ∧ w' = w := by
  go_enter Tryd.func17, Tryd.ntmps17
  go_wp2_with (go_at_call 37; refine (may_calls n _).mono ?_; rintro e w1 ⟨rfl, rfl⟩; rw [show numB n = numB n from rfl])
  go_ret
  exact ⟨rfl, rfl⟩

set_option maxRecDepth 100000 in
set_option maxHeartbeats 2000000 in
theorem rask_b (mb : Nat) (p n t : Int) (w : World) (h0 : 0 ≤ p) (h1 : 3 < p) : Calls Tryd.prog 17 #[.pointer (some ⟨mb, 0, none⟩), .int .i64 p, .int .i64 n, .int .i64 t] w fun e w' => e = .returned (.int .i64 1) ∧ w' = w := by
  go_enter Tryd.func17, Tryd.ntmps17
  go_wp2_with (go_at_call 37; refine (may_calls n _).mono ?_; rintro e w1 ⟨rfl, rfl⟩; rw [show numB n = numB n from rfl])
  go_ret
  exact ⟨rfl, rfl⟩

set_option maxRecDepth 100000 in
set_option maxHeartbeats 2000000 in
theorem rask_c (mb : Nat) (p n t : Int) (w : World) (h0 : 0 ≤ p) (h1 : p ≤ 3) (h2 : numB n = false) : Calls Tryd.prog 17 #[.pointer (some ⟨mb, 0, none⟩), .int .i64 p, .int .i64 n, .int .i64 t] w fun e w' => e = .returned (.int .i64 1) ∧ w' = w := by
  go_enter Tryd.func17, Tryd.ntmps17
  go_wp2_with (go_at_call 37; refine (may_calls n _).mono ?_; rintro e w1 ⟨rfl, rfl⟩; rw [h2])
  go_ret
  exact ⟨rfl, rfl⟩

set_option maxRecDepth 100000 in
set_option maxHeartbeats 2000000 in
theorem rask_d (mb : Nat) (p n t : Int) (w : World) (h0 : 0 ≤ p) (h1 : p ≤ 3) (h2 : numB n = true) (h3 : t < 0) : Calls Tryd.prog 17 #[.pointer (some ⟨mb, 0, none⟩), .int .i64 p, .int .i64 n, .int .i64 t] w fun e w' => e = .returned (.int .i64 1) ∧ w' = w := by
  go_enter Tryd.func17, Tryd.ntmps17
  go_wp2_with (go_at_call 37; refine (may_calls n _).mono ?_; rintro e w1 ⟨rfl, rfl⟩; rw [h2])
  go_ret
  exact ⟨rfl, rfl⟩

set_option maxRecDepth 100000 in
set_option maxHeartbeats 2000000 in
theorem rask_e (mb : Nat) (p n t : Int) (w : World) (h0 : 0 ≤ p) (h1 : p ≤ 3) (h2 : numB n = true) (h3 : 0 ≤ t) (h4 : 100000 < t) : Calls Tryd.prog 17 #[.pointer (some ⟨mb, 0, none⟩), .int .i64 p, .int .i64 n, .int .i64 t] w fun e w' => e = .returned (.int .i64 1) ∧ w' = w := by
  go_enter Tryd.func17, Tryd.ntmps17
  go_wp2_with (go_at_call 37; refine (may_calls n _).mono ?_; rintro e w1 ⟨rfl, rfl⟩; rw [h2])
  go_ret
  exact ⟨rfl, rfl⟩

theorem rask_range (mb : Nat) (p n t : Int) (w : World) (hb : rightB p n t = false) : Calls Tryd.prog 17 #[.pointer (some ⟨mb, 0, none⟩), .int .i64 p, .int .i64 n, .int .i64 t] w fun e w' => e = .returned (.int .i64 1) ∧ w' = w := by
  by_cases h1 : p < 0
  · exact rask_a mb p n t w h1
  by_cases h2 : 3 < p
  · exact rask_b mb p n t w (by omega) h2
  cases h3 : numB n with
  | false => exact rask_c mb p n t w (by omega) (by omega) h3
  | true =>
    by_cases h4 : t < 0
    · exact rask_d mb p n t w (by omega) (by omega) h3 h4
    by_cases h5 : 100000 < t
    · exact rask_e mb p n t w (by omega) (by omega) h3 (by omega) h5
    · have hn : 0 ≤ n ∧ n ≤ 1073741823 := of_decide_eq_true h3
      have := right_mk (p := p) (n := n) (t := t) (by omega) hn (by omega)
      rw [hb] at this; cases this
set_option maxRecDepth 100000 in
set_option maxHeartbeats 2000000 in
theorem rask_right {w : World} {B mb : Nat} {v : Value} {ls : List T} (h : Ref w B mb v ls) (hI : ls.length ≤ 8) (p n t : Int) (hb : rightB p n t = true) : Calls Tryd.prog 17 #[.pointer (some ⟨mb, 0, none⟩), .int .i64 p, .int .i64 n, .int .i64 t] w fun e w' => e = .returned (.int .i64 (askF ls p n t)) ∧ ∃ v', Ref w' B mb v' (askL ls p n t) ∧ Off (rown mb v) w w' ∧ ∀ k, v'.ownBlock = some k → v.ownBlock = some k ∨ w.heap.size ≤ k := by
  obtain ⟨⟨p0, p1⟩, ⟨n0, n1⟩, t0, t1⟩ := right_of hb
  have hm : numB n = true := decide_eq_true ⟨n0, n1⟩
  obtain ⟨a, c, rfl⟩ := h.shape
  have HR : Hid (Ref w B mb (.slice a ls.length c) ls) := h
  have HB : Hid (rightB p n t = true) := hb
  have c0 := h.c0
  have hle := h.le
  have same : ∀ f : Int, f ≠ 0 → askF ls p n t = f → (∃ v', Ref w B mb v' (askL ls p n t) ∧ Off (rown mb (.slice a ls.length c)) w w ∧ ∀ k, v'.ownBlock = some k → (Value.slice a ls.length c).ownBlock = some k ∨ w.heap.size ≤ k) := fun f h0 hf => by
    rw [askL_no (by rw [hf]; exact h0)]
    exact ⟨_, h, Off.refl _ _, fun k hk => .inl hk⟩
  have SAME : Hid (∀ f : Int, f ≠ 0 → askF ls p n t = f → (∃ v', Ref w B mb v' (askL ls p n t) ∧ Off (rown mb (.slice a ls.length c)) w w ∧ ∀ k, v'.ownBlock = some k → (Value.slice a ls.length c).ownBlock = some k ∨ w.heap.size ≤ k)) := same
  clear h hb same
  go_enter Tryd.func17, Tryd.ntmps17
  go_wp2_with (go_at_call 37; refine (may_calls n _).mono ?_; rintro e w1 ⟨rfl, hw1⟩; rw [hm, hw1]; clear hw1 w1)
  go_loopg [10] ls.length (fun gk s10 wr => ∃ j : Nat, gk + j = ls.length ∧ s10 = .int .i64 j ∧ wr = w ∧ Hid (∀ i, i < j → (tat ls i).2.1 ≠ n))
  case atStart => exact ⟨0, by omega, rfl, rfl, (show ∀ i, i < 0 → (tat ls i).2.1 ≠ n from fun i hi => absurd hi (Nat.not_lt_zero _))⟩
  case round =>
    obtain ⟨j, hj, rfl, hw, HN⟩ := hrel
    subst hw
    have HJ : Hid (gk + j = ls.length) := hj
    clear hj
    by_cases q1 : (j : Int) < (ls.length : Int)
    · obtain ⟨g, rfl, hg, hgm, _, hcap, hall, hcs⟩ := HR.out.rows (by omega)
      obtain ⟨x0, x1, x2⟩ := hcs j (by omega)
      clear hall hcs
      by_cases q2 : (tat ls j).2.1 = n
      · have HF : Hid (askF ls p n t = 7) := askF_clash HB.out (isIn_of (tat_mem (show j < ls.length by omega)) q2)
        rw [q2] at x1
        clear q2
        go_wp2_with fail
        go_ret
        exact ⟨by rw [HF.out]; rfl, SAME.out 7 (by decide) HF.out⟩
      · have HN2 : Hid (∀ i, i < j + 1 → (tat ls i).2.1 ≠ n) := fun i hi => by
          by_cases e : i = j
          · subst e; exact q2
          · exact HN.out i (by omega)
        generalize (tat ls j).2.1 = z at x1 q2
        go_wp2_with fail
        go_roundg (ls.length - (j + 1))
        case measure => have := HJ.out; omega
        case rel => exact ⟨j + 1, by have := HJ.out; omega, by go_num, rfl, HN2⟩
    · have HI : Hid (isIn ls n = false) := isIn_not fun y hy => by
        obtain ⟨i, hi, rfl⟩ := mem_tat hy
        exact HN.out i (by have := HJ.out; omega)
      by_cases q2 : (8 : Int) ≤ (ls.length : Int)
      · have HF : Hid (askF ls p n t = 4) := askF_full HB.out HI.out (by omega)
        go_wp2_with fail
        go_ret
        exact ⟨by rw [HF.out]; rfl, SAME.out 4 (by decide) HF.out⟩
      · have HF : Hid (askF ls p n t = 0) := askF_yes HB.out HI.out (by omega)
        have HL : Hid (askL ls p n t = ls ++ [(p, n, t)]) := askL_yes HF.out
        have q3 : ls.length < 8 := by omega
        have ba : Below wr.heap.size wr (wr.alloc (.cells #[.int .i64 p, .int .i64 n, .int .i64 t] 83)) := (Below.refl _ _).alloc (Nat.le_refl _) _
        have hR2 := HR.out.below ba
        have hrow := hR2.row
        have hle2 := hR2.le
        have d0 := hR2.c0
        obtain ⟨i0, hi0, hz0, hz1, hz2⟩ := info_parts infoR
        go_wp2_with (at_builtin; refine wpList_append_own_at _ rfl (.tmp 60) (.tmp 65) 43 rfl B 83 i0 _ 3 24 Tryd.underlying43 hi0 hz0 hz1 hz2 rfl (by decide) _ _ (flat ls) rfl hrow ⟨wr.heap.size, 0, none⟩ 1 1 (flat [(p, n, t)]) rfl rfl (cells_three_new wr _ _ _ _) (fun u hu => flat_one u hu) (by unfold maxLen; omega) (by omega) hle2 ?_; intro v3 w3 ho3 hg3 _ hl3; obtain ⟨g3, cap3, rfl⟩ := own_shape ho3 (by omega); have og := Off.of_grown (K := fun k => (Value.slice a ls.length c).ownBlock = some k) hg3 (fun k e => e); have d2 := og.cell hR2.c0 (fun e => hR2.nv mb e rfl); have df := (og.frozen (p := ⟨mb, 0, none⟩) (hR2.lt (.inl rfl)) (fun e => hR2.nv mb e rfl)).trans hR2.f0)
        go_ret
        have hn3 : ∀ k, (Value.slice (some ⟨g3, 0, none⟩) (ls.length + 1) cap3).ownBlock = some k → (Value.slice a ls.length c).ownBlock = some k ∨ (wr.alloc (.cells #[.int .i64 p, .int .i64 n, .int .i64 t] 83)).heap.size ≤ k := fun k hk => by
          rcases hl3 with e | e
          · exact .inl (e.symm.trans hk)
          · right; rw [e] at hk; have hk := Option.some.inj hk; omega
        have hP := hR2.put og (v' := .slice (some ⟨g3, 0, none⟩) (ls.length + 1) cap3) (ls' := ls ++ [(p, n, t)]) (by rw [flat_append, List.length_append]; exact ho3) hn3
        refine ⟨by rw [HF.out]; rfl, _, by rw [HL.out]; exact hP, ((Off.of_below ba).trans (og.mono (fun k _ e => .inr e))).setCell (.inl rfl) _, fun k hk => (hn3 k hk).imp id (fun e => Nat.le_trans ba.size e)⟩
theorem rask_calls {w : World} {B mb : Nat} {v : Value} {ls : List T} (h : Ref w B mb v ls) (hI : ls.length ≤ 8) (p n t : Int) : Calls Tryd.prog 17 #[.pointer (some ⟨mb, 0, none⟩), .int .i64 p, .int .i64 n, .int .i64 t] w fun e w' => e = .returned (.int .i64 (askF ls p n t)) ∧ ∃ v', Ref w' B mb v' (askL ls p n t) ∧ Off (rown mb v) w w' ∧ ∀ k, v'.ownBlock = some k → v.ownBlock = some k ∨ w.heap.size ≤ k := by
  cases hb : rightB p n t with
  | true => exact rask_right h hI p n t hb
  | false =>
    have e := askF_range (ls := ls) hb
    rw [askL_no (by rw [e]; decide), e]
    exact (rask_range mb p n t w hb).mono fun e w' ⟨h1, h2⟩ => ⟨h1, v, by rw [h2]; exact h, by rw [h2]; exact Off.refl _ _, fun k hk => .inl hk⟩



def leftL (ls : List T) (p n t l : Int) : List T := if soB ls p n t l = true then gone ls n else ls
theorem leftL_yes {ls : List T} {p n t l : Int} (h : soB ls p n t l = true) : leftL ls p n t l = gone ls n := if_pos h
theorem leftL_no {ls : List T} {p n t l : Int} (h : soB ls p n t l = false) : leftL ls p n t l = ls := if_neg (by rw [h]; decide)
def tailOff (cp j : Nat) : Nat := if cp = j + 1 then 0 else (j + 1) * 3
theorem run_head (g len cp j : Nat) (h : j ≤ cp) (w : World) : (Instr.slice 43 (.slice (some ⟨g, 0, none⟩) len cp) none (some (.int .i64 (j : Int))) none).run Tryd.prog w = .ok (.slice (some ⟨g, 0, none⟩) j cp) w := by
  have h' : (j : Int) ≤ (cp : Int) := by omega
  have e := Tryd.underlying43
  go_simp
theorem run_tail (g len cp j : Nat) (h : j + 1 ≤ len) (w : World) : (Instr.slice 43 (.slice (some ⟨g, 0, none⟩) len cp) (some (.int .i64 ((j : Int) + 1))) none none).run Tryd.prog w = .ok (.slice (some ⟨g, tailOff cp j, none⟩) (len - (j + 1)) (cp - (j + 1))) w := by
  have h' : (j : Int) + 1 ≤ (len : Int) := by omega
  have e := Tryd.underlying43
  have e1 : ((j : Int) + 1).toNat = j + 1 := by omega
  unfold tailOff
  by_cases hc : cp = j + 1
  · rw [if_pos hc]; go_simp; exact fun hlt => absurd hlt (by omega)
  · rw [if_neg hc]; go_simp; exact fun hlt => absurd hlt (by omega)
theorem flat_take {ls : List T} (j : Nat) (i : Nat) (u : Value) (h : (flat (ls.take j))[i]? = some u) : (flat ls)[i]? = some u := by
  have hl := (List.getElem?_eq_some_iff.1 h).1
  rw [← List.take_append_drop j ls, flat_append, List.getElem?_append_left hl]
  exact h
theorem flat_drop {ls : List T} {j : Nat} (hj : j ≤ ls.length) (i : Nat) (u : Value) (h : (flat (ls.drop j))[i]? = some u) : (flat ls)[j * 3 + i]? = some u := by
  have hl : (flat (ls.take j)).length = j * 3 := by rw [flat_length, List.length_take]; omega
  rw [← List.take_append_drop j ls, flat_append, List.getElem?_append_right (by omega), hl]
  have : j * 3 + i - j * 3 = i := by omega
  rw [this]
  exact h
theorem own_any {w : World} {B e size n : Nat} {v : Value} {xs : List Value} (h : w.ownsRow B e size v n xs) : ∃ a cap, v = .slice a n cap := by
  rcases h.2 with ⟨rfl, e⟩ | ⟨g, cap, cur, rfl, _⟩
  · exact ⟨none, 0, by rw [e]⟩
  · exact ⟨_, _, rfl⟩
/-- Its slice is put anew, wherever that lies. -/
theorem Ref.set {w : World} {B mb : Nat} {v v' : Value} {ls ls' : List T} (h : Ref w B mb v ls) (hr : w.ownsRow B 83 3 v' ls'.length (flat ls')) (hne : ∀ k, v'.ownBlock = some k → k ≠ mb) : Ref (w.setCell ⟨mb, 0, none⟩ v') B mb v' ls' :=
  ⟨World.cell?_setCell_same _ _ _ h.c0, by simpa using h.f0, ((Off.refl (fun k => k = mb) w).setCell (a := ⟨mb, 0, none⟩) rfl v').row hr hne, h.hm, hne⟩

set_option maxRecDepth 100000 in
set_option maxHeartbeats 2000000 in
theorem rans_a (mb : Nat) (p n t l : Int) (w : World) (h1 : p < 0) : Calls Tryd.prog 18 #[.pointer (some ⟨mb, 0, none⟩), .int .i64 p, .int .i64 n, .int .i64 t, .int .i64 l] w fun e w' => e = .returned (.tuple #[.bool false, .int .i64 1]) ∧ w' = w := by
  go_enter Tryd.func18, Tryd.ntmps18
  go_wp2_with (go_at_call 37; refine (may_calls n _).mono ?_; rintro e w1 ⟨rfl, rfl⟩; rw [show numB n = numB n from rfl])
  go_ret2
  exact ⟨rfl, rfl⟩

set_option maxRecDepth 100000 in
set_option maxHeartbeats 2000000 in
theorem rans_b (mb : Nat) (p n t l : Int) (w : World) (h0 : 0 ≤ p) (h1 : 3 < p) : Calls Tryd.prog 18 #[.pointer (some ⟨mb, 0, none⟩), .int .i64 p, .int .i64 n, .int .i64 t, .int .i64 l] w fun e w' => e = .returned (.tuple #[.bool false, .int .i64 1]) ∧ w' = w := by
  go_enter Tryd.func18, Tryd.ntmps18
  go_wp2_with (go_at_call 37; refine (may_calls n _).mono ?_; rintro e w1 ⟨rfl, rfl⟩; rw [show numB n = numB n from rfl])
  go_ret2
  exact ⟨rfl, rfl⟩

set_option maxRecDepth 100000 in
set_option maxHeartbeats 2000000 in
theorem rans_c (mb : Nat) (p n t l : Int) (w : World) (h0 : 0 ≤ p) (h1 : p ≤ 3) (h2 : numB n = false) : Calls Tryd.prog 18 #[.pointer (some ⟨mb, 0, none⟩), .int .i64 p, .int .i64 n, .int .i64 t, .int .i64 l] w fun e w' => e = .returned (.tuple #[.bool false, .int .i64 1]) ∧ w' = w := by
  go_enter Tryd.func18, Tryd.ntmps18
  go_wp2_with (go_at_call 37; refine (may_calls n _).mono ?_; rintro e w1 ⟨rfl, rfl⟩; rw [h2])
  go_ret2
  exact ⟨rfl, rfl⟩

set_option maxRecDepth 100000 in
set_option maxHeartbeats 2000000 in
theorem rans_d (mb : Nat) (p n t l : Int) (w : World) (h0 : 0 ≤ p) (h1 : p ≤ 3) (h2 : numB n = true) (h3 : t < 0) : Calls Tryd.prog 18 #[.pointer (some ⟨mb, 0, none⟩), .int .i64 p, .int .i64 n, .int .i64 t, .int .i64 l] w fun e w' => e = .returned (.tuple #[.bool false, .int .i64 1]) ∧ w' = w := by
  go_enter Tryd.func18, Tryd.ntmps18
  go_wp2_with (go_at_call 37; refine (may_calls n _).mono ?_; rintro e w1 ⟨rfl, rfl⟩; rw [h2])
  go_ret2
  exact ⟨rfl, rfl⟩

set_option maxRecDepth 100000 in
set_option maxHeartbeats 2000000 in
theorem rans_e (mb : Nat) (p n t l : Int) (w : World) (h0 : 0 ≤ p) (h1 : p ≤ 3) (h2 : numB n = true) (h3 : 0 ≤ t) (h4 : 100000 < t) : Calls Tryd.prog 18 #[.pointer (some ⟨mb, 0, none⟩), .int .i64 p, .int .i64 n, .int .i64 t, .int .i64 l] w fun e w' => e = .returned (.tuple #[.bool false, .int .i64 1]) ∧ w' = w := by
  go_enter Tryd.func18, Tryd.ntmps18
  go_wp2_with (go_at_call 37; refine (may_calls n _).mono ?_; rintro e w1 ⟨rfl, rfl⟩; rw [h2])
  go_ret2
  exact ⟨rfl, rfl⟩

set_option maxRecDepth 100000 in
set_option maxHeartbeats 2000000 in
theorem rans_f (mb : Nat) (p n t l : Int) (w : World) (h0 : 0 ≤ p) (h1 : p ≤ 3) (h2 : numB n = true) (h3 : 0 ≤ t) (h4 : t ≤ 100000) (h5 : l < 0) : Calls Tryd.prog 18 #[.pointer (some ⟨mb, 0, none⟩), .int .i64 p, .int .i64 n, .int .i64 t, .int .i64 l] w fun e w' => e = .returned (.tuple #[.bool false, .int .i64 1]) ∧ w' = w := by
  go_enter Tryd.func18, Tryd.ntmps18
  go_wp2_with (go_at_call 37; refine (may_calls n _).mono ?_; rintro e w1 ⟨rfl, rfl⟩; rw [h2])
  go_ret2
  exact ⟨rfl, rfl⟩

set_option maxRecDepth 100000 in
set_option maxHeartbeats 2000000 in
theorem rans_g (mb : Nat) (p n t l : Int) (w : World) (h0 : 0 ≤ p) (h1 : p ≤ 3) (h2 : numB n = true) (h3 : 0 ≤ t) (h4 : t ≤ 100000) (h5 : 0 ≤ l) (h6 : 100000 < l) : Calls Tryd.prog 18 #[.pointer (some ⟨mb, 0, none⟩), .int .i64 p, .int .i64 n, .int .i64 t, .int .i64 l] w fun e w' => e = .returned (.tuple #[.bool false, .int .i64 1]) ∧ w' = w := by
  go_enter Tryd.func18, Tryd.ntmps18
  go_wp2_with (go_at_call 37; refine (may_calls n _).mono ?_; rintro e w1 ⟨rfl, rfl⟩; rw [h2])
  go_ret2
  exact ⟨rfl, rfl⟩

theorem rans_range (mb : Nat) (p n t l : Int) (w : World) (hb : ¬ (rightB p n t = true ∧ timeB l = true)) : Calls Tryd.prog 18 #[.pointer (some ⟨mb, 0, none⟩), .int .i64 p, .int .i64 n, .int .i64 t, .int .i64 l] w fun e w' => e = .returned (.tuple #[.bool false, .int .i64 1]) ∧ w' = w := by
  by_cases h1 : p < 0
  · exact rans_a mb p n t l w h1
  by_cases h2 : 3 < p
  · exact rans_b mb p n t l w (by omega) h2
  cases h3 : numB n with
  | false => exact rans_c mb p n t l w (by omega) (by omega) h3
  | true =>
    by_cases h4 : t < 0
    · exact rans_d mb p n t l w (by omega) (by omega) h3 h4
    by_cases h5 : 100000 < t
    · exact rans_e mb p n t l w (by omega) (by omega) h3 (by omega) h5
    by_cases h6 : l < 0
    · exact rans_f mb p n t l w (by omega) (by omega) h3 (by omega) (by omega) h6
    by_cases h7 : 100000 < l
    · exact rans_g mb p n t l w (by omega) (by omega) h3 (by omega) (by omega) (by omega) h7
    · have hn : 0 ≤ n ∧ n ≤ 1073741823 := of_decide_eq_true h3
      exact absurd ⟨right_mk (p := p) (n := n) (t := t) (by omega) hn (by omega), decide_eq_true (show 0 ≤ l ∧ l ≤ 100000 by omega)⟩ hb
set_option maxRecDepth 100000 in
set_option maxHeartbeats 8000000 in
theorem rans_right {w : World} {B mb : Nat} {v : Value} {ls : List T} (h : Ref w B mb v ls) (hI : Inv ls) (p n t l : Int) (hb : rightB p n t = true) (hl : timeB l = true) : Calls Tryd.prog 18 #[.pointer (some ⟨mb, 0, none⟩), .int .i64 p, .int .i64 n, .int .i64 t, .int .i64 l] w fun e w' => e = .returned (.tuple #[.bool (soB ls p n t l), .int .i64 0]) ∧ ∃ v', Ref w' B mb v' (leftL ls p n t l) ∧ Off (rown mb v) w w' ∧ ∀ k, v'.ownBlock = some k → v.ownBlock = some k ∨ w.heap.size ≤ k := by
  obtain ⟨⟨p0, p1⟩, ⟨n0, n1⟩, t0, t1⟩ := right_of hb
  have hl2 : 0 ≤ l ∧ l ≤ 100000 := of_decide_eq_true hl
  obtain ⟨l0, l1⟩ := hl2
  have hm : numB n = true := decide_eq_true ⟨n0, n1⟩
  have hfew := hI.few
  have HI : Hid (Inv ls) := hI
  obtain ⟨a, c, rfl⟩ := h.shape
  have HR : Hid (Ref w B mb (.slice a ls.length c) ls) := h
  have c0 := h.c0
  have hle := h.le
  have hmb := h.lt (k := mb) (.inl rfl)
  clear h hb hl hI
  go_enter Tryd.func18, Tryd.ntmps18
  go_wp2_with (go_at_call 37; refine (may_calls n _).mono ?_; rintro e w1 ⟨rfl, hw1⟩; rw [hm, hw1]; clear hw1 w1)
  go_loopg [13] ls.length (fun gk s13 wr => ∃ j : Nat, gk + j = ls.length ∧ s13 = .int .i64 j ∧ Below w.heap.size w wr ∧ Hid (∀ i, i < j → hit (tat ls i) p n t l = false))
  case atStart => exact ⟨0, by omega, rfl, Below.refl _ _, (show ∀ i, i < 0 → hit (tat ls i) p n t l = false from fun i hi => absurd hi (Nat.not_lt_zero _))⟩
  case round =>
    obtain ⟨j, hj, rfl, hB, HN⟩ := hrel
    have HJ : Hid (gk + j = ls.length) := hj
    clear hj
    have c1 := (hB.cell (p := ⟨mb, 0, none⟩) hmb).trans c0
    by_cases q1 : (j : Int) < (ls.length : Int)
    · obtain ⟨g, rfl, hg, hgm, _, hcap, hall, hcs⟩ := HR.out.rows (by omega)
      have HC : Hid (∀ j u, (flat ls)[j]? = some u → w.cell? ⟨g, j, none⟩ = some u) := hall
      obtain ⟨x0, x1, x2⟩ := hcs j (by omega)
      have x0 := (hB.cell (p := ⟨g, j * 3, none⟩) hg).trans x0
      have x1 := (hB.cell (p := ⟨g, j * 3 + 1, none⟩) hg).trans x1
      have x2 := (hB.cell (p := ⟨g, j * 3 + 2, none⟩) hg).trans x2
      have hr := right_of (HI.out.right _ (tat_mem (show j < ls.length by omega)))
      obtain ⟨y1, y2, y3, hy⟩ : ∃ y1 y2 y3, tat ls j = (y1, y2, y3) := ⟨_, _, _, rfl⟩
      have HY : Hid (tat ls j = (y1, y2, y3)) := hy
      rw [hy] at x0 x1 x2 hr
      dsimp only at x0 x1 x2 hr
      obtain ⟨_, _, r0, r1⟩ := hr
      clear hall hcs hy
      go_upto_region 8 with fail
      have ba : Below wr.heap.size wr (wr.alloc (.cells #[.int .i64 y1, .int .i64 y2, .int .i64 y3] 83)) := (Below.refl _ _).alloc (Nat.le_refl _) _
      have hB2 := hB.trans (ba.mono hB.size)
      have z0 : (wr.alloc (.cells #[.int .i64 y1, .int .i64 y2, .int .i64 y3] 83)).cell? ⟨wr.heap.size, 0, none⟩ = some (.int .i64 y1) := by simp
      have z1 : (wr.alloc (.cells #[.int .i64 y1, .int .i64 y2, .int .i64 y3] 83)).cell? ⟨wr.heap.size, 1, none⟩ = some (.int .i64 y2) := by simp
      have z2 : (wr.alloc (.cells #[.int .i64 y1, .int .i64 y2, .int .i64 y3] 83)).cell? ⟨wr.heap.size, 2, none⟩ = some (.int .i64 y3) := by simp
      clear ba hB x0 x1 x2 c1
      generalize wr.heap.size = Y at z0 z1 z2 ⊢
      generalize wr.alloc (.cells #[.int .i64 y1, .int .i64 y2, .int .i64 y3] 83) = W at z0 z1 z2 hB2 ⊢
      go_cut [83] (fun s83 wx => s83 = .bool (decide (y2 = n ∧ y1 = p ∧ y3 ≤ t ∧ t - y3 ≤ l)) ∧ wx = W)
      case first =>
        by_cases e1 : y2 = n
        · subst e1
          by_cases e2 : y1 = p
          · subst e2
            by_cases e3 : y3 ≤ t
            · by_cases e4 : t - y3 ≤ l
              · go_wp2_with fail
                go_meet
                exact ⟨by simp <;> omega, rfl⟩
              · go_wp2_with fail
                go_meet
                exact ⟨by simp <;> omega, rfl⟩
            · go_wp2_with fail
              go_meet
              exact ⟨by simp <;> omega, rfl⟩
          · go_wp2_with fail
            go_meet
            exact ⟨by simp <;> omega, rfl⟩
        · go_wp2_with fail
          go_meet
          exact ⟨by simp <;> omega, rfl⟩
      case rest =>
      obtain ⟨rfl, hwc⟩ := hcut
      subst hwc
      clear z0 z1 z2
      by_cases hh : y2 = n ∧ y1 = p ∧ y3 ≤ t ∧ t - y3 ≤ l
      · have hd : (decide (y2 = n ∧ y1 = p ∧ y3 ≤ t ∧ t - y3 ≤ l)) = true := decide_eq_true hh
        have HS : Hid (soB ls p n t l = true) := by
          show soB ls p n t l = true
          simp only [soB, List.any_eq_true]
          exact ⟨tat ls j, tat_mem (by omega), by rw [HY.out]; exact hd⟩
        have HG : Hid (gone ls n = ls.take j ++ ls.drop (j + 1)) := by
          show gone ls n = ls.take j ++ ls.drop (j + 1)
          rw [← gone_at HI.out (show j < ls.length by omega), HY.out]
          exact congrArg (gone ls) hh.1.symm
        rw [hd]
        clear hd hh
        have hsl1 := run_head g ls.length c j (by omega)
        have hsl2 := run_tail g ls.length c j (by omega)
        obtain ⟨i0, hi0, hz0, hz1, hz2⟩ := info_parts infoR
        have c2 := (hB2.cell (p := ⟨mb, 0, none⟩) hmb).trans c0
        have hnil : wc.ownsRow w.heap.size 83 3 (.slice none 0 0) 0 [] := World.ownsRow_nil _ _ _ _
        have hcells : ∀ i u, (flat (ls.take j))[i]? = some u → wc.cell? ((⟨g, 0, none⟩ : Addr).add i) = some u := fun i u hu => by
          rw [Addr.add_lit, Nat.zero_add]
          exact (hB2.cell (p := ⟨g, i, none⟩) hg).trans (HC.out i u (flat_take j i u hu))
        have hlen1 : (flat (ls.take j)).length = j * 3 := by rw [flat_length, List.length_take]; omega
        have hle2 := hB2.size
        go_upto_region 11 with (at_builtin; refine wpList_append_own_at _ rfl (.tmp 84) (.tmp 90) 43 rfl w.heap.size 83 i0 _ 3 24 Tryd.underlying43 hi0 hz0 hz1 hz2 rfl (by decide) _ _ [] rfl hnil ⟨g, 0, none⟩ j c (flat (ls.take j)) rfl hlen1 hcells (fun u hu => flat_one u hu) (by unfold maxLen; omega) (by omega) hle2 ?_; intro v3 w3 ho3 hg3 _ hl3; rw [Nat.zero_add, List.nil_append] at ho3)
        have hB3 := hB2.grown hg3 hle2 (fun k e => by cases e)
        obtain ⟨a3, cap3, rfl⟩ : ∃ a3 cap3, v3 = .slice a3 j cap3 := by
          rcases ho3.2 with ⟨rfl, e⟩ | ⟨g3, cap3, cur, rfl, _⟩
          · exact ⟨none, 0, by rw [e]⟩
          · exact ⟨_, _, rfl⟩
        have c3 := (hB3.cell (p := ⟨mb, 0, none⟩) hmb).trans c0
        have hcells3 : ∀ i u, (flat (ls.drop (j + 1)))[i]? = some u → w3.cell? ((⟨g, tailOff c j, none⟩ : Addr).add i) = some u := fun i u hu => by
          have hi : i < (flat (ls.drop (j + 1))).length := (List.getElem?_eq_some_iff.1 hu).1
          rw [flat_length, List.length_drop] at hi
          have : tailOff c j = (j + 1) * 3 := by unfold tailOff; rw [if_neg]; omega
          rw [this, Addr.add_lit]
          exact (hB3.cell (p := ⟨g, (j + 1) * 3 + i, none⟩) hg).trans (HC.out _ u (flat_drop (by omega) i u hu))
        have hlen3 : (flat (ls.drop (j + 1))).length = (ls.length - (j + 1)) * 3 := by rw [flat_length, List.length_drop]
        have hle3 := hB3.size
        have hR3 := HR.out.below hB3
        clear hnil hcells hlen1 hg3 hl3 hB2 c2 hsl1 hle2
        go_wp2_with (at_builtin; refine wpList_append_own_at _ rfl (.tmp 93) (.tmp 100) 43 rfl w.heap.size 83 i0 _ 3 24 Tryd.underlying43 hi0 hz0 hz1 hz2 rfl (by decide) _ _ (flat (ls.take j)) rfl ho3 ⟨g, tailOff c j, none⟩ (ls.length - (j + 1)) (c - (j + 1)) (flat (ls.drop (j + 1))) rfl hlen3 hcells3 (fun u hu => flat_one u hu) (by unfold maxLen; omega) (by omega) hle3 ?_; intro v4 w4 ho4 hg4 _ hl4; have hB4 := hB3.grown hg4 hle3 (fun k e => (ho3.lt k e).1); have hR4 := HR.out.below hB4; have d4 := hR4.c0; have f4 := hR4.f0; obtain ⟨a4, cap4, rfl⟩ : ∃ a4 cap4, v4 = .slice a4 (j + (ls.length - (j + 1))) cap4 := own_any ho4)
        go_ret2
        have hnew : ∀ k, (Value.slice a4 (j + (ls.length - (j + 1))) cap4).ownBlock = some k → w.heap.size ≤ k := fun k hk => (ho4.lt k hk).1
        have hP := hR4.set (ls' := ls.take j ++ ls.drop (j + 1)) (v' := .slice a4 (j + (ls.length - (j + 1))) cap4) (by
          have e : (ls.take j ++ ls.drop (j + 1)).length = j + (ls.length - (j + 1)) := by rw [List.length_append, List.length_take, List.length_drop]; omega
          rw [e, flat_append]
          exact own_mono ho4 hle) (fun k hk e => by have := hnew k hk; omega)
        exact ⟨by rw [HS.out]; rfl, _, by rw [leftL_yes HS.out, HG.out]; exact hP, (Off.of_below hB4).setCell (.inl rfl) _, fun k hk => .inr (hnew k hk)⟩
      · have hd : (decide (y2 = n ∧ y1 = p ∧ y3 ≤ t ∧ t - y3 ≤ l)) = false := decide_eq_false hh
        rw [hd]
        have HN2 : Hid (∀ i, i < j + 1 → hit (tat ls i) p n t l = false) := fun i hi => by
          by_cases e : i = j
          · subst e; rw [HY.out]; exact hd
          · exact HN.out i (by omega)
        clear hd hh
        go_wp2_with fail
        go_roundg (ls.length - (j + 1))
        case measure => have := HJ.out; omega
        case rel => exact ⟨j + 1, by have := HJ.out; omega, by go_num, hB2, HN2⟩
    · have HS : Hid (soB ls p n t l = false) := by
        show soB ls p n t l = false
        cases e : soB ls p n t l with
        | false => rfl
        | true =>
          simp only [soB, List.any_eq_true] at e
          obtain ⟨y, hy, e⟩ := e
          obtain ⟨i, hi, rfl⟩ := mem_tat hy
          rw [HN.out i (by have := HJ.out; omega)] at e
          cases e
      go_wp2_with fail
      go_ret2
      exact ⟨by rw [HS.out]; rfl, _, by rw [leftL_no HS.out]; exact HR.out.below hB, Off.of_below hB, fun k hk => .inl hk⟩
theorem rans_calls {w : World} {B mb : Nat} {v : Value} {ls : List T} (h : Ref w B mb v ls) (hI : Inv ls) (p n t l : Int) : Calls Tryd.prog 18 #[.pointer (some ⟨mb, 0, none⟩), .int .i64 p, .int .i64 n, .int .i64 t, .int .i64 l] w fun e w' => e = .returned (.tuple #[.bool (ansB ls p n t l), .int .i64 (ansF p n t l)]) ∧ ∃ v', Ref w' B mb v' (ansL ls p n t l) ∧ Off (rown mb v) w w' ∧ ∀ k, v'.ownBlock = some k → v.ownBlock = some k ∨ w.heap.size ≤ k := by
  by_cases hb : rightB p n t = true ∧ timeB l = true
  · have h0 := ansF_yes hb.1 hb.2
    have := rans_right h hI p n t l hb.1 hb.2
    have e : ansL ls p n t l = leftL ls p n t l := by unfold ansL leftL; rw [ansB_eq h0]
    rw [e, ansB_eq h0, h0]
    exact this
  · have h0 := ansF_no hb
    have h1 := ansB_no (ls := ls) (show ansF p n t l ≠ 0 by rw [h0]; decide)
    rw [ansL_no h1, h1, h0]
    exact (rans_range mb p n t l w hb).mono fun e w' ⟨h1, h2⟩ => ⟨h1, v, by rw [h2]; exact h, by rw [h2]; exact Off.refl _ _, fun k hk => .inl hk⟩
end Go.Proofs.YtpnblfabdioanaaDoor.Ox
