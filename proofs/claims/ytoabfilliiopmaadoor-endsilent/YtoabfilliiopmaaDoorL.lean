/- Slices of numbers that a call made itself; a range in a box; what Print answers. -/
import Derived.Test.YtoabfilliiopmaaDoorJ
import Derived.Test.YtoabfilliiopmaaDoorP
import Derived.Laws.OwnMore
import Derived.OneCell
namespace Go.Proofs.YtoabfilliiopmaaDoor
open Go.RowKit Go.Lib Go.Sort
set_option linter.unusedVariables false
set_option linter.unusedSimpArgs false

def ivs (xs : List Int) : List Value := xs.map (Value.int .i64)
theorem ivs_append (a b : List Int) : ivs (a ++ b) = ivs a ++ ivs b := by simp [ivs]
theorem ivs_length (a : List Int) : (ivs a).length = a.length := by simp [ivs]
theorem infoI : (Tryd.prog.info? 3).map (fun i => (i.zero, i.size, i.bytes)) = some (some (.int .i64 0), 1, 8) := by kernel_rfl
abbrev OwnI (w : World) (base : Nat) (v : Value) (xs : List Int) : Prop := w.ownsRow base 3 1 v xs.length (ivs xs)
theorem OwnI.cell {w : World} {base g n cap : Nat} {xs : List Int} (h : OwnI w base (.slice (some ⟨g, 0, none⟩) n cap) xs) (j : Nat) (hj : j < xs.length) : w.cell? ⟨g, j, none⟩ = some (.int .i64 (xs[j]?.getD 0)) := by
  have := h.cells (g := g) rfl j (.int .i64 (xs[j]?.getD 0)) (by simp [ivs, hj])
  rw [Addr.add_lit, Nat.zero_add] at this
  exact this
/-- append(all, a few numbers that were just laid). -/
theorem append_ints {w : World} {ops : Array Oper} {rest : List Oper} {o : Oper} {a : Act} {Q : Exit → Act → World → Prop} (hgd : o.guard = none) (s x : Operand)
    (ho : o.op = .call { callee := .builtin .append, args := #[s, x], argTypes := #[31, 31] }) (base : Nat) (v : Value) (xs : List Int) (hs : a.eval s = v) (hown : OwnI w base v xs)
    (ad : Addr) (m c : Nat) (ys : List Int) (hx : a.eval x = .slice (some ad) m c) (hm : ys.length = m) (hc : ∀ j u, (ivs ys)[j]? = some u → w.cell? (ad.add j) = some u) (hn : xs.length + ys.length ≤ 1000000) (hbase : base ≤ w.heap.size)
    (h : ∀ v' w', OwnI w' base v' (xs ++ ys) → w.grownBy w' v.ownBlock → wpList Tryd.prog ops Q rest (a.put o.dst v') w') : wpList Tryd.prog ops Q (o :: rest) a w := by
  obtain ⟨i0, hi, hz0, hz1, hz2⟩ := info_parts infoI
  subst hm
  refine wpList_append_own _ hgd s x 31 ho base 3 i0 _ 1 8 Tryd.underlying31 hi hz0 hz1 hz2 rfl (by decide) v xs.length (ivs xs) hs hown ad ys.length c (ivs ys) hx (by simp [ivs]) hc (fun u hu => by
    simp only [ivs, List.mem_map] at hu
    obtain ⟨z, _, rfl⟩ := hu
    rfl) (by unfold maxLen; omega) (by omega) hbase ?_
  intro v' w' h1 hg _
  refine h v' w' ?_ hg
  show w'.ownsRow base 3 1 v' (xs ++ ys).length (ivs (xs ++ ys))
  rw [ivs_append, List.length_append]
  exact h1
theorem OwnI.below {w w' : World} {base : Nat} {v : Value} {xs : List Int} (h : OwnI w base v xs) (hb : Below w.heap.size w w') : OwnI w' base v xs := own_below h hb
theorem OwnI.form {w : World} {base : Nat} {v : Value} {xs : List Int} (h : OwnI w base v xs) (h0 : xs ≠ []) : ∃ g cap, v = .slice (some ⟨g, 0, none⟩) xs.length cap ∧ xs.length ≤ cap ∧ base ≤ g ∧ g < w.heap.size := by
  rcases h.2 with ⟨_, h1⟩ | ⟨g, cap, cur, rfl, hb, hg, hl, _⟩
  · exact absurd (List.eq_nil_of_length_eq_zero h1) h0
  · exact ⟨g, cap, rfl, hl, hb, (Array.getElem?_eq_some_iff.1 hg).1⟩

theorem cells_two (W : World) (a b : Int) : ∀ j u, (ivs [a, b])[j]? = some u → (W.alloc (.cells #[.int .i64 a, .int .i64 b] 3)).cell? ((⟨W.heap.size, 0, none⟩ : Addr).add j) = some u := by
  intro j u h
  match j, h with
  | 0, h => simp [ivs] at h; subst h; simp [Addr.add]
  | 1, h => simp [ivs] at h; subst h; simp [Addr.add]
  | j + 2, h => simp [ivs] at h
theorem cells_one (W : World) (a : Int) : ∀ j u, (ivs [a])[j]? = some u → (W.alloc (.cells #[.int .i64 a] 3)).cell? ((⟨W.heap.size, 0, none⟩ : Addr).add j) = some u := by
  intro j u h
  match j, h with
  | 0, h => simp [ivs] at h; subst h; simp [Addr.add]
  | j + 1, h => simp [ivs] at h

/-- Block B is a range's box. -/
def Box2 (W : World) (B : Nat) (a b : Int) : Prop := W.heap[B]? = some (.cells #[.int .i64 a, .int .i64 b] 67 (0, 0))
theorem Box2.lt {W : World} {B : Nat} {a b : Int} (h : Box2 W B a b) : B < W.heap.size := (Array.getElem?_eq_some_iff.1 h).1
theorem Box2.c0 {W : World} {B : Nat} {a b : Int} (h : Box2 W B a b) : W.cell? ⟨B, 0, none⟩ = some (.int .i64 a) := by simp [World.cell?, show W.heap[B]? = _ from h]
theorem Box2.c1 {W : World} {B : Nat} {a b : Int} (h : Box2 W B a b) : W.cell? ⟨B, 1, none⟩ = some (.int .i64 b) := by simp [World.cell?, show W.heap[B]? = _ from h]
theorem Box2.f0 {W : World} {B : Nat} {a b : Int} (h : Box2 W B a b) : W.frozen? ⟨B, 0, none⟩ = false := by simp [World.frozen?, show W.heap[B]? = _ from h]
theorem Box2.f1 {W : World} {B : Nat} {a b : Int} (h : Box2 W B a b) : W.frozen? ⟨B, 1, none⟩ = false := by simp [World.frozen?, show W.heap[B]? = _ from h]
theorem Box2.kept {W W' : World} {row : Option Nat} {B : Nat} {a b : Int} (h : Box2 W B a b) (hg : W.grownBy W' row) (hne : some B ≠ row) : Box2 W' B a b := (hg.block B h.lt hne).trans h
theorem Box2.alloc {W : World} {B : Nat} {a b : Int} (h : Box2 W B a b) (o : Obj) : Box2 (W.alloc o) B a b := h.kept (World.grownBy_alloc W o none) (by simp)
theorem Box2.new (W : World) (a b : Int) : Box2 (W.alloc (.cells #[.int .i64 a, .int .i64 b] 67)) W.heap.size a b := World.alloc_heap_new W _
theorem set_block {W : World} {B : Nat} {cs : Array Value} {t : TypeId} (h : W.heap[B]? = some (.cells cs t (0, 0))) (j : Nat) (u : Value) : (W.setCell ⟨B, j, none⟩ u).heap[B]? = some (.cells (cs.setIfInBounds j u) t (0, 0)) := by
  obtain ⟨hlt, hk⟩ := Array.getElem?_eq_some_iff.1 h
  show (W.heap.modify B _)[B]? = _
  rw [Array.getElem?_eq_getElem (by rw [Array.size_modify]; exact hlt), Array.getElem_modify_self, hk]
  rfl
theorem Box2.set {W : World} {B : Nat} {a b : Int} (h : Box2 W B a b) (c d : Int) : Box2 ((W.setCell ⟨B, 0, none⟩ (.int .i64 c)).setCell ⟨B, 1, none⟩ (.int .i64 d)) B c d :=
  set_block (set_block h 0 (.int .i64 c)) 1 (.int .i64 d)

/-- Where the last of ranges begins; p if there is none. -/
def lst : Int → List R → Int
  | p, [] => p
  | _, r :: rs => lst r.1 rs
theorem lst_snoc : ∀ (xs : List R) (p : Int) (r : R), lst p (xs ++ [r]) = r.1
  | [], _, _ => rfl
  | x :: xs, _, r => lst_snoc xs x.1 r
theorem tailN_snoc : ∀ (xs : List R) (p : Int) (r : R), tailN p (xs ++ [r]) = tailN p xs ++ [lst p xs - r.2 - 2, r.2 - r.1]
  | [], _, _ => rfl
  | x :: xs, p, r => by simp only [List.cons_append, tailN, lst, tailN_snoc xs x.1 r]
theorem lst_mem : ∀ (xs : List R) (p : Int), lst p xs = p ∨ ∃ r, r ∈ xs ∧ lst p xs = r.1
  | [], _ => .inl rfl
  | x :: xs, p => by
    rcases lst_mem xs x.1 with h | ⟨r, hr, h⟩
    · exact .inr ⟨x, by simp, h⟩
    · exact .inr ⟨r, by simp [hr], h⟩
theorem take_at {zs : List R} {k : Nat} (h : k < zs.length) : zs.take (k + 1) = zs.take k ++ [at' zs k] := by
  rw [List.take_succ_eq_append_getElem h]; simp [at', h]

/-- The numbers when k ranges behind the first are told. -/
def part (r : R) (rs : List R) (k : Nat) : List Int := r.2 :: (rs.length : Int) :: (r.2 - r.1) :: tailN r.1 (rs.take k)
theorem part_all (r : R) (rs : List R) : part r rs rs.length = numsOf (r :: rs) := by simp [part, numsOf]
theorem part_zero (r : R) (rs : List R) : part r rs 0 = [r.2, (rs.length : Int), r.2 - r.1] := by simp [part, tailN]
theorem part_succ (r : R) (rs : List R) (k : Nat) (h : k < rs.length) : part r rs (k + 1) = part r rs k ++ [lst r.1 (rs.take k) - (at' rs k).2 - 2, (at' rs k).2 - (at' rs k).1] := by
  simp only [part, take_at h, tailN_snoc, List.cons_append]
theorem part_length (r : R) (rs : List R) (k : Nat) (h : k ≤ rs.length) : (part r rs k).length = 3 + 2 * k := by
  simp only [part, List.length_cons, tailN_length, List.length_take]; omega

theorem all_own (w : World) (base : Nat) (v : Value) (ns : List Int) (hF : V.Forms w) (h : OwnI w base v ns) (h0 : ns ≠ []) (hl : ns.length ≤ 40) (hm : Mays ns) :
    Calls Tryd.prog 54 #[v] w fun e w' => e = .returned (.tuple #[.string (strOfNums (ns.flatMap V.nums)), .nilIface]) ∧ Below w.heap.size w w' := by
  obtain ⟨g, cap, rfl, _, _, hg⟩ := h.form h0
  refine (V.all_some g 0 ns.length cap ns w hF rfl hl hg (fun j hj => by rw [Nat.zero_add]; exact h.cell j hj)).mono ?_
  rintro e w' ⟨⟨_, rfl⟩ | ⟨ha, _⟩, hb⟩
  · exact ⟨rfl, hb⟩
  · rw [mays_all hm] at ha; cases ha

set_option maxRecDepth 100000 in
set_option maxHeartbeats 2000000 in
theorem print_err (v : Value) (zs : List R) (w : World) (hR : Row w v zs) (h : chk zs ≠ 0) :
    Calls Tryd.prog 53 #[v] w fun e w' => e = .returned (.tuple #[.string { data := #[] }, errV (chk zs)]) ∧ Below w.heap.size w w' := by
  have hE : errV (chk zs) = .iface 53 (.int .i64 (chk zs)) := by simp [errV, h]
  have HC := check_calls v zs w hR
  rw [hE] at HC ⊢
  obtain ⟨ao, c, rfl, _⟩ := hR
  go_enter Tryd.func53, Tryd.ntmps53
  go_wp2_with fail
  refine HC.mono ?_
  rintro e w1 ⟨rfl, hb1⟩
  go_wp2_with fail
  go_ret2
  exact ⟨rfl, hb1⟩

set_option maxRecDepth 100000 in
set_option maxHeartbeats 2000000 in
theorem print_none (v : Value) (w : World) (hR : Row w v []) :
    Calls Tryd.prog 53 #[v] w fun e w' => e = .returned (.tuple #[.string { data := #[] }, .iface 53 (.int .i64 5)]) ∧ Below w.heap.size w w' := by
  have HC := check_calls v [] w hR
  rw [show errV (chk []) = .nilIface from rfl] at HC
  obtain ⟨ao, c, rfl, _⟩ := hR
  go_enter Tryd.func53, Tryd.ntmps53
  go_wp2_with fail
  refine HC.mono ?_
  rintro e w1 ⟨rfl, hb1⟩
  go_wp2_with fail
  go_ret2
  exact ⟨rfl, hb1⟩

set_option maxRecDepth 100000 in
set_option maxHeartbeats 2000000 in
theorem print_some (b off len cap : Nat) (r : R) (rs : List R) (w : World) (hF : V.Forms w) (hlen : rs.length + 1 = len) (hcap : len ≤ cap) (hg : Good (r :: rs)) (hb : b < w.heap.size) (hc : Cells w b off (r :: rs)) :
    Calls Tryd.prog 53 #[.slice (some ⟨b, off, none⟩) len cap] w fun e w' => e = .returned (.tuple #[.string (strOfNums (enc (r :: rs))), .nilIface]) ∧ Below w.heap.size w w' := by
  have hl12 : rs.length + 1 ≤ 12 := by have := hg.1; simp at this; omega
  have HC := check_calls (.slice (some ⟨b, off, none⟩) len cap) (r :: rs) w ⟨some ⟨b, off, none⟩, cap, by simp [hlen], by simp; omega, (fun h => by cases h), .inr ⟨b, off, rfl, hb, hc⟩⟩
  rw [(chk_ok _).2 hg, errV0] at HC
  have HG : Hid (Good (r :: rs)) := hg
  have HS : Hid (Cells w b off (r :: rs)) := hc
  have HL : Hid (rs.length + 1 = len) := hlen
  have hz : ((len : Int) == 0) = false := by simp; omega
  have hl1 : (1 : Int) ≤ (len : Int) := by omega
  have bd0 : 0 ≤ r.1 ∧ r.1 ≤ r.2 ∧ r.2 ≤ 1073741823 := by have := hg.2.1 r (by simp); exact ⟨this.1, hg.2.2.1, this.2⟩
  have hl0 : 0 < len := by omega
  have hl' : len ≤ 12 := by omega
  clear hg hc hlen hl12
  go_enter Tryd.func53, Tryd.ntmps53
  go_wp2_with fail
  refine HC.mono ?_
  rintro e w1 ⟨rfl, hb1⟩
  have c0 := (HS.out.below hb hb1 0 (by simp)).1
  have c1 := (HS.out.below hb hb1 0 (by simp)).2
  have hF1 := hF.below hb1
  rw [show at' (r :: rs) 0 = r from rfl] at c0 c1
  simp only [Nat.zero_mul, Nat.add_zero] at c0 c1
  clear HC
  have h1s := hb1.size
  have gL : (len : Int) ≠ 0 := by omega
  by_cases hr1 : cap = 1
  · have hl1' : len = 1 := by omega
    subst hl1'
    subst hr1
    have hrs : rs = [] := List.eq_nil_of_length_eq_zero (by have := HL.out; omega)
    subst hrs
    go_wp2_with fail
    refine wp_loop_rounds 1 ?_
    rw [rounds_succ]
    go_wp2_with fail
    have bel1 : Below w.heap.size w ((w1.alloc (.cells #[.int .i64 r.1, .int .i64 r.2] 67)).alloc (.cells #[.int .i64 r.2, .int .i64 0, .int .i64 (r.2 - r.1)] 3)) := (hb1.alloc h1s _).alloc (by simp; omega) _
    have bel2 : Below w1.heap.size w1 ((w1.alloc (.cells #[.int .i64 r.1, .int .i64 r.2] 67)).alloc (.cells #[.int .i64 r.2, .int .i64 0, .int .i64 (r.2 - r.1)] 3)) := ((Below.refl _ w1).alloc (Nat.le_refl _) _).alloc (by simp) _
    have ow : OwnI ((w1.alloc (.cells #[.int .i64 r.1, .int .i64 r.2] 67)).alloc (.cells #[.int .i64 r.2, .int .i64 0, .int .i64 (r.2 - r.1)] 3)) (w1.heap.size + 1) (.slice (some ⟨w1.heap.size + 1, 0, none⟩) 3 3) (numsOf [r]) := by
      have := World.ownsRow_lit (base := w1.heap.size + 1) (e := 3) (size := 1) (w1.alloc (.cells #[.int .i64 r.1, .int .i64 r.2] 67)) #[.int .i64 r.2, .int .i64 0, .int .i64 (r.2 - r.1)] 3 (by simp) (by decide) rfl
      rw [World.size_alloc] at this
      exact this
    refine (all_own _ _ _ _ (hF1.below bel2) ow (by simp [numsOf]) (by have := numsOf_length HG.out; omega) (mays_nums HG.out)).mono ?_
    rintro e w2 ⟨rfl, hb2⟩
    have hB := bel1.trans (hb2.mono bel1.size)
    go_wp2_with fail
    go_ret2
    exact ⟨rfl, hB⟩
  · have hcz : ¬ cap = 1 := hr1
    go_wp2_with fail
    have bel1 : Below w.heap.size w ((w1.alloc (.cells #[.int .i64 r.1, .int .i64 r.2] 67)).alloc (.cells #[.int .i64 r.2, .int .i64 ((len : Int) - 1), .int .i64 (r.2 - r.1)] 3)) := (hb1.alloc h1s _).alloc (by simp; omega) _
    have bel2 : Below w1.heap.size w1 ((w1.alloc (.cells #[.int .i64 r.1, .int .i64 r.2] 67)).alloc (.cells #[.int .i64 r.2, .int .i64 ((len : Int) - 1), .int .i64 (r.2 - r.1)] 3)) := ((Below.refl _ w1).alloc (Nat.le_refl _) _).alloc (by simp) _
    have ow : OwnI ((w1.alloc (.cells #[.int .i64 r.1, .int .i64 r.2] 67)).alloc (.cells #[.int .i64 r.2, .int .i64 ((len : Int) - 1), .int .i64 (r.2 - r.1)] 3)) (w1.heap.size + 1) (.slice (some ⟨w1.heap.size + 1, 0, none⟩) 3 3) (part r rs 0) := by
      have := World.ownsRow_lit (base := w1.heap.size + 1) (e := 3) (size := 1) (w1.alloc (.cells #[.int .i64 r.1, .int .i64 r.2] 67)) #[.int .i64 r.2, .int .i64 ((len : Int) - 1), .int .i64 (r.2 - r.1)] 3 (by simp) (by decide) rfl
      rw [World.size_alloc] at this
      rw [part_zero, show ((rs.length : Nat) : Int) = (len : Int) - 1 by have := HL.out; omega]
      exact this
    have bx : Box2 ((w1.alloc (.cells #[.int .i64 r.1, .int .i64 r.2] 67)).alloc (.cells #[.int .i64 r.2, .int .i64 ((len : Int) - 1), .int .i64 (r.2 - r.1)] 3)) w1.heap.size (lst r.1 (rs.take 0)) r.2 := (Box2.new w1 r.1 r.2).alloc _
    have hsz : ((w1.alloc (.cells #[.int .i64 r.1, .int .i64 r.2] 67)).alloc (.cells #[.int .i64 r.2, .int .i64 ((len : Int) - 1), .int .i64 (r.2 - r.1)] 3)).heap.size = w1.heap.size + 2 := by simp
    generalize (w1.alloc (.cells #[.int .i64 r.1, .int .i64 r.2] 67)).alloc (.cells #[.int .i64 r.2, .int .i64 ((len : Int) - 1), .int .i64 (r.2 - r.1)] 3) = W0 at *
    clear c0 c1
    generalize hm : len - 1 = m
    have HM : Hid (rs.length = m) := by show _ = _; have := HL.out; omega
    have hml : m + 1 = len := by omega
    clear hm hz hl1 gL
    go_loopw [6, 35] (fun v i wr => ∃ (k : Nat) (ah : Int), k ≤ m ∧ i = .int .i64 k ∧ OwnI wr (w1.heap.size + 1) v (part r rs k) ∧ Box2 wr w1.heap.size (lst r.1 (rs.take k)) ah ∧ Below w.heap.size w wr ∧ Below w1.heap.size w1 wr) (fun _ i _ => m - (intOf i).toNat)
    case atStart => exact ⟨0, r.2, Nat.zero_le _, rfl, ow, bx, bel1, bel2⟩
    case round =>
      obtain ⟨k, ah, hk, rfl, hown, hbx, hB, hB1⟩ := hrel
      by_cases hlt : k < m
      · have g1 : (k : Int) < (m : Int) := by omega
        have hkr : k < rs.length := by have := HM.out; omega
        have cc := HS.out.below hb hB (k + 1) (by simp; omega)
        rw [show at' (r :: rs) (k + 1) = at' rs k by simp [at']] at cc
        have e0 : off + (k + 1) * 2 = off + 2 + k * 2 := by omega
        rw [e0] at cc
        obtain ⟨c0, c1⟩ := cc
        have HP : Hid (part r rs (k + 1) = part r rs k ++ [lst r.1 (rs.take k) - (at' rs k).2 - 2, (at' rs k).2 - (at' rs k).1]) := part_succ r rs k hkr
        have HQ : Hid (lst r.1 (rs.take (k + 1)) = (at' rs k).1) := by show _ = _; rw [take_at hkr, lst_snoc]
        have bd : 0 ≤ (at' rs k).1 ∧ (at' rs k).1 ≤ (at' rs k).2 ∧ (at' rs k).2 ≤ 1073741823 := by
          have hm := at_mem hkr
          have := HG.out.2.1 _ (List.mem_cons_of_mem _ hm)
          exact ⟨this.1, norm_le HG.out.2.2.2.2 _ hm, this.2⟩
        have bq : 0 ≤ lst r.1 (rs.take k) ∧ lst r.1 (rs.take k) ≤ 1073741823 := by
          rcases lst_mem (rs.take k) r.1 with h | ⟨s, hs, h⟩
          · rw [h]; omega
          · have hm := List.mem_of_mem_take hs
            have := HG.out.2.1 _ (List.mem_cons_of_mem _ hm)
            have := norm_le HG.out.2.2.2.2 _ hm
            omega
        have HN : Hid ((part r rs k).length = 3 + 2 * k) := part_length r rs k (by omega)
        clear hkr e0
        generalize lst r.1 (rs.take k) = q at *
        generalize hrr : at' rs k = x at *
        clear hrr
        obtain ⟨lo, hi⟩ := x
        simp only at c0 c1 HP HQ bd
        have d0 := hbx.c0
        have d1 := hbx.c1
        have hbr : b < wr.heap.size := Nat.lt_of_lt_of_le hb hB.size
        have hs1 := hB1.size
        have hlx := hbx.lt
        have own1 := (hown.alloc (.cells #[.int .i64 lo, .int .i64 hi] 67)).alloc (.cells #[.int .i64 (q - hi - 2), .int .i64 (hi - lo)] 3)
        have hlo := hown.lt
        have cs2 := cells_two (wr.alloc (.cells #[.int .i64 lo, .int .i64 hi] 67)) (q - hi - 2) (hi - lo)
        rw [World.size_alloc] at cs2
        have CS : Hid (∀ j u, (ivs [q - hi - 2, hi - lo])[j]? = some u → ((wr.alloc (.cells #[.int .i64 lo, .int .i64 hi] 67)).alloc (.cells #[.int .i64 (q - hi - 2), .int .i64 (hi - lo)] 3)).cell? ((⟨wr.heap.size + 1, 0, none⟩ : Addr).add j) = some u) := cs2
        clear cs2
        go_wp2_with (at_builtin; refine append_ints rfl (.tmp 39) (.tmp 51) rfl (w1.heap.size + 1) _ (part r rs k) rfl own1 ⟨wr.heap.size + 1, 0, none⟩ 2 2 [q - hi - 2, hi - lo] rfl rfl CS.out (by rw [HN.out]; simp; omega) (by simp; omega) ?_; intro v2 w2 hown2 hg2; have bx2 := ((hbx.alloc _).alloc _).kept hg2 (fun e => by have := (hlo _ e.symm).1; omega); have rb2 := ((Box2.new wr lo hi).alloc _).kept hg2 (fun e => by have := (hlo _ e.symm).2; omega); have z0 := bx2.c0; have z1 := bx2.c1; have z2 := bx2.f0; have z3 := bx2.f1; have y0 := rb2.c0; have y1 := rb2.c1)
        have hB2 : Below w.heap.size w w2 := ((hB.alloc hB.size _).alloc (by simp; have := hB.size; omega) _).grown hg2 (by simp; have := hB.size; omega) (fun j e => by have := (hlo j e).1; omega)
        have hB3 : Below w1.heap.size w1 w2 := ((hB1.alloc hB1.size _).alloc (by simp; omega) _).grown hg2 (by simp; omega) (fun j e => by have := (hlo j e).1; omega)
        have hov := hown2.lt
        have hne : v2.ownBlock ≠ some w1.heap.size := fun e => by have := (hov _ e).1; omega
        refine ⟨⟨k + 1, hi, by omega, by go_num, ?_, ?_, ?_, ?_⟩, by simp [intOf]; omega⟩
        · rw [HP.out]; exact ownsRow_setCell_other (ownsRow_setCell_other hown2 hne _) hne _
        · rw [HQ.out]; exact bx2.set lo hi
        · exact (hB2.setCell (p := ⟨w1.heap.size, 0, none⟩) h1s _).setCell (p := ⟨w1.heap.size, 1, none⟩) h1s _
        · exact (hB3.setCell (p := ⟨w1.heap.size, 0, none⟩) (Nat.le_refl _) _).setCell (p := ⟨w1.heap.size, 1, none⟩) (Nat.le_refl _) _
      · obtain rfl : k = m := by omega
        have hP : part r rs k = numsOf (r :: rs) := by rw [← HM.out]; exact part_all r rs
        rw [hP] at hown
        clear hP
        have HO : Hid (OwnI wr (w1.heap.size + 1) u6 (numsOf (r :: rs))) := hown
        obtain ⟨g, cp, rfl, _⟩ := hown.form (by simp [numsOf])
        clear hown
        go_wp2_with fail
        refine (all_own _ _ _ _ (hF1.below hB1) HO.out (by simp [numsOf]) (by have := numsOf_length HG.out; omega) (mays_nums HG.out)).mono ?_
        rintro e w2 ⟨rfl, hb2⟩
        have hB2 := hB.trans (hb2.mono hB.size)
        go_wp2_with fail
        go_ret2
        exact ⟨rfl, hB2⟩

/-- A slice's capacity is no less than its length. -/
def Fits (v : Value) : Prop := ∀ a l c, v = .slice a l c → l ≤ c
theorem print_ok (v : Value) (zs : List R) (w : World) (hF : V.Forms w) (hR : Row w v zs) (hf : Fits v) (hg : Good zs) (h0 : zs ≠ []) :
    Calls Tryd.prog 53 #[v] w fun e w' => e = .returned (.tuple #[.string (strOfNums (enc zs)), .nilIface]) ∧ Below w.heap.size w w' := by
  obtain ⟨ao, c, rfl, hl, hn, h⟩ := hR
  rcases h with h | ⟨b, off, rfl, hb, hc⟩
  · exact absurd h h0
  · cases zs with
    | nil => exact absurd rfl h0
    | cons r rs => exact print_some b off _ c r rs w hF rfl (hf _ _ _ rfl) hg hb hc
theorem fits_own {w : World} {base e size n : Nat} {v : Value} {xs : List Value} (h : w.ownsRow base e size v n xs) : Fits v := by
  rcases h.2 with ⟨rfl, _⟩ | ⟨g, cap, cur, rfl, hb, hg, hl, _⟩
  · intro a l c e; cases e; exact Nat.le_refl _
  · intro a l c e; cases e; exact hl
end Go.Proofs.YtoabfilliiopmaaDoor
