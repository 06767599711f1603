/- What the document's Take answers, and leaves. -/
import Derived.Test.YtipmaphgkfegmaaDoorI
namespace Go.Proofs.YtipmaphgkfegmaaDoor
open Go.RowKit Go.Lib Go.Sort
set_option linter.unusedVariables false
set_option linter.unusedSimpArgs false

/-- append onto a slice of the caller's own, as one step of a region that draws. -/
theorem step_append_own {P : Program} {ops : Array Oper} {o : Oper} {a : Act} {w : World} {K : Act → World → Prop} {Q : Exit → Act → World → Prop} {E : Prop}
    (hg : o.guard = none) (s x : Operand) (t : TypeId) (hop : o.op = Op.call { callee := Callee.builtin Builtin.append, args := #[s, x], argTypes := #[t, t] })
    (base : Nat) (e : TypeId) (i : TypeInfo) (z : Value) (size bytes : Nat) (h1 : P.underlying t = some (.slice e)) (h2 : P.info? e = some i) (h3 : i.zero = some z) (h4 : i.size = size) (h5 : i.bytes = bytes) (h6 : z.cells.size = size) (h7 : 0 < size)
    (v : Value) (n : Nat) (xs : List Value) (hs : a.eval s = v) (hown : w.ownsRow base e size v n xs)
    (ad : Addr) (m c : Nat) (news : List Value) (hx : a.eval x = .slice (some ad) m c) (hn : news.length = m * size) (hc : ∀ j u, news[j]? = some u → w.cell? (ad.add j) = some u) (h1c : ∀ u ∈ news, u.oneCell' = true)
    (b1 : n + m ≤ maxLen) (b2 : (n + m) * bytes ≤ 140737488355328) (hbase : base ≤ w.heap.size)
    (hK : ∀ v' w', w'.ownsRow base e size v' (n + m) (xs ++ news) → w.grownBy w' v.ownBlock → (v'.ownBlock = v.ownBlock ∨ v'.ownBlock = some w.heap.size) → K (a.put o.dst v') w') :
    if Region.wanted o (yielded ops a.tmps) = true then Oper.wp P o a w K Q else E := by
  have hw : Region.wanted o (yielded ops a.tmps) = true := by simp [Region.wanted, hg]
  rw [if_pos hw]
  obtain ⟨v', w', hrun, r1, r2, _, r4⟩ := run_append_own_at (P := P) w base t o.type e i z size bytes h1 h2 h3 h4 h5 h6 h7 v n xs hown ad m c news hn hc h1c b1 b2 hbase
  unfold Oper.wp
  simp [execOp, hop, resolve, invoke, builtin, hs, hx, hrun, Result.andThen]
  exact hK v' w' r1 r2 r4
theorem infoY : (Tryd.prog.info? 5).map (fun i => (i.zero, i.size, i.bytes)) = some (some (.int .u8 0), 1, 1) := by kernel_rfl
def bys (s : St) (k : Nat) : List Value := (List.range k).map fun i => Value.int .u8 (s.byt (s.tk + i))
theorem bys_next (s : St) (k : Nat) : bys s (k + 1) = bys s k ++ [.int .u8 (s.byt (s.tk + k))] := by simp [bys, List.range_succ]
theorem bys_take (s : St) (n : Int) : bys s (takeN s n) = (takeL s n).map (Value.int .u8) := by simp [bys, takeL]
theorem ownY_shape {w : World} {base : Nat} {v : Value} {n : Nat} {xs : List Value} (h : w.ownsRow base 5 1 v n xs) (hn : n ≠ 0) : ∃ g cap, v = .slice (some ⟨g, 0, none⟩) n cap := by
  rcases h.2 with ⟨rfl, h0⟩ | ⟨g, cap, cur, rfl, _⟩
  · exact absurd h0 hn
  · exact ⟨g, cap, rfl⟩
theorem cell_one_new (w : World) (y : Value) (t : TypeId) : ∀ j u, [y][j]? = some u → (w.alloc (.cells #[y] t)).cell? ((⟨w.heap.size, 0, none⟩ : Addr).add j) = some u := by
  intro j u hj
  match j, hj with
  | 0, hj => simp at hj; subst hj; simp [Addr.add]
  | j + 1, hj => simp at hj
/-- string(b), b the call's own, behind a store into another block. -/
theorem conv_own {wr : World} {base sb k c : Nat} {ao : Option Addr} {L : List Int} (hown : wr.ownsRow base 5 1 (.slice ao k c) k (L.map (Value.int .u8))) (hsb : sb < base) (u : Value) :
    (convert 53 9 (.slice ao k c)).run Tryd.prog (wr.setCell ⟨sb, 60, none⟩ u) = .ok (.string (strOfNums L)) (wr.setCell ⟨sb, 60, none⟩ u) := by
  have hl : L.length = k := by have := hown.1; simp at this; omega
  rcases hown.2 with ⟨e, h0⟩ | ⟨g, cap, cur, e, hb, hg, hr⟩
  · injection e with e1 e2 e3
    subst e1
    have : L = [] := List.eq_nil_of_length_eq_zero (by omega)
    subst this
    exact run_convert_bytes_nil _ 53 5 Tryd.underlying53 Tryd.underlying5 k c 9 Tryd.underlying9
  · injection e with e1 e2 e3
    subst e1
    refine run_convert_bytes_arg _ 53 5 Tryd.underlying53 Tryd.underlying5 g 0 k c L hl (fun i hi => ?_) 9 Tryd.underlying9
    have hi' : i < L.length := by omega
    have hc := hown.cells (g := g) rfl i (.int .u8 (L.getD i 0)) (by simp [hi'])
    rw [Addr.add_lit] at hc
    rw [World.cell?_setCell_other _ _ _ _ (by intro e'; injection e' with e' _ _; omega)]
    exact hc

set_option maxRecDepth 100000 in
set_option maxHeartbeats 2000000 in
theorem rtake_calls {w : World} {B sb : Nat} {s : St} (h : Ref w B sb s) (n : Int) (hn : 0 ≤ n) : Calls Tryd.prog 12 #[.pointer (some ⟨sb, 0, none⟩), .int .i64 n] w fun e w' => e = .returned (.string (strOfNums (takeL s n))) ∧ RTurned w w' B sb (takeS s n) := by
  have HR : Hid (Ref w B sb s) := h
  have hsb := h.lt
  have hq := rready_calls h
  have ht := h.inv.t
  have HV : Hid (∀ i, i < takeN s n → val s (s.tk + i) = s.byt (s.tk + i)) := by
    show ∀ i, _
    intro i hi
    exact val_yes (run_came _ _ _ _ (Nat.lt_of_lt_of_le hi (Nat.min_le_right _ _)))
  have HN : Hid (takeN s n = min n.toNat (rdy s)) := rfl
  have hle := takeN_le s n
  have hrl := rdy_le s
  clear h
  go_enter Tryd.func12, Tryd.ntmps12
  go_wp2_with fail
  refine hq.mono ?_
  rintro e w1 ⟨rfl, hb1⟩
  clear hq
  go_upto_if 12 with fail
  go_cut [5] (fun s5 wx => s5 = .int .i64 (takeN s n : Int) ∧ wx = w1)
  case first =>
    by_cases g : n < (rdy s : Int)
    · have HE : Hid (n = (takeN s n : Int)) := by show _ = _; rw [HN.out]; omega
      go_wp2_with fail
      go_meet
      exact ⟨by rw [← HE.out], rfl⟩
    · have HE : Hid ((rdy s : Int) = (takeN s n : Int)) := by show _ = _; rw [HN.out]; omega
      go_wp2_with fail
      go_meet
      exact ⟨by rw [HE.out], rfl⟩
  case rest =>
    obtain ⟨rfl, rfl⟩ := hcut
    clear HN hrl
    have HT : Hid (bys s (takeN s n) = (takeL s n).map (Value.int .u8)) := bys_take s n
    have HZ : Hid (∀ z, z = ((s.tk + takeN s n : Nat) : Int) → ∀ wx, Ref wx B sb s → Ref (wx.setCell ⟨sb, 60, none⟩ (.int .i64 z)) B sb (takeS s n)) := fun z hz wx hx => hx.take hz
    generalize takeN s n = m at *
    obtain ⟨i0, hi0, hz0, hz1, hz2⟩ := info_parts infoY
    go_wp2_with fail
    go_loopg [6, 7] m (fun gk s6 s7 wr => ∃ (k : Nat) (ao : Option Addr) (c : Nat), gk + k = m ∧ s6 = .slice ao k c ∧ s7 = .int .i64 k ∧ wr.ownsRow w.heap.size 5 1 (.slice ao k c) k (bys s k) ∧ Below w.heap.size w wr)
    case atStart => exact ⟨0, none, 0, rfl, rfl, rfl, World.ownsRow_nil _ _ _ _, hb1⟩
    case round =>
      clear hb1
      obtain ⟨k, ao, c, hk, rfl, rfl, hown, hB⟩ := hrel
      have HK : Hid (gk + k = m) := hk
      clear hk
      have hRr := HR.out.below hB
      have ct := hRr.ct
      by_cases g : (k : Int) < (m : Int)
      · have x0 := hRr.cb (s.tk + k) (by omega)
        rw [HV.out k (by omega)] at x0
        have hby := hRr.inv.b (s.tk + k)
        have hcv := conv_byte hby.1 hby.2
        have u1 := wrap_small ((s.tk : Int) + (k : Int)) (by omega) (by omega)
        have v0 : (0 : Int) ≤ (s.tk : Int) + (k : Int) := by omega
        have v1 : (s.tk : Int) + (k : Int) < 60 := by omega
        have v2 : ((s.tk : Int) + (k : Int)).toNat = s.tk + k := by omega
        have bd : Below wr.heap.size wr (wr.drew.alloc (.cells #[.int .u8 (s.byt (s.tk + k))] 5)) := (Below.refl wr.heap.size wr).drew.alloc (Nat.le_refl _) _
        have hrow := own_below hown bd
        have hB2 := hB.trans (bd.mono hB.size)
        have hle2 : w.heap.size ≤ (wr.drew.alloc (.cells #[.int .u8 (s.byt (s.tk + k))] 5)).heap.size := hB2.size
        have HE : Hid (bys s (k + 1) = bys s k ++ [.int .u8 (s.byt (s.tk + k))]) := bys_next s k
        clear hRr hby
        generalize s.byt (s.tk + k) = y at x0 hcv bd hrow hB2 hle2 HE
        go_wp2_with fail
        go_region_law (refine step_append_own rfl (.tmp 19) (.tmp 32) 53 rfl w.heap.size 5 i0 _ 1 1 Tryd.underlying53 hi0 hz0 hz1 hz2 rfl (by decide) (.slice ao k c) k (bys s k) (by simp [Act.eval, Act.put]) hrow ⟨wr.heap.size, 0, none⟩ 1 1 [.int .u8 y] (by simp [Act.eval, Act.put]) rfl (cell_one_new wr.drew _ _) (by intro u hu; simp at hu; subst hu; rfl) (by unfold maxLen; omega) (by omega) hle2 ?_; intro v' w3 ho3 hg3 hl3; obtain ⟨g3, cap3, rfl⟩ := ownY_shape ho3 (by omega))
        all_goals
          have hB3 := hB2.grown hg3 hle2 (fun k e => (hrow.lt k e).1)
          clear x0 hcv bd hrow hB2 hle2 hg3 hl3 hown ct
          go_wp2_with fail
          go_roundg (m - (k + 1))
          case measure => have := HK.out; omega
          case rel => exact ⟨k + 1, some ⟨g3, 0, none⟩, cap3, by have := HK.out; omega, rfl, by go_num, by rw [HE.out]; exact ho3, hB3⟩
      · have e : k = m := by have := HK.out; omega
        subst e
        rw [HT.out] at hown
        have u1 := wrap_small ((s.tk : Int) + (k : Int)) (by omega) (by omega)
        have hcv := conv_own hown hsb (.int .i64 ((s.tk : Int) + (k : Int)))
        have f0 := hRr.fz 60 (by omega)
        have hfin : RTurned w (wr.setCell ⟨sb, 60, none⟩ (.int .i64 ((s.tk : Int) + (k : Int)))) B sb (takeS s n) :=
          ⟨HZ.out _ (by omega) _ hRr, ((Off.of_below hB).trans ((Off.refl (fun j => j = sb) wr).setCell (a := ⟨sb, 60, none⟩) rfl _))⟩
        have HF : Hid (RTurned w (wr.setCell ⟨sb, 60, none⟩ (.int .i64 ((s.tk : Int) + (k : Int)))) B sb (takeS s n)) := hfin
        clear hfin hRr hown
        go_wp2_with fail
        go_ret
        exact ⟨rfl, HF.out⟩
end Go.Proofs.YtipmaphgkfegmaaDoor
