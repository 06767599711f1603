/- numberOf; the library's iterator over bytes four by four; numbersOf. -/
import Derived.Test.YtegelodkopommaaGreatDoorLC
import Derived.Test.YtegelodkopommaaGreatDoorGF
import Derived.RangeFuncBox
import Derived.RangeFuncLeaves
import Derived.RangeFuncNested
import Derived.Shelf.Abstract
import Derived.OwnWalkIn
import Derived.TacticsInMore
import Derived.LoopNIn
import Derived.LoopIn
import Derived.BigRegionIn
import Derived.Sort.QuietIn
namespace Go.Proofs.YtegelodkopommaaGreatDoor.Lo
open Go.RowKit Go.Shelf Go.Lib
attribute [local go_sem] Oper.semAt_some
set_option linter.unusedVariables false
set_option linter.unusedSimpArgs false
theorem or_nat (A B : Nat) (hA : A < 1099511627776) (hB : B < 256) : bits .or .i64 ((A * 256 : Nat) : Int) (B : Int) = ((A * 256 + B : Nat) : Int) := by
  show IntKind.i64.wrap ((BitVec.ofInt 64 ((A * 256 : Nat) : Int) ||| BitVec.ofInt 64 (B : Int)).toNat : Int) = _
  rw [BitVec.toNat_or, ofInt_u64 (A * 256) (by omega), ofInt_u64 B (by omega)]
  have h := Nat.two_pow_add_eq_or_of_lt (i := 8) (b := B) hB A
  rw [show A * 256 = 2 ^ 8 * A by omega, ← h, IntKind.wrap_i64]
  omega
theorem or_byte (a b : Int) (h1 : 0 ≤ a) (h2 : a < 1099511627776) (h3 : 0 ≤ b) (h4 : b < 256) : bits .or .i64 (a * 256) b = a * 256 + b := by
  obtain ⟨A, rfl⟩ := Int.eq_ofNat_of_zero_le h1
  obtain ⟨B, rfl⟩ := Int.eq_ofNat_of_zero_le h3
  have := or_nat A B (by omega) (by omega)
  simpa using this

def acc (bs : List Int) : Int := bs.foldl (fun a b => a * 256 + b) 0
theorem acc_snoc (bs : List Int) (b : Int) : acc (bs ++ [b]) = acc bs * 256 + b := by simp [acc]
theorem acc_bd : ∀ (k : Nat) (bs : List Int), (∀ b, b ∈ bs → 0 ≤ b ∧ b < 256) → bs.length = 4 → k ≤ 4 → 0 ≤ acc (bs.take k) ∧ acc (bs.take k) < 4294967296 := by
  intro k bs hb hl hk
  obtain ⟨b0, b1, b2, b3, rfl⟩ : ∃ b0 b1 b2 b3, bs = [b0, b1, b2, b3] := by
    match bs, hl with
    | [b0, b1, b2, b3], _ => exact ⟨b0, b1, b2, b3, rfl⟩
  have h0 := hb b0 (by simp)
  have h1 := hb b1 (by simp)
  have h2 := hb b2 (by simp)
  have h3 := hb b3 (by simp)
  rcases (show k = 0 ∨ k = 1 ∨ k = 2 ∨ k = 3 ∨ k = 4 by omega) with rfl | rfl | rfl | rfl | rfl <;> simp [acc] <;> omega
theorem acc_rec (n : Int) (h0 : 0 ≤ n) (h1 : n ≤ 1073741823) : acc (recF n) = n := by
  simp only [acc, recF, List.foldl_cons, List.foldl_nil]
  omega
theorem rec_bd (n : Int) : ∀ b, b ∈ recF n → 0 ≤ b ∧ b < 256 := by
  intro b hb
  simp [recF] at hb
  rcases hb with rfl | rfl | rfl | rfl <;> omega
set_option maxRecDepth 100000 in
set_option maxHeartbeats 2000000 in
theorem numberOf_calls (g off c : Nat) (bs : List Int) (w : World) (hl : bs.length = 4) (hb : ∀ b, b ∈ bs → 0 ≤ b ∧ b < 256) (hc : ∀ j, j < 4 → w.cell? ⟨g, off + j, none⟩ = some (.int .u8 (bs[j]?.getD 0))) :
    Calls Tryz.prog 50 #[.slice (some ⟨g, off, none⟩) 4 c] w fun e w' => e = .returned (.int .i64 (acc bs)) ∧ w' = w := by
  have HL : Hid (bs.length = 4) := hl
  have HB : Hid (∀ b, b ∈ bs → 0 ≤ b ∧ b < 256) := hb
  have HC : Hid (∀ j, j < 4 → w.cell? ⟨g, off + j, none⟩ = some (.int .u8 (bs[j]?.getD 0))) := hc
  clear hl hb hc
  go_enter Tryz.func50, Tryz.ntmps50
  go_wp2_with fail
  go_loopw [3, 8] (fun s i wr => ∃ k : Nat, k ≤ 4 ∧ i = .int .i64 (k : Int) ∧ s = .int .i64 (acc (bs.take k)) ∧ Hid (w = wr)) (fun _ i _ => 4 - (intOf i).toNat)
  case atStart => exact ⟨0, Nat.zero_le _, rfl, rfl, rfl⟩
  case round =>
    obtain ⟨k, hk, rfl, rfl, HW⟩ := hrel
    by_cases hlt : k < 4
    · have g1 : (k : Int) < 4 := by omega
      have hkl : k < bs.length := by have := HL.out; omega
      have c0 := HC.out k hlt
      rw [HW.out] at c0
      have hbd := acc_bd k bs HB.out HL.out (by omega)
      have hby : 0 ≤ bs[k]?.getD 0 ∧ bs[k]?.getD 0 < 256 := by
        rw [List.getElem?_eq_getElem hkl]
        exact HB.out _ (List.getElem_mem _)
      have HN : Hid (acc (bs.take (k + 1)) = acc (bs.take k) * 256 + bs[k]?.getD 0) := by
        show _ = _
        rw [List.take_succ_eq_append_getElem hkl, acc_snoc]
        simp [hkl]
      clear hkl
      generalize acc (bs.take k) = z at *
      generalize bs[k]?.getD 0 = y at *
      obtain ⟨z0, z1⟩ := hbd
      obtain ⟨y0, y1⟩ := hby
      have ho := or_byte z y z0 (by omega) y0 y1
      go_wp2_with fail
      exact ⟨⟨k + 1, by omega, by go_num, by rw [HN.out], HW⟩, by simp [intOf]; omega⟩
    · obtain rfl : k = 4 := by omega
      have e1 : bs.take 4 = bs := List.take_of_length_le (by have := HL.out; omega)
      rw [e1]
      have hw := HW.out
      clear HW
      go_wp2_with fail
      go_ret
      exact ⟨rfl, hw.symm⟩

/-- The iterator's two boxes: the slice, and by how many. -/
structure Hdr (v : Value) (Bs Bn : Nat) (W : World) : Prop where
  head : W.cell? ⟨Bs, 0, none⟩ = some v
  two : W.cell? ⟨Bn, 0, none⟩ = some (.int .i64 4)
def KpH (v : Value) (Bs Bn : Nat) (W W' : World) : Prop := Hdr v Bs Bn W → Hdr v Bs Bn W'
abbrev Ix (m : Nat) := { k : Nat // k < m }
theorem range_snoc (k : Nat) : List.range (k + 1) = List.range k ++ [k] := List.range_succ
theorem KpH.put {w : World} {v : Value} {Bs Bn : Nat} (W : World) (l : Nat) (o o' : Obj) (_ : w.heap.size ≤ l) (h : W.heap[l]? = some o) (hc : o.isCells = false) (_ : o.isWalk = false) : KpH v Bs Bn W (W.putObj l o') := fun hR =>
  ⟨Go.cell_kept hR.head (grownBy_putObj' W l o') (fun r e => by cases e; exact ⟨o, h, hc⟩), Go.cell_kept hR.two (grownBy_putObj' W l o') (fun r e => by cases e; exact ⟨o, h, hc⟩)⟩

set_option maxRecDepth 100000 in
set_option maxHeartbeats 2000000 in
theorem chunk1_in (n : Nat) (hn : 1 ≤ n) (l b off m L cap Bs Bn : Nat) (ao : Option Addr) (hao : 0 < m → ao = some ⟨b, off, none⟩) (hL : Hid (L = 4 * m)) (hm : m ≤ 100000) (hcap : L ≤ cap) (J Jx : List (Ix m) → World → Prop)
    (hY : ∀ pre x W, J pre W → pre.length < m → YieldAt Fence.wide (n - 1) Tryz.prog l #[.slice (some ⟨b, off + 4 * x.1, none⟩) 4 4] W fun e W' =>
      (e = .returned (.bool true) ∧ J (pre ++ [x]) W' ∧ KpH (.slice ao L cap) Bs Bn W W') ∨ (e = .returned (.bool false) ∧ Jx (pre ++ [x]) W'))
    (W : World) (hR : Hdr (.slice ao L cap) Bs Bn W) (h0 : J [] W) (hJd : ∀ pre W q, J pre W → J pre (W.drewN q)) :
    CallsIn Fence.wide n Tryz.prog 77 #[.func (.yield l) #[] #[], .pointer (some ⟨Bs, 0, none⟩), .pointer (some ⟨Bn, 0, none⟩)] W fun e W' => (∃ v, e = .returned v) ∧
      ((∃ ys, ys.map (fun x => x.1) = List.range m ∧ J ys W') ∨ (∃ pre, pre.map (fun x => x.1) = List.range pre.length ∧ Jx pre W')) := by
  refine callsIn_of_wp Tryz.func77 rfl trivial ?_ rfl
  simp only [Tryz.ntmps77, List.size_toArray, List.length_cons, List.length_nil, Nat.reduceAdd, Nat.reduceSub, Array.replicate_succ, Array.replicate_zero, List.push_toArray, List.append_toArray, List.nil_append, List.cons_append]
  have hh := hR.head
  have h2 := hR.two
  gi_wp2
  gi_loopw [4] (fun i wr => ∃ k j : Nat, k ≤ m ∧ j = 4 * k ∧ i = .int .i64 (j : Int) ∧ (∃ ys, ys.map (fun x => x.1) = List.range k ∧ J ys wr) ∧ Hdr (.slice ao L cap) Bs Bn wr)
    (fun i _ => L - (intOf i).toNat)
  case atStart => exact ⟨0, 0, Nat.zero_le _, rfl, rfl, ⟨[], rfl, h0⟩, hR⟩
  case round =>
    obtain ⟨k, j, hk, hj, rfl, ⟨ys, hys, hJs⟩, hRr⟩ := hrel
    have hyl : ys.length = k := by have := congrArg List.length hys; simpa using this
    have hhr := hRr.head
    have h2r := hRr.two
    have HY : Hid (ys.map (fun x => x.1) = List.range k) := hys
    clear hys
    by_cases hlt : k < m
    · have hL' := hL.out
      have e0 := hao (by omega)
      subst e0
      have g1 : (j : Int) < (L : Int) := by omega
      have gc : ¬ cap = j := by omega
      have gl : j + 4 ≤ L := by omega
      have hjb : j ≤ 400000 := by omega
      have hmin : min (4 : Int) ((L - j : Nat) : Int) = 4 := by omega
      have HJ : Hid (j = 4 * k) := hj
      have HE : Hid (∀ W, J ys W → YieldAt Fence.wide (n - 1) Tryz.prog l #[.slice (some ⟨b, off + j, none⟩) 4 4] W fun e W' =>
          (e = .returned (.bool true) ∧ J (ys ++ [⟨k, hlt⟩]) W' ∧ KpH (.slice (some ⟨b, off, none⟩) L cap) Bs Bn W W') ∨ (e = .returned (.bool false) ∧ Jx (ys ++ [⟨k, hlt⟩]) W')) := by
        show ∀ W, _
        intro W hW
        have := hY ys ⟨k, hlt⟩ W hW (by omega)
        rw [← hj] at this
        exact this
      have HYL : Hid (ys.length = k) := hyl
      clear hj hL' hY hR h0 hh h2 hyl hao
      gi_wp2
      gi_quiet (fail)
      obtain ⟨fn, tmps, assign, body, hy, hR'⟩ := HE.out (wr.drewN nq) (hJd _ _ nq hJs)
      have hw2 : wrap64 ((j : Int) + 4) = (j : Int) + 4 := by unfold wrap64; omega
      have hw3 : ((j : Int) + 4).toNat - j = 4 := by omega
      have hw4 : ((j : Int) + 4).toNat = j + 4 := by omega
      have g3 : (j : Int) + 4 ≤ (cap : Int) := by omega
      have g4 : ¬ j + 4 = j := by omega
      gi_wp2
      refine hR'.mono ?_
      rintro e W3 (⟨rfl, hJ3, hk3⟩ | ⟨rfl, hJx3⟩)
      · have hH3 : Hdr (.slice (some ⟨b, off, none⟩) L cap) Bs Bn W3 := hk3 ⟨hRr.head, hRr.two⟩
        have h23 := hH3.two
        gi_wp2
        go_roundw
        case rel => exact ⟨k + 1, j + 4, by omega, by have := HJ.out; omega, by simp, ⟨_, by rw [List.map_append, HY.out, range_snoc]; rfl, hJ3⟩, hH3⟩
        case measure => simp [intOf]; omega
      · gi_wp2
        refine bodyPost_ret (results_none rfl _ _ _) rfl ?_
        exact ⟨⟨_, rfl⟩, .inr ⟨_, by rw [List.map_append, HY.out, List.length_append, HYL.out]; exact (range_snoc k).symm, hJx3⟩⟩
    · obtain rfl : k = m := by omega
      have g1 : ¬ (j : Int) < (L : Int) := by have := hL.out; omega
      clear hj
      gi_wp2
      go_end0
      exact ⟨⟨_, rfl⟩, .inl ⟨_, HY.out, hJs⟩⟩

set_option maxHeartbeats 1000000 in
theorem chunk_in (n : Nat) (a : Option Addr) (len cap : Nat) (w : World) :
    CallsIn Fence.wide n Tryz.prog 49 #[.slice a len cap, .int .i64 4] w fun e w' => e = .returned (.func (.func 77) #[] #[.pointer (some ⟨w.heap.size, 0, none⟩), .pointer (some ⟨w.heap.size + 1, 0, none⟩)]) ∧ w' = (w.alloc (.cells #[.slice a len cap] 50)).alloc (.cells #[.int .i64 4] 3) := by
  refine callsIn_of_wp Tryz.func49 rfl trivial ?_ rfl
  simp only [Tryz.ntmps49, List.size_toArray, List.length_cons, List.length_nil, Nat.reduceAdd, Nat.reduceSub, Array.replicate_succ, Array.replicate_zero, List.push_toArray, List.append_toArray, List.nil_append, List.cons_append]
  gi_wp2
  go_ret
  exact ⟨rfl, rfl⟩
theorem chunk_stops (n : Nat) (hn : 1 ≤ n) (b off m L cap Bs Bn : Nat) (ao : Option Addr) (hao : 0 < m → ao = some ⟨b, off, none⟩) (hL : L = 4 * m) (hm : m ≤ 100000) (hcap : L ≤ cap) (w : World) (hBs : Bs < w.heap.size) (hBn : Bn < w.heap.size) (hR : Hdr (.slice ao L cap) Bs Bn w) :
    SeqStopsK Fence.wide n Tryz.prog 77 #[.pointer (some ⟨Bs, 0, none⟩), .pointer (some ⟨Bn, 0, none⟩)] (fun x : Ix m => #[.slice (some ⟨b, off + 4 * x.1, none⟩) 4 4]) (KpH (.slice ao L cap) Bs Bn)
      (fun ys => ys.map (fun x => x.1) = List.range m) (fun pre => pre.map (fun x => x.1) = List.range pre.length) m w := fun l J Jx W hW hJ _ hY h0 =>
  chunk1_in n hn l b off m L cap Bs Bn ao hao hL hm hcap J Jx hY W ⟨(hW.cell (p := ⟨Bs, 0, none⟩) hBs).trans hR.head, (hW.cell (p := ⟨Bn, 0, none⟩) hBn).trans hR.two⟩ h0
    (fun pre W' q h => hJ pre W' (W'.drewN q) none h ⟨rfl, rfl, rfl, Nat.le_refl _, fun _ _ _ => rfl⟩ (fun r e => by cases e))
end Go.Proofs.YtegelodkopommaaGreatDoor.Lo
