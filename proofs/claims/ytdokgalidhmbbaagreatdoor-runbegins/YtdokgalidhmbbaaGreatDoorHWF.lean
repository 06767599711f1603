/- What the laws of package run need. -/
import Derived.Test.YtdokgalidhmbbaaGreatDoorHUC
import Derived.Test.YtdokgalidhmbbaaGreatDoorHWQ
set_option linter.unusedVariables false
set_option linter.unusedSimpArgs false
set_option maxRecDepth 100000
set_option maxHeartbeats 8000000
namespace Go.Proofs.YtdokgalidhmbbaaGreatDoor
namespace Rn
open Go.RowKit

theorem Dk.off {K : Nat → Prop} {w w' : World} {bv : Value} {d tb mb : Nat} (h : Dk w bv d tb mb) (ho : Off K w w') (hK : ∀ k, K k → 18 ≤ k) (hd : ¬ K d) (hm : ¬ K mb) : Dk w' bv d tb mb := by
  have hb : Below 18 w w' := ho.below hK h.env.low
  refine ⟨h.env.below hb (Nat.le_refl _), ?_, (ho.block _ h.d_lt hd).trans h.dk, own_heap h.mp (ho.block _ h.mb_lt hm)⟩
  obtain ⟨m, e⟩ := h.mx
  exact ⟨m, (hb.cell (p := ⟨2, 0, none⟩) (show 2 < 18 by omega)).trans e⟩
/-- The desk and its Talk; w0: when Run began. -/
structure Ds (w0 w : World) (bv : Value) (d tb mb : Nat) (u : Tv) (s : Tt) : Prop where
  dk : Dk w bv d tb mb
  tk : TO w w0.heap.size tb u s
  nd : ¬ OwnT tb u d
  nm : ¬ OwnT tb u mb
  bel : Below w0.heap.size w0 w
  fm : V.Forms w0 ∧ Cnts w0
  low : 18 ≤ w0.heap.size
/-- The Talk turned, all else as it was. -/
def DTurn (w0 w w' : World) (bv : Value) (d tb mb : Nat) (u : Tv) (s : Tt) : Prop :=
  ∃ u', Ds w0 w' bv d tb mb u' s ∧ Off (OwnT tb u) w w' ∧ ∀ k, OwnT tb u' k → OwnT tb u k ∨ w.heap.size ≤ k
section
variable {w0 w w' w2 : World} {bv : Value} {d tb mb : Nat} {u : Tv} {s s' : Tt}
theorem Ds.own (h : Ds w0 w bv d tb mb u s) {k : Nat} (hk : OwnT tb u k) : 18 ≤ k ∧ w0.heap.size ≤ k := by
  have := (h.tk.own_lt hk).1
  have := h.low
  omega
theorem Ds.turn (h : Ds w0 w bv d tb mb u s) (ht : TTurn w w' w0.heap.size tb u s') : DTurn w0 w w' bv d tb mb u s' := by
  obtain ⟨u', o, f, k⟩ := ht
  have hl := h.dk.d_lt
  have hm := h.dk.mb_lt
  refine ⟨u', ⟨h.dk.off f (fun j hj => (h.own hj).1) h.nd h.nm, o, fun e => ?_, fun e => ?_, ?_, h.fm, h.low⟩, f, k⟩
  · rcases k _ e with e | e
    · exact h.nd e
    · omega
  · rcases k _ e with e | e
    · exact h.nm e
    · omega
  · exact h.bel.trans (f.below (fun j hj => (h.own hj).2) h.bel.size)
theorem Ds.below (h : Ds w0 w bv d tb mb u s) (hb : Below w.heap.size w w') : Ds w0 w' bv d tb mb u s :=
  ⟨h.dk.below hb, h.tk.below hb, h.nd, h.nm, h.bel.trans (hb.mono h.bel.size), h.fm, h.low⟩
theorem Ds.same (h : Ds w0 w bv d tb mb u s) (hb : Below w.heap.size w w') : DTurn w0 w w' bv d tb mb u s := ⟨u, h.below hb, Off.of_below hb, fun _ hk => .inl hk⟩
theorem DTurn.trans {s1 : Tt} {u1 : Tv} (h1 : Ds w0 w' bv d tb mb u1 s1) (ho : Off (OwnT tb u) w w') (hk : ∀ k, OwnT tb u1 k → OwnT tb u k ∨ w.heap.size ≤ k) (h2 : DTurn w0 w' w2 bv d tb mb u1 s') : DTurn w0 w w2 bv d tb mb u s' := by
  obtain ⟨u2, o2, f2, k2⟩ := h2
  refine ⟨u2, o2, ?_, fun k h => ?_⟩
  · refine ⟨f2.os.trans ho.os, f2.tape.trans ho.tape, f2.output.trans ho.output, Nat.le_trans ho.size f2.size, fun k hl hn => ?_⟩
    rw [f2.block k (Nat.lt_of_lt_of_le hl ho.size) (fun e => ?_), ho.block k hl hn]
    rcases hk k e with h | h
    · exact hn h
    · omega
  · rcases k2 k h with h | h
    · exact hk k h
    · exact .inr (Nat.le_trans ho.size h)
theorem DTurn.pre (hb : Below w.heap.size w w') (h : Ds w0 w bv d tb mb u s) (h2 : DTurn w0 w' w2 bv d tb mb u s') : DTurn w0 w w2 bv d tb mb u s' :=
  DTurn.trans (h.below hb) (Off.of_below hb) (fun _ hk => .inl hk) h2
theorem Ds.tbc (h : Ds w0 w bv d tb mb u s) : w.cell? ⟨d, 0, none⟩ = some (.pointer (some ⟨tb, 0, none⟩)) := by rw [Lib.cell_of_heap h.dk.dk]; rfl
end
/-- The order's box. -/
structure Bx4 (w : World) (b : Nat) (x0 x1 x2 x3 : Value) : Prop where
  c0 : w.cell? ⟨b, 0, none⟩ = some x0
  c1 : w.cell? ⟨b, 1, none⟩ = some x1
  c2 : w.cell? ⟨b, 2, none⟩ = some x2
  c3 : w.cell? ⟨b, 3, none⟩ = some x3
theorem Bx4.new (w : World) (x0 x1 x2 x3 : Value) : Bx4 (w.alloc (.cells #[x0, x1, x2, x3] 117)).drew w.heap.size x0 x1 x2 x3 := by
  have e : (w.alloc (.cells #[x0, x1, x2, x3] 117)).heap[w.heap.size]? = some (.cells #[x0, x1, x2, x3] 117) := heap_new _ _
  obtain ⟨c0, c1, c2, c3⟩ := four_at e
  exact ⟨c0, c1, c2, c3⟩
set_option maxRecDepth 100000 in
set_option maxHeartbeats 4000000 in
theorem call_send {w0 w : World} {bv : Value} {d tb mb : Nat} {u : Tv} {s : Tt} (h : Ds w0 w bv d tb mb u s) (x y : Int) (wd : ByteArray) (hm : Lk.endB x = true → makeF (s.who x) = 0) : Calls Tryz.prog 51 #[.pointer (some ⟨d, 0, none⟩), .agg #[.string ⟨#[115, 101, 110, 100]⟩, .int .i64 x, .int .i64 y, .string wd]] w fun e w' => e = .returned (.tuple #[.string ⟨#[111, 107]⟩, errV (tSendF s x)]) ∧ DTurn w0 w w' bv d tb mb u (tSendS s x) := by
  have hb : Below w.heap.size w (w.alloc (.cells #[.string ⟨#[115, 101, 110, 100]⟩, .int .i64 x, .int .i64 y, .string wd] 117)).drew := ((Below.refl _ w).alloc (Nat.le_refl _) _).drew
  obtain ⟨b0, b1, b2, b3⟩ := Bx4.new w (.string ⟨#[115, 101, 110, 100]⟩) (.int .i64 x) (.int .i64 y) (.string wd)
  have h1 := h.below hb
  have hd := h1.tbc
  have HT : Hid (∀ w2 s2, DTurn w0 (w.alloc (.cells #[.string ⟨#[115, 101, 110, 100]⟩, .int .i64 x, .int .i64 y, .string wd] 117)).drew w2 bv d tb mb u s2 → DTurn w0 w w2 bv d tb mb u s2) := fun w2 s2 => DTurn.pre hb h
  have HW := tsend_calls h1.tk x hm (h1.fm.1.below h1.bel) (h1.fm.2.below h1.bel)
  have hT2 : Hid (∀ w2, TTurn ((w.alloc (.cells #[.string ⟨#[115, 101, 110, 100]⟩, .int .i64 x, .int .i64 y, .string wd] 117)).drew) w2 w0.heap.size tb u (tSendS s x) → DTurn w0 ((w.alloc (.cells #[.string ⟨#[115, 101, 110, 100]⟩, .int .i64 x, .int .i64 y, .string wd] 117)).drew) w2 bv d tb mb u (tSendS s x)) := fun w2 => h1.turn
  generalize errV (tSendF s x) = er at HW ⊢
  go_enter Tryz.func51, Tryz.ntmps51
  go_wp2
  go_region
  all_goals generalize hW : (w.alloc (.cells #[.string ⟨#[115, 101, 110, 100]⟩, .int .i64 x, .int .i64 y, .string wd] 117)).drew = W at *
  all_goals clear h1 h hb
  all_goals go_wp2_with (go_at_call 74; refine HW.mono ?_; rintro e w2 ⟨rfl, ht⟩)
  all_goals go_wp2
  all_goals go_ret2
  all_goals exact ⟨rfl, HT.out _ _ (hT2.out _ ht)⟩
set_option maxRecDepth 100000 in
set_option maxHeartbeats 4000000 in
theorem call_come {w0 w : World} {bv : Value} {d tb mb : Nat} {u : Tv} {s : Tt} (h : Ds w0 w bv d tb mb u s) (x y : Int) (wd : ByteArray) : Calls Tryz.prog 51 #[.pointer (some ⟨d, 0, none⟩), .agg #[.string ⟨#[99, 111, 109, 101]⟩, .int .i64 x, .int .i64 y, .string wd]] w fun e w' => e = .returned (.tuple #[.string ⟨#[111, 107]⟩, errV (tComeF s x)]) ∧ DTurn w0 w w' bv d tb mb u (tComeS s x) := by
  have hb : Below w.heap.size w (w.alloc (.cells #[.string ⟨#[99, 111, 109, 101]⟩, .int .i64 x, .int .i64 y, .string wd] 117)).drew := ((Below.refl _ w).alloc (Nat.le_refl _) _).drew
  obtain ⟨b0, b1, b2, b3⟩ := Bx4.new w (.string ⟨#[99, 111, 109, 101]⟩) (.int .i64 x) (.int .i64 y) (.string wd)
  have h1 := h.below hb
  have hd := h1.tbc
  have HT : Hid (∀ w2 s2, DTurn w0 (w.alloc (.cells #[.string ⟨#[99, 111, 109, 101]⟩, .int .i64 x, .int .i64 y, .string wd] 117)).drew w2 bv d tb mb u s2 → DTurn w0 w w2 bv d tb mb u s2) := fun w2 s2 => DTurn.pre hb h
  have HW := tcome_calls h1.tk h1.fm h1.bel x
  have hT2 : Hid (∀ w2, TTurn ((w.alloc (.cells #[.string ⟨#[99, 111, 109, 101]⟩, .int .i64 x, .int .i64 y, .string wd] 117)).drew) w2 w0.heap.size tb u (tComeS s x) → DTurn w0 ((w.alloc (.cells #[.string ⟨#[99, 111, 109, 101]⟩, .int .i64 x, .int .i64 y, .string wd] 117)).drew) w2 bv d tb mb u (tComeS s x)) := fun w2 => h1.turn
  generalize errV (tComeF s x) = er at HW ⊢
  go_enter Tryz.func51, Tryz.ntmps51
  go_wp2
  go_region
  all_goals generalize hW : (w.alloc (.cells #[.string ⟨#[99, 111, 109, 101]⟩, .int .i64 x, .int .i64 y, .string wd] 117)).drew = W at *
  all_goals clear h1 h hb
  all_goals go_wp2_with (go_at_call 75; refine HW.mono ?_; rintro e w2 ⟨rfl, ht⟩)
  all_goals go_wp2
  all_goals go_ret2
  all_goals exact ⟨rfl, HT.out _ _ (hT2.out _ ht)⟩
set_option maxRecDepth 100000 in
set_option maxHeartbeats 4000000 in
theorem call_lose {w0 w : World} {bv : Value} {d tb mb : Nat} {u : Tv} {s : Tt} (h : Ds w0 w bv d tb mb u s) (x y : Int) (wd : ByteArray) : Calls Tryz.prog 51 #[.pointer (some ⟨d, 0, none⟩), .agg #[.string ⟨#[108, 111, 115, 101]⟩, .int .i64 x, .int .i64 y, .string wd]] w fun e w' => e = .returned (.tuple #[.string ⟨#[111, 107]⟩, errV (Lk.giveF s.ls x)]) ∧ DTurn w0 w w' bv d tb mb u (tLoseS s x) := by
  have hb : Below w.heap.size w (w.alloc (.cells #[.string ⟨#[108, 111, 115, 101]⟩, .int .i64 x, .int .i64 y, .string wd] 117)).drew := ((Below.refl _ w).alloc (Nat.le_refl _) _).drew
  obtain ⟨b0, b1, b2, b3⟩ := Bx4.new w (.string ⟨#[108, 111, 115, 101]⟩) (.int .i64 x) (.int .i64 y) (.string wd)
  have h1 := h.below hb
  have hd := h1.tbc
  have HT : Hid (∀ w2 s2, DTurn w0 (w.alloc (.cells #[.string ⟨#[108, 111, 115, 101]⟩, .int .i64 x, .int .i64 y, .string wd] 117)).drew w2 bv d tb mb u s2 → DTurn w0 w w2 bv d tb mb u s2) := fun w2 s2 => DTurn.pre hb h
  have HW := tlose_calls h1.tk x
  have hT2 : Hid (∀ w2, TTurn ((w.alloc (.cells #[.string ⟨#[108, 111, 115, 101]⟩, .int .i64 x, .int .i64 y, .string wd] 117)).drew) w2 w0.heap.size tb u (tLoseS s x) → DTurn w0 ((w.alloc (.cells #[.string ⟨#[108, 111, 115, 101]⟩, .int .i64 x, .int .i64 y, .string wd] 117)).drew) w2 bv d tb mb u (tLoseS s x)) := fun w2 => h1.turn
  generalize errV (Lk.giveF s.ls x) = er at HW ⊢
  go_enter Tryz.func51, Tryz.ntmps51
  go_wp2
  go_region
  all_goals generalize hW : (w.alloc (.cells #[.string ⟨#[108, 111, 115, 101]⟩, .int .i64 x, .int .i64 y, .string wd] 117)).drew = W at *
  all_goals clear h1 h hb
  all_goals go_wp2_with (go_at_call 76; refine HW.mono ?_; rintro e w2 ⟨rfl, ht⟩)
  all_goals go_wp2
  all_goals go_ret2
  all_goals exact ⟨rfl, HT.out _ _ (hT2.out _ ht)⟩
set_option maxRecDepth 100000 in
set_option maxHeartbeats 4000000 in
theorem call_twice {w0 w : World} {bv : Value} {d tb mb : Nat} {u : Tv} {s : Tt} (h : Ds w0 w bv d tb mb u s) (x y : Int) (wd : ByteArray) : Calls Tryz.prog 51 #[.pointer (some ⟨d, 0, none⟩), .agg #[.string ⟨#[116, 119, 105, 99, 101]⟩, .int .i64 x, .int .i64 y, .string wd]] w fun e w' => e = .returned (.tuple #[.string ⟨#[111, 107]⟩, errV (Lk.twF s.ls x)]) ∧ DTurn w0 w w' bv d tb mb u (tTwiceS s x) := by
  have hb : Below w.heap.size w (w.alloc (.cells #[.string ⟨#[116, 119, 105, 99, 101]⟩, .int .i64 x, .int .i64 y, .string wd] 117)).drew := ((Below.refl _ w).alloc (Nat.le_refl _) _).drew
  obtain ⟨b0, b1, b2, b3⟩ := Bx4.new w (.string ⟨#[116, 119, 105, 99, 101]⟩) (.int .i64 x) (.int .i64 y) (.string wd)
  have h1 := h.below hb
  have hd := h1.tbc
  have HT : Hid (∀ w2 s2, DTurn w0 (w.alloc (.cells #[.string ⟨#[116, 119, 105, 99, 101]⟩, .int .i64 x, .int .i64 y, .string wd] 117)).drew w2 bv d tb mb u s2 → DTurn w0 w w2 bv d tb mb u s2) := fun w2 s2 => DTurn.pre hb h
  have HW := ttwice_calls h1.tk x
  have hT2 : Hid (∀ w2, TTurn ((w.alloc (.cells #[.string ⟨#[116, 119, 105, 99, 101]⟩, .int .i64 x, .int .i64 y, .string wd] 117)).drew) w2 w0.heap.size tb u (tTwiceS s x) → DTurn w0 ((w.alloc (.cells #[.string ⟨#[116, 119, 105, 99, 101]⟩, .int .i64 x, .int .i64 y, .string wd] 117)).drew) w2 bv d tb mb u (tTwiceS s x)) := fun w2 => h1.turn
  generalize errV (Lk.twF s.ls x) = er at HW ⊢
  go_enter Tryz.func51, Tryz.ntmps51
  go_wp2
  go_region
  all_goals generalize hW : (w.alloc (.cells #[.string ⟨#[116, 119, 105, 99, 101]⟩, .int .i64 x, .int .i64 y, .string wd] 117)).drew = W at *
  all_goals clear h1 h hb
  all_goals go_wp2_with (go_at_call 77; refine HW.mono ?_; rintro e w2 ⟨rfl, ht⟩)
  all_goals go_wp2
  all_goals go_ret2
  all_goals exact ⟨rfl, HT.out _ _ (hT2.out _ ht)⟩
end Rn
end Go.Proofs.YtdokgalidhmbbaaGreatDoor
namespace Go.Proofs.YtdokgalidhmbbaaGreatDoor
namespace Rn
open Go.RowKit

theorem infoS : (Tryz.prog.info? 9).map (fun i => (i.zero, i.size, i.bytes)) = some (some (.string ⟨#[]⟩), 1, 16) := by kernel_rfl
/-- The number i of a list, as a text. -/
def dgs (l : List Int) : List ByteArray := l.map fun i => str (digF i.toNat)
theorem dgs_next {l : List Int} {k : Nat} (h : k < l.length) : (dgs (l.take (k + 1))).map Value.string = (dgs (l.take k)).map Value.string ++ [.string (str (digF (l[k]?.getD 0).toNat))] := by
  rw [List.take_add_one, List.getElem?_eq_getElem h]
  unfold dgs
  rw [List.map_append, List.map_append]
  rfl
theorem dgs_list (l : List Int) : (dgs l).map (·.data.toList) = l.map fun i => digF i.toNat := by
  unfold dgs
  rw [List.map_map]
  exact List.map_congr_left fun i _ => str_list _
theorem join_len (l : List Int) (hl : l.length ≤ 4) : (Lib.join (l.map fun i => digF i.toNat) [32]).length ≤ 100 := by
  have hd : ∀ i : Int, (digF i.toNat).length ≤ 4 := fun i => dig_len _
  match l, hl with
  | [], _ => exact Nat.zero_le _
  | [a], _ =>
    have := hd a
    simp [Lib.join, List.intercalate]; omega
  | [a, b], _ =>
    have := hd a
    have := hd b
    simp [Lib.join, List.intercalate]; omega
  | [a, b, c], _ =>
    have := hd a
    have := hd b
    have := hd c
    simp [Lib.join, List.intercalate]; omega
  | [a, b, c, d], _ =>
    have := hd a
    have := hd b
    have := hd c
    have := hd d
    simp [Lib.join, List.intercalate]; omega
  | _ :: _ :: _ :: _ :: _ :: _, h => simp at h
set_option maxRecDepth 100000 in
set_option maxHeartbeats 4000000 in
theorem dec_calls (l : List Int) (hl : l.length ≤ 4) (hb : ∀ z ∈ l, 0 ≤ z ∧ z < 256) {w : World} {bv : Value} (h : Env w bv) :
    Calls Tryz.prog 82 #[.string (strOfNums l)] w fun e w' => e = .returned (.string (str (Lib.join (l.map fun i => digF i.toNat) [32]))) ∧ Below w.heap.size w w' := by
  obtain ⟨i0, hi, hz0, hz1, hz2⟩ := info_parts infoS
  have hsz : (strOfNums l).size = l.length := strOfNums_size l
  have hix : ∀ (k : Nat), k < l.length → ∀ W, (Instr.index 9 (.string (strOfNums l)) (.int .i64 (k : Int))).run Tryz.prog W = .ok (.int .u8 (l[k]?.getD 0)) W := fun k hk W => by
    rw [Sx.index_at (by omega) W]
    have e : Sx.bat (strOfNums l) k = l[k]?.getD 0 := by
      have h2 := hb l[k] (List.getElem_mem hk)
      have h3 : (strOfNums l).data[k]? = some (UInt8.ofNat l[k].toNat) := by
        rw [← Array.getElem?_toList, strOfNums_data]
        simp [List.getElem?_eq_getElem hk]
      unfold Sx.bat
      rw [h3, List.getElem?_eq_getElem hk]
      simp only [Option.getD_some]
      rw [UInt8.toNat_ofNat']
      omega
    rw [e]
  have HB : Hid (∀ z ∈ l, 0 ≤ z ∧ z < 256) := hb
  have HE : Hid (Env w bv) := h
  clear hb h
  generalize strOfNums l = s at *
  go_enter Tryz.func82, Tryz.ntmps82
  go_wp2_with fail
  go_loopw [3, 7] (fun v i wr => ∃ k : Nat, k ≤ l.length ∧ i = .int .i64 k ∧ wr.ownsRow w.heap.size 9 1 v k ((dgs (l.take k)).map Value.string) ∧ Below w.heap.size w wr) (fun _ i _ => l.length - (intOf i).toNat)
  case atStart => exact ⟨0, Nat.zero_le _, rfl, World.ownsRow_nil _ _ _ _, Below.refl _ _⟩
  case round =>
    obtain ⟨k, hk, rfl, hown, hB⟩ := hrel
    by_cases hlt : k < l.length
    · have hi1 := hix k hlt
      have hz := HB.out (l[k]?.getD 0) (by rw [List.getElem?_eq_getElem hlt]; exact List.getElem_mem hlt)
      have hnx : Hid _ := dgs_next hlt
      have HI := itoa_calls (l[k]?.getD 0) hz.1 (by omega) (HE.out.below hB HE.out.low)
      have hdg : Hid (Lib.itoa (l[k]?.getD 0) = digF (l[k]?.getD 0).toNat) := by
        have := itoa_dig (l[k]?.getD 0).toNat (by omega)
        rwa [Int.toNat_of_nonneg hz.1] at this
      generalize l[k]?.getD 0 = z at *
      obtain ⟨hz0', hz1'⟩ := hz
      have g1 : (k : Int) < (s.size : Int) := by omega
      clear hix
      go_wp2_with (go_at_call 79; refine HI.mono ?_)
      rintro e w1 ⟨b, rfl, hbl, hb1⟩
      have hown1 := own_below hown hb1
      go_wp2_with (at_builtin; refine wpList_append_own _ rfl _ _ 23 rfl w.heap.size 9 i0 (.string ⟨#[]⟩) 1 16 Tryz.underlying23 hi hz0 hz1 hz2 rfl (by decide) _ _ _ rfl (hown1.alloc _) ⟨w1.heap.size, 0, none⟩ 1 1 [.string b] rfl rfl ?c1 ?c2 ?c3 ?c4 ?c5 ?_)
      case c1 =>
        intro j u hj
        match j, hj with
        | 0, hj => simp at hj; subst hj; simp [Addr.add]
      case c2 => intro u hu; simp at hu; subst hu; rfl
      case c3 => unfold maxLen; omega
      case c4 => omega
      case c5 => have := hB.size; have := hb1.size; simp; omega
      intro v' w2 hown' hgrow _
      go_wp2
      go_roundw
      case rel =>
        have hsz1 := hB.size
        have hsz2 := hb1.size
        refine ⟨k + 1, by omega, by simp, ?_, ?_⟩
        · rw [hnx.out]
          have eb : b = str (digF z.toNat) := by rw [← str_of b, hbl, hdg.out]
          rw [← eb]
          exact hown'
        · exact ((hB.trans (hb1.mono hsz1)).alloc (by omega) _).grown hgrow (by simp; omega) (fun j hj => (hown1.lt j hj).1)
      case measure => simp [intOf]; omega
    · obtain rfl : k = l.length := by omega
      rw [List.take_length] at hown
      have g2 : ¬ (l.length : Int) < (s.size : Int) := by omega
      rcases hown.2 with ⟨rfl, hn⟩ | ⟨g, cap, cur, rfl, hg1, hg2, hg3⟩
      · have hl0 : l = [] := by
          rcases l with _ | ⟨z, zs⟩
          · rfl
          · simp [dgs] at hn
        subst hl0
        have HJ := Tryz.strings_Join_none none 0 ⟨#[32]⟩ wr
        go_wp2_with (go_at_call 109; refine HJ.mono ?_; rintro e w1 ⟨rfl, hw1⟩; obtain rfl := hw1.symm)
        go_ret
        exact ⟨rfl, hB⟩
      · have hlz : (dgs l).length = l.length := List.length_map _
        have hmx : maxLen = 9223372036854775807 := rfl
        have hJl : (Lib.join ((dgs l).map (·.data.toList)) [32]).length ≤ 140737488355328 := by
          rw [dgs_list]
          exact Nat.le_trans (join_len l hl) (by decide)
        have HJ := Tryz.strings_Join g 0 cap (dgs l) ⟨#[32]⟩ wr (fun j x hj => by
          rw [Lib.cell_of_heap hg2]
          have h1 : ((dgs l).map Value.string)[j]? = some (.string x) := by rw [List.getElem?_map, hj]; rfl
          rw [← hg3.2.2.2, Nat.mul_one, List.getElem?_take] at h1
          split at h1
          · rw [Nat.zero_add, ← Array.getElem?_toList]; exact h1
          · cases h1) (Array.getElem?_eq_some_iff.1 hg2).1 (by omega) (by rw [hlz]; exact hg3.1) hJl
        rw [hlz] at HJ
        have hE : Hid (str (Lib.join (l.map fun i => digF i.toNat) [32]) = ⟨(Lib.join ((dgs l).map (·.data.toList)) (ByteArray.mk #[32]).data.toList).toArray⟩) := by
          show _ = _
          rw [dgs_list]; rfl
        generalize (ByteArray.mk (Lib.join ((dgs l).map (·.data.toList)) (ByteArray.mk #[32]).data.toList).toArray) = jn at HJ hE
        go_wp2_with (go_at_call 109; refine HJ.mono ?_; rintro e w1 ⟨rfl, hb1⟩)
        go_ret
        exact ⟨by rw [hE.out]; rfl, hB.trans (hb1.mono hB.size)⟩
end Rn
end Go.Proofs.YtdokgalidhmbbaaGreatDoor
namespace Go.Proofs.YtdokgalidhmbbaaGreatDoor
namespace Rn
open Go.RowKit

theorem nums_byte {n : Int} (h : 0 ≤ n ∧ n ≤ 9999) : (V.nums n).length ≤ 4 ∧ ∀ z ∈ V.nums n, 0 ≤ z ∧ z < 256 := by
  unfold V.nums
  split
  · exact ⟨by simp, fun z hz => by simp at hz; omega⟩
  split
  · exact ⟨by simp, fun z hz => by simp at hz; omega⟩
  · omega
theorem str_or (b : ByteArray) : (b = emp ∧ orMinus b = [45]) ∨ (b ≠ emp ∧ orMinus b = b.data.toList) := by
  unfold orMinus
  by_cases h : b = emp
  · subst h; exact .inl ⟨rfl, rfl⟩
  · refine .inr ⟨h, if_neg fun e => h ?_⟩
    apply bytes_ext
    have : b.data.toList.length = 0 := by rw [← Lib.size_eq]; exact e
    rw [List.length_eq_zero_iff.1 this]
set_option maxRecDepth 100000 in
set_option maxHeartbeats 4000000 in
theorem read_calls {w0 w : World} {bv : Value} {d tb mb : Nat} {u : Tv} {s : Tt} (h : Ds w0 w bv d tb mb u s) (x y : Int) :
    Calls Tryz.prog 78 #[.pointer (some ⟨d, 0, none⟩), .int .i64 x, .int .i64 y] w fun e w' => e = .returned (.tuple #[.string (str (orMinus (tReadB s x y))), errV (tReadF s x y)]) ∧ DTurn w0 w w' bv d tb mb u (tReadS s x y) := by
  have hd := h.tbc
  have HW := tread_calls h.tk x y
  have hT2 : Hid (∀ w2, TTurn w w2 w0.heap.size tb u (tReadS s x y) → DTurn w0 w w2 bv d tb mb u (tReadS s x y)) := fun w2 => h.turn
  have ho := str_or (tReadB s x y)
  clear h
  generalize errV (tReadF s x y) = er at HW ⊢
  generalize tReadB s x y = bs at HW ho ⊢
  rcases ho with ⟨rfl, ho⟩ | ⟨hn, ho⟩
  · have e1 : str (orMinus emp) = ⟨#[45]⟩ := by rw [ho]; rfl
    go_enter Tryz.func78, Tryz.ntmps78
    go_wp2_with (go_at_call 105; refine HW.mono ?_; rintro e w2 ⟨rfl, ht⟩)
    go_ret2
    exact ⟨by rw [e1]; rfl, hT2.out _ ht⟩
  · have e1 : str (orMinus bs) = bs := by rw [ho, str_of]
    have hne : bs.toList.isEmpty = false := by
      rw [toList_data]
      cases e : bs.data.toList with
      | nil => exact absurd (bytes_ext (by rw [e])) hn
      | cons a l => rfl
    go_enter Tryz.func78, Tryz.ntmps78
    go_wp2_with (go_at_call 105; refine HW.mono ?_; rintro e w2 ⟨rfl, ht⟩)
    go_ret2
    exact ⟨by rw [e1]; rfl, hT2.out _ ht⟩
set_option maxRecDepth 100000 in
set_option maxHeartbeats 4000000 in
theorem call_write {w0 w : World} {bv : Value} {d tb mb : Nat} {u : Tv} {s : Tt} (h : Ds w0 w bv d tb mb u s) (x y : Int) (wd : ByteArray) (hwd : wd.size ≤ 140737488351232) : Calls Tryz.prog 51 #[.pointer (some ⟨d, 0, none⟩), .agg #[.string ⟨#[119, 114, 105, 116, 101]⟩, .int .i64 x, .int .i64 y, .string wd]] w fun e w' => e = .returned (.tuple #[.string ⟨#[111, 107]⟩, errV (tWriteF s x wd)]) ∧ DTurn w0 w w' bv d tb mb u (tWriteS s x wd) := by
  have hb : Below w.heap.size w (w.alloc (.cells #[.string ⟨#[119, 114, 105, 116, 101]⟩, .int .i64 x, .int .i64 y, .string wd] 117)).drew := ((Below.refl _ w).alloc (Nat.le_refl _) _).drew
  obtain ⟨b0, b1, b2, b3⟩ := Bx4.new w (.string ⟨#[119, 114, 105, 116, 101]⟩) (.int .i64 x) (.int .i64 y) (.string wd)
  have h1 := h.below hb
  have hd := h1.tbc
  have HT : Hid (∀ w2 s2, DTurn w0 (w.alloc (.cells #[.string ⟨#[119, 114, 105, 116, 101]⟩, .int .i64 x, .int .i64 y, .string wd] 117)).drew w2 bv d tb mb u s2 → DTurn w0 w w2 bv d tb mb u s2) := fun w2 s2 => DTurn.pre hb h
  have h2 := h1.below ((Below.refl _ _).drew)
  have HW := twrite_calls h2.tk x wd hwd
  have hT2 : Hid (∀ w2, TTurn ((w.alloc (.cells #[.string ⟨#[119, 114, 105, 116, 101]⟩, .int .i64 x, .int .i64 y, .string wd] 117)).drew).drew w2 w0.heap.size tb u (tWriteS s x wd) → DTurn w0 ((w.alloc (.cells #[.string ⟨#[119, 114, 105, 116, 101]⟩, .int .i64 x, .int .i64 y, .string wd] 117)).drew) w2 bv d tb mb u (tWriteS s x wd)) := fun w2 ht => DTurn.pre ((Below.refl _ _).drew) h1 (h2.turn ht)
  generalize errV (tWriteF s x wd) = er at HW ⊢
  go_enter Tryz.func51, Tryz.ntmps51
  go_wp2
  go_region
  all_goals generalize hW : (w.alloc (.cells #[.string ⟨#[119, 114, 105, 116, 101]⟩, .int .i64 x, .int .i64 y, .string wd] 117)).drew = W at *
  all_goals clear h1 h hb
  all_goals go_wp2
  all_goals have hd2 : W.drew.cell? ⟨d, 0, none⟩ = some (.pointer (some ⟨tb, 0, none⟩)) := hd
  all_goals have b3d : W.drew.cell? ⟨w.heap.size, 3, none⟩ = some (.string wd) := b3
  all_goals go_region_with (go_at_call 73; refine HW.mono ?_; rintro e w2 ⟨rfl, ht⟩)
  all_goals go_wp2
  all_goals go_ret2
  all_goals exact ⟨rfl, HT.out _ _ (hT2.out _ ht)⟩
set_option maxRecDepth 100000 in
set_option maxHeartbeats 4000000 in
theorem call_read {w0 w : World} {bv : Value} {d tb mb : Nat} {u : Tv} {s : Tt} (h : Ds w0 w bv d tb mb u s) (x y : Int) (wd : ByteArray) : Calls Tryz.prog 51 #[.pointer (some ⟨d, 0, none⟩), .agg #[.string ⟨#[114, 101, 97, 100]⟩, .int .i64 x, .int .i64 y, .string wd]] w fun e w' => e = .returned (.tuple #[.string (str (orMinus (tReadB s x y))), errV (tReadF s x y)]) ∧ DTurn w0 w w' bv d tb mb u (tReadS s x y) := by
  have hb : Below w.heap.size w (w.alloc (.cells #[.string ⟨#[114, 101, 97, 100]⟩, .int .i64 x, .int .i64 y, .string wd] 117)).drew := ((Below.refl _ w).alloc (Nat.le_refl _) _).drew
  obtain ⟨b0, b1, b2, b3⟩ := Bx4.new w (.string ⟨#[114, 101, 97, 100]⟩) (.int .i64 x) (.int .i64 y) (.string wd)
  have h1 := h.below hb
  have hd := h1.tbc
  have HT : Hid (∀ w2 s2, DTurn w0 (w.alloc (.cells #[.string ⟨#[114, 101, 97, 100]⟩, .int .i64 x, .int .i64 y, .string wd] 117)).drew w2 bv d tb mb u s2 → DTurn w0 w w2 bv d tb mb u s2) := fun w2 s2 => DTurn.pre hb h
  have HW := read_calls h1 x y
  generalize errV (tReadF s x y) = er at HW ⊢
  generalize str (orMinus (tReadB s x y)) = tx at HW ⊢
  go_enter Tryz.func51, Tryz.ntmps51
  go_wp2
  go_region
  all_goals generalize hW : (w.alloc (.cells #[.string ⟨#[114, 101, 97, 100]⟩, .int .i64 x, .int .i64 y, .string wd] 117)).drew = W at *
  all_goals clear h1 h hb
  all_goals go_wp2_with (go_at_call 78; refine HW.mono ?_; rintro e w2 ⟨rfl, ht⟩)
  all_goals go_wp2
  all_goals go_ret2
  all_goals exact ⟨rfl, HT.out _ _ ht⟩
set_option maxRecDepth 100000 in
set_option maxHeartbeats 4000000 in
theorem call_count {w0 w : World} {bv : Value} {d tb mb : Nat} {u : Tv} {s : Tt} (h : Ds w0 w bv d tb mb u s) (x y : Int) (wd : ByteArray) : Calls Tryz.prog 51 #[.pointer (some ⟨d, 0, none⟩), .agg #[.string ⟨#[99, 111, 117, 110, 116]⟩, .int .i64 x, .int .i64 y, .string wd]] w fun e w' => e = .returned (.tuple #[.string (str (digF s.ls.length)), errV 0]) ∧ DTurn w0 w w' bv d tb mb u s := by
  have hb : Below w.heap.size w (w.alloc (.cells #[.string ⟨#[99, 111, 117, 110, 116]⟩, .int .i64 x, .int .i64 y, .string wd] 117)).drew := ((Below.refl _ w).alloc (Nat.le_refl _) _).drew
  obtain ⟨b0, b1, b2, b3⟩ := Bx4.new w (.string ⟨#[99, 111, 117, 110, 116]⟩) (.int .i64 x) (.int .i64 y) (.string wd)
  have h1 := h.below hb
  have hd := h1.tbc
  have HT : Hid (∀ w2 s2, DTurn w0 (w.alloc (.cells #[.string ⟨#[99, 111, 117, 110, 116]⟩, .int .i64 x, .int .i64 y, .string wd] 117)).drew w2 bv d tb mb u s2 → DTurn w0 w w2 bv d tb mb u s2) := fun w2 s2 => DTurn.pre hb h
  have HW := tcount_calls h1.tk
  have HI := itoa_calls (s.ls.length : Int) (by omega) (by have := h1.tk.il.few; omega) h1.dk.env
  have hdg : Hid (Lib.itoa (s.ls.length : Int) = digF s.ls.length) := itoa_dig _ (by have := h1.tk.il.few; omega)
  have hS : Hid (∀ w2, Below ((w.alloc (.cells #[.string ⟨#[99, 111, 117, 110, 116]⟩, .int .i64 x, .int .i64 y, .string wd] 117)).drew).heap.size ((w.alloc (.cells #[.string ⟨#[99, 111, 117, 110, 116]⟩, .int .i64 x, .int .i64 y, .string wd] 117)).drew) w2 → DTurn w0 ((w.alloc (.cells #[.string ⟨#[99, 111, 117, 110, 116]⟩, .int .i64 x, .int .i64 y, .string wd] 117)).drew) w2 bv d tb mb u s) := fun w2 => h1.same
  generalize s.ls.length = n at *
  go_enter Tryz.func51, Tryz.ntmps51
  go_wp2
  go_region
  all_goals generalize hW : (w.alloc (.cells #[.string ⟨#[99, 111, 117, 110, 116]⟩, .int .i64 x, .int .i64 y, .string wd] 117)).drew = W at *
  all_goals clear h1 h hb
  all_goals go_wp2_with (first | (go_at_call 80; refine HW.mono ?_; rintro e w2 ⟨rfl, hw2⟩; obtain rfl := hw2.symm) | (go_at_call 79; refine HI.mono ?_; rintro e w3 ⟨b, rfl, hbl, hb3⟩))
  all_goals go_wp2
  all_goals go_ret2
  all_goals exact ⟨by rw [← str_of b, hbl, hdg.out]; rfl, HT.out _ _ (hS.out _ hb3)⟩
set_option maxRecDepth 100000 in
set_option maxHeartbeats 4000000 in
theorem call_varint {w0 w : World} {bv : Value} {d tb mb : Nat} {u : Tv} {s : Tt} (h : Ds w0 w bv d tb mb u s) (x y : Int) (wd : ByteArray) (hx : 0 ≤ x ∧ x ≤ 9999) : Calls Tryz.prog 51 #[.pointer (some ⟨d, 0, none⟩), .agg #[.string ⟨#[118, 97, 114, 105, 110, 116]⟩, .int .i64 x, .int .i64 y, .string wd]] w fun e w' => e = .returned (.tuple #[.string (str (dec x)), errV 0]) ∧ DTurn w0 w w' bv d tb mb u s := by
  have hb : Below w.heap.size w (w.alloc (.cells #[.string ⟨#[118, 97, 114, 105, 110, 116]⟩, .int .i64 x, .int .i64 y, .string wd] 117)).drew := ((Below.refl _ w).alloc (Nat.le_refl _) _).drew
  obtain ⟨b0, b1, b2, b3⟩ := Bx4.new w (.string ⟨#[118, 97, 114, 105, 110, 116]⟩) (.int .i64 x) (.int .i64 y) (.string wd)
  have h1 := h.below hb
  have hd := h1.tbc
  have HT : Hid (∀ w2 s2, DTurn w0 (w.alloc (.cells #[.string ⟨#[118, 97, 114, 105, 110, 116]⟩, .int .i64 x, .int .i64 y, .string wd] 117)).drew w2 bv d tb mb u s2 → DTurn w0 w w2 bv d tb mb u s2) := fun w2 s2 => DTurn.pre hb h
  have HW := V.put_yes x ((w.alloc (.cells #[.string ⟨#[118, 97, 114, 105, 110, 116]⟩, .int .i64 x, .int .i64 y, .string wd] 117)).drew) (h1.fm.1.below h1.bel) (decide_eq_true ⟨by omega, by omega⟩)
  have HD : Hid (∀ w2, Below ((w.alloc (.cells #[.string ⟨#[118, 97, 114, 105, 110, 116]⟩, .int .i64 x, .int .i64 y, .string wd] 117)).drew).heap.size ((w.alloc (.cells #[.string ⟨#[118, 97, 114, 105, 110, 116]⟩, .int .i64 x, .int .i64 y, .string wd] 117)).drew) w2 → Calls Tryz.prog 82 #[.string (strOfNums (V.nums x))] w2 fun e w' => e = .returned (.string (str (dec x))) ∧ Below w2.heap.size w2 w') := fun w2 hb2 => dec_calls (V.nums x) (nums_byte hx).1 (nums_byte hx).2 (h1.dk.env.below hb2 h1.dk.env.low)
  have hS : Hid (∀ w2, Below ((w.alloc (.cells #[.string ⟨#[118, 97, 114, 105, 110, 116]⟩, .int .i64 x, .int .i64 y, .string wd] 117)).drew).heap.size ((w.alloc (.cells #[.string ⟨#[118, 97, 114, 105, 110, 116]⟩, .int .i64 x, .int .i64 y, .string wd] 117)).drew) w2 → DTurn w0 ((w.alloc (.cells #[.string ⟨#[118, 97, 114, 105, 110, 116]⟩, .int .i64 x, .int .i64 y, .string wd] 117)).drew) w2 bv d tb mb u s) := fun w2 => h1.same
  generalize str (dec x) = tx at HD ⊢
  generalize strOfNums (V.nums x) = vs at HW HD
  go_enter Tryz.func51, Tryz.ntmps51
  go_wp2
  go_region
  all_goals generalize hW : (w.alloc (.cells #[.string ⟨#[118, 97, 114, 105, 110, 116]⟩, .int .i64 x, .int .i64 y, .string wd] 117)).drew = W at *
  all_goals clear h1 h hb
  all_goals go_wp2_with (go_at_call 81; refine HW.mono ?_; rintro e w2 ⟨rfl, hb2⟩; have HD2 := HD.out w2 hb2)
  all_goals go_wp2_with (go_at_call 82; refine HD2.mono ?_; rintro e w3 ⟨rfl, hb3⟩)
  all_goals go_wp2
  all_goals go_ret2
  all_goals exact ⟨rfl, HT.out _ _ (hS.out _ (hb2.trans (hb3.mono hb2.size)))⟩
set_option maxRecDepth 100000 in
set_option maxHeartbeats 4000000 in
theorem call_need1 {w0 w : World} {bv : Value} {d tb mb : Nat} {u : Tv} {s : Tt} (h : Ds w0 w bv d tb mb u s) (x y : Int) (wd : ByteArray) (hp : U.pairB x y = true) : Calls Tryz.prog 51 #[.pointer (some ⟨d, 0, none⟩), .agg #[.string ⟨#[110, 101, 101, 100]⟩, .int .i64 x, .int .i64 y, .string wd]] w fun e w' => e = .returned (.tuple #[.string (str (digF (U.need x y).toNat)), errV 0]) ∧ DTurn w0 w w' bv d tb mb u s := by
  have hb : Below w.heap.size w (w.alloc (.cells #[.string ⟨#[110, 101, 101, 100]⟩, .int .i64 x, .int .i64 y, .string wd] 117)).drew := ((Below.refl _ w).alloc (Nat.le_refl _) _).drew
  obtain ⟨b0, b1, b2, b3⟩ := Bx4.new w (.string ⟨#[110, 101, 101, 100]⟩) (.int .i64 x) (.int .i64 y) (.string wd)
  have h1 := h.below hb
  have hd := h1.tbc
  have HT : Hid (∀ w2 s2, DTurn w0 (w.alloc (.cells #[.string ⟨#[110, 101, 101, 100]⟩, .int .i64 x, .int .i64 y, .string wd] 117)).drew w2 bv d tb mb u s2 → DTurn w0 w w2 bv d tb mb u s2) := fun w2 s2 => DTurn.pre hb h
  have HW := U.need_yes x y ((w.alloc (.cells #[.string ⟨#[110, 101, 101, 100]⟩, .int .i64 x, .int .i64 y, .string wd] 117)).drew) hp
  have hz : 0 ≤ U.need x y ∧ U.need x y < 10000 := by unfold U.need; (repeat' split) <;> decide
  have HI := itoa_calls (U.need x y) hz.1 (by have := hz.2; omega) h1.dk.env
  have hdg : Hid (Lib.itoa (U.need x y) = digF (U.need x y).toNat) := by
    have := itoa_dig (U.need x y).toNat (by have := hz.2; omega)
    rwa [Int.toNat_of_nonneg hz.1] at this
  have hS : Hid (∀ w2, Below ((w.alloc (.cells #[.string ⟨#[110, 101, 101, 100]⟩, .int .i64 x, .int .i64 y, .string wd] 117)).drew).heap.size ((w.alloc (.cells #[.string ⟨#[110, 101, 101, 100]⟩, .int .i64 x, .int .i64 y, .string wd] 117)).drew) w2 → DTurn w0 ((w.alloc (.cells #[.string ⟨#[110, 101, 101, 100]⟩, .int .i64 x, .int .i64 y, .string wd] 117)).drew) w2 bv d tb mb u s) := fun w2 => h1.same
  clear hz
  generalize U.need x y = nd at *
  go_enter Tryz.func51, Tryz.ntmps51
  go_wp2
  go_region
  all_goals generalize hW : (w.alloc (.cells #[.string ⟨#[110, 101, 101, 100]⟩, .int .i64 x, .int .i64 y, .string wd] 117)).drew = W at *
  all_goals clear h1 h hb
  all_goals go_wp2_with (first | (go_at_call 83; refine HW.mono ?_; rintro e w2 ⟨rfl, hw2⟩; obtain rfl := hw2.symm) | (go_at_call 79; refine HI.mono ?_; rintro e w3 ⟨b, rfl, hbl, hb3⟩))
  all_goals go_wp2
  all_goals go_ret2
  all_goals exact ⟨by rw [← str_of b, hbl, hdg.out]; rfl, HT.out _ _ (hS.out _ hb3)⟩
set_option maxRecDepth 100000 in
set_option maxHeartbeats 4000000 in
theorem call_need0 {w0 w : World} {bv : Value} {d tb mb : Nat} {u : Tv} {s : Tt} (h : Ds w0 w bv d tb mb u s) (x y : Int) (wd : ByteArray) (hp : U.pairB x y = false) : Calls Tryz.prog 51 #[.pointer (some ⟨d, 0, none⟩), .agg #[.string ⟨#[110, 101, 101, 100]⟩, .int .i64 x, .int .i64 y, .string wd]] w fun e w' => e = .returned (.tuple #[.string (str (digF ((0 : Int)).toNat)), errV 1]) ∧ DTurn w0 w w' bv d tb mb u s := by
  have hb : Below w.heap.size w (w.alloc (.cells #[.string ⟨#[110, 101, 101, 100]⟩, .int .i64 x, .int .i64 y, .string wd] 117)).drew := ((Below.refl _ w).alloc (Nat.le_refl _) _).drew
  obtain ⟨b0, b1, b2, b3⟩ := Bx4.new w (.string ⟨#[110, 101, 101, 100]⟩) (.int .i64 x) (.int .i64 y) (.string wd)
  have h1 := h.below hb
  have hd := h1.tbc
  have HT : Hid (∀ w2 s2, DTurn w0 (w.alloc (.cells #[.string ⟨#[110, 101, 101, 100]⟩, .int .i64 x, .int .i64 y, .string wd] 117)).drew w2 bv d tb mb u s2 → DTurn w0 w w2 bv d tb mb u s2) := fun w2 s2 => DTurn.pre hb h
  have HW := U.need_no x y ((w.alloc (.cells #[.string ⟨#[110, 101, 101, 100]⟩, .int .i64 x, .int .i64 y, .string wd] 117)).drew) hp
  have hz : 0 ≤ (0 : Int) ∧ (0 : Int) < 10000 := by decide
  have HI := itoa_calls ((0 : Int)) hz.1 (by have := hz.2; omega) h1.dk.env
  have hdg : Hid (Lib.itoa ((0 : Int)) = digF ((0 : Int)).toNat) := by
    have := itoa_dig ((0 : Int)).toNat (by have := hz.2; omega)
    rwa [Int.toNat_of_nonneg hz.1] at this
  have hS : Hid (∀ w2, Below ((w.alloc (.cells #[.string ⟨#[110, 101, 101, 100]⟩, .int .i64 x, .int .i64 y, .string wd] 117)).drew).heap.size ((w.alloc (.cells #[.string ⟨#[110, 101, 101, 100]⟩, .int .i64 x, .int .i64 y, .string wd] 117)).drew) w2 → DTurn w0 ((w.alloc (.cells #[.string ⟨#[110, 101, 101, 100]⟩, .int .i64 x, .int .i64 y, .string wd] 117)).drew) w2 bv d tb mb u s) := fun w2 => h1.same
  clear hz
  go_enter Tryz.func51, Tryz.ntmps51
  go_wp2
  go_region
  all_goals generalize hW : (w.alloc (.cells #[.string ⟨#[110, 101, 101, 100]⟩, .int .i64 x, .int .i64 y, .string wd] 117)).drew = W at *
  all_goals clear h1 h hb
  all_goals go_wp2_with (first | (go_at_call 83; refine HW.mono ?_; rintro e w2 ⟨rfl, hw2⟩; obtain rfl := hw2.symm) | (go_at_call 79; refine HI.mono ?_; rintro e w3 ⟨b, rfl, hbl, hb3⟩))
  all_goals go_wp2
  all_goals go_ret2
  all_goals exact ⟨by rw [← str_of b, hbl, hdg.out]; rfl, HT.out _ _ (hS.out _ hb3)⟩
end Rn
end Go.Proofs.YtdokgalidhmbbaaGreatDoor
