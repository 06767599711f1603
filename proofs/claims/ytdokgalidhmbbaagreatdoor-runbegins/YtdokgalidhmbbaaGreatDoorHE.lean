/- What the laws of package run need. -/
import Derived.Test.YtdokgalidhmbbaaGreatDoorHEB
import Derived.ChangeKeysEq
set_option linter.unusedVariables false
set_option linter.unusedSimpArgs false
set_option maxRecDepth 100000
set_option maxHeartbeats 8000000
namespace Go.Proofs.YtdokgalidhmbbaaGreatDoor
open Go.RowKit Go.Lib Go.Sort


open Sx (bat)
theorem results_cell1 {fn : Func} {p : Tmp} {ty : TypeId} (h : fn.results = #[.cell p ty]) (tmps : Array Value) (P : Program) (w : World) :
    (results fn tmps).run P w = ((asAddr (tmps.getD p undef)).run P w).andThen fun a w₁ => (loadVar ty a).run P w₁ := by
  simp only [results, h]
  simp [Sem.run_bind, Result.andThen]
theorem bat_ints (d : ByteArray) (i : Nat) : bat d i = (V.ints d)[i]?.getD 0 := by
  unfold bat V.ints
  rw [List.getElem?_map, Array.getElem?_toList]
  cases d.data[i]? <;> rfl
theorem str_part {d : ByteArray} {a b : Nat} (hb : b ≤ d.size) : strOfNums ((List.range (b - a)).map fun i => bat d (a + i)) = d.extract a b := by
  have e : ((List.range (b - a)).map fun i => bat d (a + i)) = V.ints (d.extract a b) := by
    rw [ints_extract]
    apply List.ext_getElem?
    intro i
    rw [List.getElem?_map, List.getElem?_take, List.getElem?_drop]
    by_cases h : i < b - a
    · rw [if_pos h, List.getElem?_range h]
      have hl : a + i < (V.ints d).length := by rw [ints_length]; omega
      rw [Option.map_some, bat_ints, List.getElem?_eq_getElem hl]
      rfl
    · rw [if_neg h, List.getElem?_eq_none (by simpa using h)]
      rfl
  rw [e]
  exact V.str_ints _
end Go.Proofs.YtdokgalidhmbbaaGreatDoor
namespace Go.Proofs.YtdokgalidhmbbaaGreatDoor
open Go.RowKit Go.Lib Go.Sort


def pcell (l : List (Nat × ByteArray)) : List Value := l.flatMap fun p => [.int .i64 p.1, .string p.2]
theorem pcell_append (a b : List (Nat × ByteArray)) : pcell (a ++ b) = pcell a ++ pcell b := by simp [pcell]
theorem pcell_at : ∀ (l : List (Nat × ByteArray)) (j : Nat) (hj : j < l.length), (pcell l)[j * 2]? = some (.int .i64 (l[j].1 : Int)) ∧ (pcell l)[j * 2 + 1]? = some (.string l[j].2)
  | [], j, h => by simp at h
  | p :: l, 0, _ => by simp [pcell]
  | p :: l, j + 1, hj => by
    have i := pcell_at l j (by simpa using hj)
    have e : (j + 1) * 2 = j * 2 + 1 + 1 := by omega
    rw [e]
    simpa [pcell] using i
theorem pcell_one {l : List (Nat × ByteArray)} : ∀ u, u ∈ pcell l → u.oneCell' = true := by
  intro u hu
  obtain ⟨p, _, h⟩ := List.mem_flatMap.1 hu
  simp at h
  rcases h with rfl | rfl <;> rfl
theorem infoP : (Tryz.prog.info? 146).map (fun i => (i.zero, i.size, i.bytes)) = some (some (.agg #[.int .i64 0, .string { data := #[] }]), 2, 24) := by kernel_rfl
theorem pcell_new (w : World) (a : Nat) (s : ByteArray) (j : Nat) (u : Value) (hu : (pcell [(a, s)])[j]? = some u) : (w.alloc (.cells #[.int .i64 a, .string s] 146)).cell? ((⟨w.heap.size, 0, none⟩ : Addr).add j) = some u := by
  match j, hu with
  | 0, hu => simp [pcell] at hu; subst hu; rw [Addr.add_lit]; simp
  | 1, hu => simp [pcell] at hu; subst hu; rw [Addr.add_lit]; simp
  | j + 2, hu => simp [pcell] at hu
theorem own_sh {w : World} {base e size : Nat} {v : Value} {n : Nat} {xs : List Value} (h : w.ownsRow base e size v n xs) : ∃ ao c, v = .slice ao n c := by
  rcases h.2 with ⟨rfl, h0⟩ | ⟨g, cap, cur, rfl, _⟩
  · exact ⟨none, 0, by rw [h0]⟩
  · exact ⟨_, cap, rfl⟩
theorem cell_kept {W W' : World} {row : Option Nat} {b o : Nat} {v : Value} (h : W.cell? ⟨b, o, none⟩ = some v) (hg : W.grownBy W' row) (hlt : b < W.heap.size) (hne : some b ≠ row) : W'.cell? ⟨b, o, none⟩ = some v := by
  rw [← h]; unfold World.cell?; rw [hg.block b hlt hne]
theorem toList_some {s : ByteArray} (h : s.size ≠ 0) : s.toList.isEmpty = false := by
  rw [ByteArray.toList_eq]
  obtain ⟨⟨l⟩⟩ := s
  cases l with
  | nil => exact absurd rfl h
  | cons b r => rfl
theorem extract_none {d : ByteArray} {a b : Nat} (h : b ≤ a) : d.extract a b = { data := #[] } := by
  have : (d.extract a b).size = 0 := by rw [ByteArray.size_extract]; omega
  apply ByteArray.ext
  exact Array.eq_empty_of_size_eq_zero this


theorem good_ack {cm : List R} (h : chk cm = 0) (h0 : cm ≠ []) : fF (2, unr cm, nilB) = 0 := by
  have hg := (chk_ok cm).1 h
  have hl : cm.length ≠ 0 := fun e => h0 (List.eq_nil_of_length_eq_zero e)
  refine frF_zero rfl ?_ (fun _ => rfl) (unr_mays hg) (show 0 ≤ 20 by omega) (fun _ => by rw [rgs_unr]; exact hg)
  have := hg.1
  unfold cntB
  rw [if_pos rfl, unr_length]
  exact decide_eq_true ⟨by omega, by omega, by omega⟩
theorem good_credit {z : Int} (h0 : 0 ≤ z) (h1 : z ≤ 1073741823) : fF (4, [z], nilB) = 0 :=
  frF_zero rfl rfl (fun _ => rfl) (fun y hy => by simp at hy; subst hy; omega) (show 0 ≤ 20 by omega) (fun e => by cases e)
theorem good_piece {p : Nat × ByteArray} (h0 : p.1 ≤ 60) (h1 : p.2.size ≤ 20) : fF (pfr p) = 0 := by
  show frF 3 [(p.1 : Int)] p.2 = 0
  exact frF_zero rfl rfl (fun e => absurd rfl e) (fun y hy => by simp at hy; subst hy; omega) h1 (fun e => by cases e)
set_option maxRecDepth 100000 in
set_option maxHeartbeats 4000000 in
theorem enumsOf_some (b off len cap : Nat) (zs : List R) (w : World) (hlen : zs.length = len) (h12 : len ≤ 12) (hb : b < w.heap.size) (hc : Cells w b off zs) :
    Calls Tryz.prog 153 #[.slice (some ⟨b, off, none⟩) len cap] w fun e w' => ∃ v', e = .returned v' ∧ OwnI w' w.heap.size v' (unr zs) ∧ Below w.heap.size w w' := by
  have HL : Hid (zs.length = len) := hlen
  have HC : Hid (Cells w b off zs) := hc
  clear hlen hc
  go_enter Tryz.func153, Tryz.ntmps153
  go_wp2_with fail
  go_loopw [3, 8] (fun v i wr => ∃ k : Nat, k ≤ len ∧ i = .int .i64 k ∧ OwnI wr w.heap.size v (unr (zs.take k)) ∧ Below w.heap.size w wr) (fun _ i _ => len - (intOf i).toNat)
  case atStart => exact ⟨0, Nat.zero_le _, rfl, World.ownsRow_nil _ _ _ _, Below.refl _ _⟩
  case round =>
    obtain ⟨k, hk, rfl, hown, hB⟩ := hrel
    by_cases hlt : k < len
    · have g1 : (k : Int) < (len : Int) := by omega
      have hkr : k < zs.length := by have := HL.out; omega
      obtain ⟨c0, c1⟩ := HC.out.below hb hB k hkr
      have HN : Hid (unr (zs.take (k + 1)) = unr (zs.take k) ++ [(at' zs k).2, (at' zs k).1]) := by
        show _ = _
        rw [take_at hkr, unr_append]; rfl
      have hul : (unr (zs.take k)).length ≤ 24 := by rw [unr_length, List.length_take]; omega
      clear hkr
      generalize at' zs k = y at *
      obtain ⟨lo, hi⟩ := y
      simp only at c0 c1 HN
      have bel1 : Below w.heap.size w (wr.alloc (.cells #[.int .i64 lo, .int .i64 hi] 143)) := hB.alloc hB.size _
      have own1 := hown.alloc (.cells #[.int .i64 lo, .int .i64 hi] 143)
      have HO : Hid (OwnI (wr.alloc (.cells #[.int .i64 lo, .int .i64 hi] 143)) w.heap.size u3 (unr (zs.take k))) := own1
      have hBs := hB.size
      have cs := cells_two (wr.alloc (.cells #[.int .i64 lo, .int .i64 hi] 143)) hi lo
      rw [World.size_alloc] at cs
      have CS : Hid (∀ j u, (ivs [hi, lo])[j]? = some u → ((wr.alloc (.cells #[.int .i64 lo, .int .i64 hi] 143)).alloc (.cells #[.int .i64 hi, .int .i64 lo] 3)).cell? ((⟨wr.heap.size + 1, 0, none⟩ : Addr).add j) = some u) := cs
      clear own1 hown cs
      go_wp2_with (at_builtin; refine append_ints rfl (.tmp 12) (.tmp 17) rfl w.heap.size _ (unr (zs.take k)) rfl (HO.out.alloc _) ⟨wr.heap.size + 1, 0, none⟩ 2 2 [hi, lo] rfl rfl CS.out (by simp; omega) (by simp; omega) ?_; intro v' w' hown' hgr)
      exact ⟨⟨k + 1, by omega, by go_num, by rw [HN.out]; exact hown', (bel1.alloc (by simp; omega) _).grown hgr (by simp; omega) (fun j e => (HO.out.lt j e).1)⟩, by simp [intOf]; omega⟩
    · have g1 : ¬ (k : Int) < (len : Int) := by omega
      obtain rfl : k = len := by omega
      have HE : Hid (zs.take k = zs) := by show _ = _; rw [← HL.out, List.take_length]
      rw [HE.out] at hown
      obtain ⟨a, c, rfl⟩ := hown.shape
      clear HE
      go_wp2_with fail
      go_ret
      exact ⟨_, rfl, hown, hB⟩
theorem enumsOf_calls (v : Value) (zs : List R) (w : World) (hR : Row w v zs) (h12 : zs.length ≤ 12) (h0 : zs ≠ []) :
    Calls Tryz.prog 153 #[v] w fun e w' => ∃ v', e = .returned v' ∧ OwnI w' w.heap.size v' (unr zs) ∧ Below w.heap.size w w' := by
  obtain ⟨ao, c, rfl, hl, hn, hz⟩ := hR
  rcases hz with h | ⟨b, off, rfl, hb, hC⟩
  · exact absurd h h0
  · exact enumsOf_some b off _ c zs w rfl h12 hb hC



def brow (f : Nat → Bool) : List Value := row 60 fun i => .bool (f i)
theorem brow_get {f : Nat → Bool} {i : Nat} (h : i < 60) : (brow f)[i]? = some (.bool (f i)) := row_get h
theorem brow_length (f : Nat → Bool) : (brow f).length = 60 := row_length _ _
theorem brow_one (f : Nat → Bool) : (brow f).toArray.all (·.oneCell') = true := row_one fun _ _ => rfl
theorem brow_ext {f g : Nat → Bool} (h : ∀ i, i < 60 → f i = g i) : brow f = brow g := by
  unfold brow row
  refine List.map_congr_left fun i hi => ?_
  rw [h i (by simpa using hi)]
theorem eq_items (f g : Nat → Bool) (d : Nat) (w : World) : ∀ is : List Nat, (∀ i ∈ is, i < 60) → (Op.eqItems (d + 1) 4 1 (brow f).toArray (brow g).toArray is).run Tryz.prog w = .ok (is.all fun i => f i == g i) w
  | [], _ => rfl
  | i :: is, h => by
    have hi := h i List.mem_cons_self
    have he : Tryz.prog.plainKey 4 = true := by kernel_rfl
    have p1 : (Go.part 4 (brow f).toArray (i * 1)).run Tryz.prog w = .ok (.bool (f i)) w := run_part_plain w he (by rw [Nat.mul_one, List.getElem?_toArray]; exact brow_get hi)
    have p2 : (Go.part 4 (brow g).toArray (i * 1)).run Tryz.prog w = .ok (.bool (g i)) w := run_part_plain w he (by rw [Nat.mul_one, List.getElem?_toArray]; exact brow_get hi)
    have p3 := run_equalIn_bool' (P := Tryz.prog) w d 4 (f i) (g i) Tryz.underlying4
    simp only [Op.eqItems, Sem.run_bind, p1, p2, p3, Result.andThen_ok, List.all_cons]
    cases hb : f i == g i
    · simp
    · simpa using eq_items f g d w is fun j hj => h j (List.mem_cons_of_mem _ hj)
theorem info_bool : ∃ i, Tryz.prog.info? 4 = some i ∧ Tryz.prog.cellsOf 4 = 1 := by
  have h : (Tryz.prog.info? 4).isSome = true := by kernel_rfl
  obtain ⟨i, hi⟩ := Option.isSome_iff_exists.1 h
  exact ⟨i, hi, by kernel_rfl⟩
/-- Two arrays of places compared. -/
theorem eq_rows (f g : Nat → Bool) (w : World) : (binOp .eql 97 (.agg (brow f).toArray) (.agg (brow g).toArray)).run Tryz.prog w = .ok (.bool ((List.range 60).all fun i => f i == g i)) w := by
  obtain ⟨i, hi, hc⟩ := info_bool
  have hu : Tryz.prog.underlying 97 = some (.array 60 4) := by kernel_rfl
  have h := run_equalIn_array (P := Tryz.prog) w 9999 (brow f).toArray (brow g).toArray hu hi
  rw [hc, eq_items f g 9998 w (List.range 60) (fun j hj => by simpa using hj)] at h
  rw [run_eql_struct, h]
  rfl
/-- Whether a place is in one of the pieces. -/
def hadB (ps : List (Nat × ByteArray)) (i : Nat) : Bool := ps.any fun p => decide (p.1 ≤ i ∧ i < p.1 + p.2.size)
theorem hadB_next {ps : List (Nat × ByteArray)} {k : Nat} (h : k < ps.length) (i : Nat) : hadB (ps.take (k + 1)) i = (hadB (ps.take k) i || decide (ps[k].1 ≤ i ∧ i < ps[k].1 + ps[k].2.size)) := by
  unfold hadB
  rw [List.take_succ_eq_append_getElem h, List.any_append]
  simp
theorem hadB_pcs {d : ByteArray} {b : Nat} (hb : b ≤ d.size) (i : Nat) : ∀ n a, a ≤ b → b ≤ a + 20 * n → hadB (pcs d b n a) i = decide (a ≤ i ∧ i < b)
  | 0, a, h1, h2 => by
    have : ¬ (a ≤ i ∧ i < b) := by omega
    simp [hadB, pcs, this]
  | n + 1, a, h1, h2 => by
    by_cases h : a < b
    · have ih := hadB_pcs hb i n (min b (a + 20)) (by omega) (by omega)
      simp only [pcs, if_pos h]
      show (decide (a ≤ i ∧ i < a + (d.extract a (min b (a + 20))).size) || hadB (pcs d b n (min b (a + 20))) i) = _
      rw [ih, ByteArray.size_extract]
      by_cases h3 : a ≤ i ∧ i < b
      · rw [decide_eq_true h3]
        by_cases h4 : i < min b (a + 20)
        · rw [decide_eq_true (by omega)]; rfl
        · rw [decide_eq_true (show min b (a + 20) ≤ i ∧ i < b by omega), Bool.or_true]
      · rw [decide_eq_false h3, decide_eq_false (by omega), decide_eq_false (by omega)]; rfl
    · have : ¬ (a ≤ i ∧ i < b) := by omega
      simp [pcs, h, hadB, this]
theorem hadB_pieces {e : En} (h : EInv e) (i : Nat) : hadB (pieces e) i = decide ((pk e).1 ≤ i ∧ i < (pk e).2) := by
  have h60 := h.en60
  unfold pieces
  rw [hadB_pcs (en_le e) i 3 e.t h.t1 (by omega)]
  unfold pk
  split
  · rfl
  · rw [decide_eq_false (by omega), decide_eq_false (by omega)]
theorem zero_places (W : World) : (zeroValue 97).run Tryz.prog W = .ok (.agg (brow fun _ => false).toArray) W := by kernel_rfl
/-- The places so far, in the block behind that of the answer. -/
structure Pl (w wr : World) (f : Nat → Bool) : Prop where
  c : ∀ i, i < 60 → wr.cell? ⟨w.heap.size + 1, i, none⟩ = some (.bool (f i))
  z : ∀ i, wr.frozen? ⟨w.heap.size + 1, i, none⟩ = false
  t : wr.there w.heap.size 0 60
  b : Below w.heap.size w wr
  l : w.heap.size + 1 < wr.heap.size
theorem Pl.new (w : World) : Pl w ((w.alloc (.cells (brow fun _ => false).toArray 97)).alloc (.cells (brow fun _ => false).toArray 97)) (fun _ => false) := by
  refine ⟨fun i hi => by simp [brow, row, hi], fun i => by simp, World.there_alloc (fun j hj => ?_) _, ((Below.refl _ _).alloc (Nat.le_refl _) _).alloc (by simp) _, by simp⟩
  simp [brow, row, hj]
theorem below_sets {B b : Nat} {a : World} (hb : B ≤ b) : ∀ (vs : List Value) (o : Nat) (w : World), Below B a w → Below B a (w.setCells b o vs)
  | [], _, _, h => h
  | v :: vs, o, w, h => below_sets hb vs (o + 1) _ (h.setCell (p := ⟨b, o, none⟩) hb v)
theorem Pl.alloc {w wr : World} {f : Nat → Bool} (h : Pl w wr f) (o : Go.Obj) : Pl w (wr.alloc o) f :=
  ⟨fun i hi => (World.cell?_alloc_lt _ _ _ h.l).trans (h.c i hi), fun i => (World.frozen?_alloc_past _ _ _ h.l).trans (h.z i), World.there_alloc h.t _, h.b.alloc h.b.size _, by rw [World.size_alloc]; have := h.l; omega⟩
theorem Pl.set {w wr : World} {f : Nat → Bool} (h : Pl w wr f) {j : Nat} (hj : j < 60) {g : Nat → Bool} (hg : ∀ i, i < 60 → g i = (f i || decide (i = j))) : Pl w (wr.setCell ⟨w.heap.size + 1, j, none⟩ (.bool true)) g := by
  refine ⟨fun i hi => ?_, fun i => by simpa using h.z i, fun k hk => ?_, h.b.setCell (p := ⟨w.heap.size + 1, j, none⟩) (by show w.heap.size ≤ w.heap.size + 1; omega) _, by simpa using h.l⟩
  · by_cases e : i = j
    · subst e
      rw [hg i hi, decide_eq_true rfl, Bool.or_true]
      exact World.cell?_setCell_same _ _ _ (h.c i hi)
    · rw [hg i hi, decide_eq_false e, Bool.or_false, World.cell?_setCell_other _ _ _ _ (fun e' => by injection e' with _ e' _; exact e e'.symm)]
      exact h.c i hi
  · obtain ⟨h1, h2⟩ := h.t k hk
    refine ⟨?_, by simpa using h2⟩
    rw [World.cell?_setCell_other _ _ _ _ (fun e' => by injection e' with e' _ _; omega)]
    exact h1
theorem row_at_mid {w : World} {b o : Nat} {f : Nat → Bool} (h : ∀ i, i < 60 → w.cell? ⟨b, o + i, none⟩ = some (.bool (f i))) : w.rangeAt b o (brow f) := fun j v hv => by
  obtain ⟨hj, rfl⟩ := row_out hv
  exact h j hj
theorem size_places : (Tryz.prog.info? 97).map (·.size) = some 60 := by kernel_rfl
theorem load_places_op {ops : Array Oper} {rest : List Oper} {op : Oper} {a : Act} {w : World} {Q : Exit → Act → World → Prop} (hgd : op.guard = none) (x : Operand) (ho : op.op = .load 97 x)
    (b o : Nat) (hx : a.eval x = .pointer (some ⟨b, o, none⟩)) {f : Nat → Bool} (hc : w.rangeAt b o (brow f)) (h : wpList Tryz.prog ops Q rest (a.put op.dst (.agg (brow f).toArray)) w) : wpList Tryz.prog ops Q (op :: rest) a w :=
  wpList_load_mid hgd 97 x ho b o hx (brow f) (.array 60 4) hc (by kernel_rfl) rfl (by rw [brow_length]; exact size_places) h
theorem store_places_op {ops : Array Oper} {rest : List Oper} {op : Oper} {a : Act} {w : World} {Q : Exit → Act → World → Prop} (hgd : op.guard = none) (x y : Operand) (ho : op.op = .store 97 x y)
    (b o : Nat) {f : Nat → Bool} (hx : a.eval x = .pointer (some ⟨b, o, none⟩)) (hy : a.eval y = .agg (brow f).toArray) (ht : w.there b o 60) (h : wpList Tryz.prog ops Q rest (a.put op.dst undef) (w.setCells b o (brow f))) : wpList Tryz.prog ops Q (op :: rest) a w :=
  wpList_store_mid hgd 97 x y ho b o (brow f).toArray hx hy (by simpa [brow_length] using ht) (by simpa [brow_length] using size_places) (brow_one f) (by simpa using h)
theorem results_places {fn : Func} {p : Tmp} (h : fn.results = #[.cell p 97]) {tmps : Array Value} {b : Nat} (hp : tmps.getD p undef = .pointer (some ⟨b, 0, none⟩)) {w : World} {f : Nat → Bool} (hc : w.rangeAt b 0 (brow f)) :
    (results fn tmps).run Tryz.prog w = .ok (.agg (brow f).toArray) w := by
  rw [results_cell1 h, hp]
  have := run_loadVar_mid (P := Tryz.prog) w b 0 97 (brow f) (.array 60 4) hc (by kernel_rfl) rfl (by rw [brow_length]; exact size_places)
  simp only [asAddr, Sem.run_pure, Result.andThen_ok, this]
set_option maxRecDepth 100000 in
set_option maxHeartbeats 4000000 in
theorem placesOf_calls {w : World} {vp : Value} {Bp : Nat} {ps : List (Nat × ByteArray)} (hv : w.ownsRow Bp 146 2 vp ps.length (pcell ps)) (hm3 : ps.length ≤ 3) (hpe : ∀ p ∈ ps, p.1 + p.2.size ≤ 60) :
    Calls Tryz.prog 128 #[vp] w fun ex w' => ex = .returned (.agg (brow (hadB ps)).toArray) ∧ Below w.heap.size w w' := by
  have HV : Hid (w.ownsRow Bp 146 2 vp ps.length (pcell ps)) := hv
  have HPE : Hid (∀ p ∈ ps, p.1 + p.2.size ≤ 60) := hpe
  obtain ⟨aov, cv, hvp⟩ := own_sh hv
  have HVV : Hid (vp = .slice aov ps.length cv) := hvp
  rw [hvp]
  have hPl : Hid (Pl w ((w.alloc (.cells (brow fun _ => false).toArray 97)).alloc (.cells (brow fun _ => false).toArray 97)) (fun _ => false)) := Pl.new w
  have hz := zero_places
  generalize (brow fun _ => false).toArray = z at hPl hz
  clear hv hpe hvp
  generalize hM : ps.length = m at HVV hm3 ⊢
  have HM : Hid (ps.length = m) := hM
  clear hM
  go_enter Tryz.func128, Tryz.ntmps128
  go_wp2_with fail
  generalize (w.alloc (.cells z 97)).alloc (.cells z 97) = W2 at *
  clear hz
  go_loopg [9] m (fun gk s9 wr => ∃ k : Nat, gk + k = m ∧ s9 = .int .i64 k ∧ Hid (Pl w wr (hadB (ps.take k))))
  case atStart => exact ⟨0, rfl, rfl, hPl.out⟩
  case round =>
    obtain ⟨k, hk, rfl, HP⟩ := hrel
    have HK : Hid (gk + k = m) := hk
    clear hk
    by_cases g : (k : Int) < (m : Int)
    · have hkl : k < ps.length := by have := HM.out; omega
      obtain ⟨gb, capv, hv1, hgb⟩ : ∃ gb capv, vp = .slice (some ⟨gb, 0, none⟩) m capv ∧ gb < w.heap.size := by
        rcases HV.out.2 with ⟨_, h0⟩ | ⟨gb, capv, cur, h1, h2, h3, _⟩
        · omega
        · exact ⟨gb, capv, by rw [h1, HM.out], (Array.getElem?_eq_some_iff.1 h3).1⟩
      have hv2 : Value.slice aov m cv = .slice (some ⟨gb, 0, none⟩) m capv := HVV.out.symm.trans hv1
      injection hv2 with e1 e2 e3
      subst e1 e3
      have hvv := HV.out
      rw [hv1, HM.out] at hvv
      have y0 := hvv.cellAt (k * 2) (by omega)
      have y1 := hvv.cellAt (k * 2 + 1) (by omega)
      rw [(pcell_at ps k hkl).1] at y0
      rw [(pcell_at ps k hkl).2] at y1
      have z0 := (HP.out.b.cell (p := ⟨gb, k * 2, none⟩) hgb).trans y0
      have z1 := (HP.out.b.cell (p := ⟨gb, k * 2 + 1, none⟩) hgb).trans y1
      have HN : Hid (∀ i, hadB (ps.take (k + 1)) i = (hadB (ps.take k) i || decide (ps[k].1 ≤ i ∧ i < ps[k].1 + ps[k].2.size))) := fun i => hadB_next hkl i
      have hpe := HPE.out ps[k] (List.getElem_mem hkl)
      clear hvv hv1 y0 y1
      generalize ps[k] = pp at *
      clear hkl
      obtain ⟨p, s⟩ := pp
      simp only at z0 z1 hpe HN
      obtain ⟨f1, hf1⟩ : ∃ f1, hadB (ps.take (k + 1)) = f1 := ⟨_, rfl⟩
      rw [hf1] at HN
      have HF1 : Hid (hadB (ps.take (k + 1)) = f1) := hf1
      clear hf1
      generalize hadB (ps.take k) = f0 at *
      have HP0 : Hid (Pl w (wr.alloc (.cells #[.int .i64 (p : Int), .string s] 146)) f0) := HP.out.alloc _
      have q0 : (wr.alloc (.cells #[.int .i64 (p : Int), .string s] 146)).cell? ⟨wr.heap.size, 0, none⟩ = some (.int .i64 (p : Int)) := by simp
      have q1 : (wr.alloc (.cells #[.int .i64 (p : Int), .string s] 146)).cell? ⟨wr.heap.size, 1, none⟩ = some (.string s) := by simp
      have hne : w.heap.size + 1 ≠ wr.heap.size := by have := HP.out.l; omega
      have HNE : Hid (w.heap.size + 1 ≠ wr.heap.size) := hne
      clear HP hne
      go_wp2_with fail
      generalize wr.alloc (.cells #[.int .i64 (p : Int), .string s] 146) = Wp at *
      generalize wr.heap.size = pb at *
      go_loopg [16] s.size (fun gk s16 wr => ∃ j : Nat, gk + j = s.size ∧ s16 = .int .i64 j ∧ wr.cell? ⟨pb, 0, none⟩ = some (.int .i64 (p : Int)) ∧ Hid (Pl w wr (fun i => f0 i || decide (p ≤ i ∧ i < p + j))))
      case atStart => exact ⟨0, rfl, rfl, q0, (show Pl _ _ _ from ⟨fun i hi => by rw [HP0.out.c i hi, decide_eq_false (by omega), Bool.or_false], HP0.out.z, HP0.out.t, HP0.out.b, HP0.out.l⟩)⟩
      case round =>
        obtain ⟨j, hj, rfl, q2, HQ⟩ := hrel
        have HJ : Hid (gk + j = s.size) := hj
        clear hj
        by_cases g2 : (j : Int) < (s.size : Int)
        · have gb2 : (p : Int) + (j : Int) < 60 := by omega
          have u1 := Sx.wrap_small ((p : Int) + (j : Int)) (by omega) (by omega)
          have hzf := HQ.out.z (p + j)
          have hcf := HQ.out.c (p + j) (by omega)
          have HQ2 : Hid (Pl w (wr.setCell ⟨w.heap.size + 1, p + j, none⟩ (.bool true)) (fun i => f0 i || decide (p ≤ i ∧ i < p + (j + 1)))) := by
            refine HQ.out.set (j := p + j) (by omega) fun i hi => ?_
            by_cases e : i = p + j
            · rw [decide_eq_true e, Bool.or_true, decide_eq_true (by omega), Bool.or_true]
            · rw [decide_eq_false e, Bool.or_false]
              congr 1
              by_cases e2 : p ≤ i ∧ i < p + j
              · rw [decide_eq_true e2, decide_eq_true (by omega)]
              · rw [decide_eq_false e2, decide_eq_false (by omega)]
          have q3 : (wr.setCell ⟨w.heap.size + 1, p + j, none⟩ (.bool true)).cell? ⟨pb, 0, none⟩ = some (.int .i64 (p : Int)) := by
            rw [World.cell?_setCell_other _ _ _ _ (fun e' => by injection e' with e' _ _; exact HNE.out e')]
            exact q2
          clear HQ
          generalize (f0 (p + j) || decide (p ≤ p + j ∧ p + j < p + j)) = bb at hcf
          go_wp2_with fail
          go_roundg (s.size - (j + 1))
          case measure => have := HJ.out; omega
          case rel => exact ⟨j + 1, by have := HJ.out; omega, by go_num, q3, HQ2⟩
        · have HF : Hid (Pl w wr f1) := by
            have e : s.size = j := by have := HJ.out; omega
            refine ⟨fun i hi => ?_, HQ.out.z, HQ.out.t, HQ.out.b, HQ.out.l⟩
            rw [HQ.out.c i hi, HN.out i, e]
          clear HQ
          go_wp2_with fail
          go_roundg (m - (k + 1))
          case measure => have := HK.out; omega
          case rel => exact ⟨k + 1, by have := HK.out; omega, by go_num, by rw [HF1.out]; exact HF⟩
    · have HE : Hid (ps.take k = ps) := by show _ = _; exact List.take_of_length_le (by have := HM.out; have := HK.out; omega)
      rw [HE.out] at HP
      have hra : wr.rangeAt (w.heap.size + 1) 0 (brow (hadB ps)) := row_at_mid (fun i hi => by rw [Nat.zero_add]; exact HP.out.c i hi)
      have HRA : Hid (wr.rangeAt (w.heap.size + 1) 0 (brow (hadB ps))) := hra
      have HTH : Hid (wr.there w.heap.size 0 60) := HP.out.t
      have HR : Hid ((wr.setCells w.heap.size 0 (brow (hadB ps))).rangeAt w.heap.size 0 (brow (hadB ps))) := World.rangeAt_setCells_same _ _ _ _ (by rw [brow_length]; exact HP.out.t)
      have HBS : Hid (Below w.heap.size w (wr.setCells w.heap.size 0 (brow (hadB ps)))) := below_sets (Nat.le_refl _) _ _ _ HP.out.b
      clear HE HP hra
      go_wp2_with (first | (refine load_places_op rfl (.tmp 3) rfl (w.heap.size + 1) 0 rfl HRA.out ?_) | (refine store_places_op rfl (.tmp 2) (.tmp 26) rfl w.heap.size 0 rfl rfl HTH.out ?_))
      refine bodyPost_ret (v := .agg (brow (hadB ps)).toArray) ?_ rfl ⟨rfl, HBS.out⟩
      exact results_places rfl rfl HR.out
end Go.Proofs.YtdokgalidhmbbaaGreatDoor
