/- Which bytes pieces have; what placesOf answers. -/
import Derived.Test.YtegelodkopommaaGreatDoorED
import Derived.ChangeKeysEq
import Derived.Laws.OwnMore
namespace Go.Proofs.YtegelodkopommaaGreatDoor
open Go.RowKit Go.Lib Go.Sort
set_option linter.unusedVariables false
set_option linter.unusedSimpArgs false


def brow (f : Nat → Bool) : List Value := row 60 fun i => .bool (f i)
theorem brow_get {f : Nat → Bool} {i : Nat} (h : i < 60) : (brow f)[i]? = some (.bool (f i)) := row_get h
theorem brow_length (f : Nat → Bool) : (brow f).length = 60 := row_length _ _
theorem brow_one (f : Nat → Bool) : (brow f).toArray.all (·.oneCell') = true := row_one fun _ _ => rfl
theorem brow_ext {f g : Nat → Bool} (h : ∀ i, i < 60 → f i = g i) : brow f = brow g := by
  unfold brow row
  refine List.map_congr_left fun i hi => ?_
  rw [h i (by simpa using hi)]
theorem eq_items (f g : Nat → Bool) (d : Nat) (w : World) : ∀ is : List Nat, (∀ i ∈ is, i < 60) → (Op.eqItems (d + 1) 4 1 (brow f).toArray (brow g).toArray is).run Tryz.prog w = .ok (is.all fun i => f i == g i) w
  | [], _ => rfl
  | i :: is, h => by
    have hi := h i List.mem_cons_self
    have he : Tryz.prog.plainKey 4 = true := by kernel_rfl
    have p1 : (Go.part 4 (brow f).toArray (i * 1)).run Tryz.prog w = .ok (.bool (f i)) w := run_part_plain w he (by rw [Nat.mul_one, List.getElem?_toArray]; exact brow_get hi)
    have p2 : (Go.part 4 (brow g).toArray (i * 1)).run Tryz.prog w = .ok (.bool (g i)) w := run_part_plain w he (by rw [Nat.mul_one, List.getElem?_toArray]; exact brow_get hi)
    have p3 := run_equalIn_bool' (P := Tryz.prog) w d 4 (f i) (g i) Tryz.underlying4
    simp only [Op.eqItems, Sem.run_bind, p1, p2, p3, Result.andThen_ok, List.all_cons]
    cases hb : f i == g i
    · simp
    · simpa using eq_items f g d w is fun j hj => h j (List.mem_cons_of_mem _ hj)
theorem info_bool : ∃ i, Tryz.prog.info? 4 = some i ∧ Tryz.prog.cellsOf 4 = 1 := by
  have h : (Tryz.prog.info? 4).isSome = true := by kernel_rfl
  obtain ⟨i, hi⟩ := Option.isSome_iff_exists.1 h
  exact ⟨i, hi, by kernel_rfl⟩
/-- Two arrays of places compared. -/
theorem eq_rows (f g : Nat → Bool) (w : World) : (binOp .eql 79 (.agg (brow f).toArray) (.agg (brow g).toArray)).run Tryz.prog w = .ok (.bool ((List.range 60).all fun i => f i == g i)) w := by
  obtain ⟨i, hi, hc⟩ := info_bool
  have hu : Tryz.prog.underlying 79 = some (.array 60 4) := by kernel_rfl
  have h := run_equalIn_array (P := Tryz.prog) w 9999 (brow f).toArray (brow g).toArray hu hi
  rw [hc, eq_items f g 9998 w (List.range 60) (fun j hj => by simpa using hj)] at h
  rw [run_eql_struct, h]
  rfl
/-- Whether a place is in one of the pieces. -/
def hadB (ps : List (Nat × ByteArray)) (i : Nat) : Bool := ps.any fun p => decide (p.1 ≤ i ∧ i < p.1 + p.2.size)
theorem hadB_next {ps : List (Nat × ByteArray)} {k : Nat} (h : k < ps.length) (i : Nat) : hadB (ps.take (k + 1)) i = (hadB (ps.take k) i || decide (ps[k].1 ≤ i ∧ i < ps[k].1 + ps[k].2.size)) := by
  unfold hadB
  rw [List.take_succ_eq_append_getElem h, List.any_append]
  simp
theorem hadB_pcs {d : ByteArray} {b : Nat} (hb : b ≤ d.size) (i : Nat) : ∀ n a, a ≤ b → b ≤ a + 20 * n → hadB (pcs d b n a) i = decide (a ≤ i ∧ i < b)
  | 0, a, h1, h2 => by
    have : ¬ (a ≤ i ∧ i < b) := by omega
    simp [hadB, pcs, this]
  | n + 1, a, h1, h2 => by
    by_cases h : a < b
    · have ih := hadB_pcs hb i n (min b (a + 20)) (by omega) (by omega)
      simp only [pcs, if_pos h]
      show (decide (a ≤ i ∧ i < a + (d.extract a (min b (a + 20))).size) || hadB (pcs d b n (min b (a + 20))) i) = _
      rw [ih, ByteArray.size_extract]
      by_cases h3 : a ≤ i ∧ i < b
      · rw [decide_eq_true h3]
        by_cases h4 : i < min b (a + 20)
        · rw [decide_eq_true (by omega)]; rfl
        · rw [decide_eq_true (show min b (a + 20) ≤ i ∧ i < b by omega), Bool.or_true]
      · rw [decide_eq_false h3, decide_eq_false (by omega), decide_eq_false (by omega)]; rfl
    · have : ¬ (a ≤ i ∧ i < b) := by omega
      simp [pcs, h, hadB, this]
theorem hadB_pieces {e : En} (h : EInv e) (i : Nat) : hadB (pieces e) i = decide ((pk e).1 ≤ i ∧ i < (pk e).2) := by
  have h60 := h.en60
  unfold pieces
  rw [hadB_pcs (en_le e) i 3 e.t h.t1 (by omega)]
  unfold pk
  split
  · rfl
  · rw [decide_eq_false (by omega), decide_eq_false (by omega)]
theorem zero_places (W : World) : (zeroValue 79).run Tryz.prog W = .ok (.agg (brow fun _ => false).toArray) W := by kernel_rfl
/-- The places so far, in the block behind that of the answer. -/
structure Pl (w wr : World) (f : Nat → Bool) : Prop where
  c : ∀ i, i < 60 → wr.cell? ⟨w.heap.size + 1, i, none⟩ = some (.bool (f i))
  z : ∀ i, wr.frozen? ⟨w.heap.size + 1, i, none⟩ = false
  t : wr.there w.heap.size 0 60
  b : Below w.heap.size w wr
  l : w.heap.size + 1 < wr.heap.size
theorem Pl.new (w : World) : Pl w ((w.alloc (.cells (brow fun _ => false).toArray 79)).alloc (.cells (brow fun _ => false).toArray 79)) (fun _ => false) := by
  refine ⟨fun i hi => by simp [brow, row, hi], fun i => by simp, World.there_alloc (fun j hj => ?_) _, ((Below.refl _ _).alloc (Nat.le_refl _) _).alloc (by simp) _, by simp⟩
  simp [brow, row, hj]
theorem below_sets {B b : Nat} {a : World} (hb : B ≤ b) : ∀ (vs : List Value) (o : Nat) (w : World), Below B a w → Below B a (w.setCells b o vs)
  | [], _, _, h => h
  | v :: vs, o, w, h => below_sets hb vs (o + 1) _ (h.setCell (p := ⟨b, o, none⟩) hb v)
theorem Pl.alloc {w wr : World} {f : Nat → Bool} (h : Pl w wr f) (o : Go.Obj) : Pl w (wr.alloc o) f :=
  ⟨fun i hi => (World.cell?_alloc_lt _ _ _ h.l).trans (h.c i hi), fun i => (World.frozen?_alloc_past _ _ _ h.l).trans (h.z i), World.there_alloc h.t _, h.b.alloc h.b.size _, by rw [World.size_alloc]; have := h.l; omega⟩
theorem Pl.set {w wr : World} {f : Nat → Bool} (h : Pl w wr f) {j : Nat} (hj : j < 60) {g : Nat → Bool} (hg : ∀ i, i < 60 → g i = (f i || decide (i = j))) : Pl w (wr.setCell ⟨w.heap.size + 1, j, none⟩ (.bool true)) g := by
  refine ⟨fun i hi => ?_, fun i => by simpa using h.z i, fun k hk => ?_, h.b.setCell (p := ⟨w.heap.size + 1, j, none⟩) (by show w.heap.size ≤ w.heap.size + 1; omega) _, by simpa using h.l⟩
  · by_cases e : i = j
    · subst e
      rw [hg i hi, decide_eq_true rfl, Bool.or_true]
      exact World.cell?_setCell_same _ _ _ (h.c i hi)
    · rw [hg i hi, decide_eq_false e, Bool.or_false, World.cell?_setCell_other _ _ _ _ (fun e' => by injection e' with _ e' _; exact e e'.symm)]
      exact h.c i hi
  · obtain ⟨h1, h2⟩ := h.t k hk
    refine ⟨?_, by simpa using h2⟩
    rw [World.cell?_setCell_other _ _ _ _ (fun e' => by injection e' with e' _ _; omega)]
    exact h1
theorem row_at_mid {w : World} {b o : Nat} {f : Nat → Bool} (h : ∀ i, i < 60 → w.cell? ⟨b, o + i, none⟩ = some (.bool (f i))) : w.rangeAt b o (brow f) := fun j v hv => by
  obtain ⟨hj, rfl⟩ := row_out hv
  exact h j hj
theorem size_places : (Tryz.prog.info? 79).map (·.size) = some 60 := by kernel_rfl
theorem load_places {w : World} {b o : Nat} {f : Nat → Bool} (h : ∀ i, i < 60 → w.cell? ⟨b, o + i, none⟩ = some (.bool (f i))) : (Instr.loadAt 79 (.pointer (some ⟨b, o, none⟩))).run Tryz.prog w = .ok (.agg (brow f).toArray) w :=
  run_loadAt_mid w b o 79 (brow f) (.array 60 4) (row_at_mid h) (by kernel_rfl) rfl (by rw [brow_length]; exact size_places)
theorem store_places {w : World} {b o : Nat} (f : Nat → Bool) (h : w.there b o 60) : (Instr.storeAt 79 (.pointer (some ⟨b, o, none⟩)) (.agg (brow f).toArray)).run Tryz.prog w = .ok () (w.setCells b o (brow f)) := by
  have := run_storeAt_mid (P := Tryz.prog) w b o 79 (brow f).toArray (by simpa [brow_length] using h) (by simpa [brow_length] using size_places) (brow_one f)
  simpa using this
theorem load_places_op {ops : Array Oper} {rest : List Oper} {op : Oper} {a : Act} {w : World} {Q : Exit → Act → World → Prop} (hgd : op.guard = none) (x : Operand) (ho : op.op = .load 79 x)
    (b o : Nat) (hx : a.eval x = .pointer (some ⟨b, o, none⟩)) {f : Nat → Bool} (hc : w.rangeAt b o (brow f)) (h : wpList Tryz.prog ops Q rest (a.put op.dst (.agg (brow f).toArray)) w) : wpList Tryz.prog ops Q (op :: rest) a w :=
  wpList_load_mid hgd 79 x ho b o hx (brow f) (.array 60 4) hc (by kernel_rfl) rfl (by rw [brow_length]; exact size_places) h
theorem store_places_op {ops : Array Oper} {rest : List Oper} {op : Oper} {a : Act} {w : World} {Q : Exit → Act → World → Prop} (hgd : op.guard = none) (x y : Operand) (ho : op.op = .store 79 x y)
    (b o : Nat) {f : Nat → Bool} (hx : a.eval x = .pointer (some ⟨b, o, none⟩)) (hy : a.eval y = .agg (brow f).toArray) (ht : w.there b o 60) (h : wpList Tryz.prog ops Q rest (a.put op.dst undef) (w.setCells b o (brow f))) : wpList Tryz.prog ops Q (op :: rest) a w :=
  wpList_store_mid hgd 79 x y ho b o (brow f).toArray hx hy (by simpa [brow_length] using ht) (by simpa [brow_length] using size_places) (brow_one f) (by simpa using h)
theorem results_places {fn : Func} {p : Tmp} (h : fn.results = #[.cell p 79]) {tmps : Array Value} {b : Nat} (hp : tmps.getD p undef = .pointer (some ⟨b, 0, none⟩)) {w : World} {f : Nat → Bool} (hc : w.rangeAt b 0 (brow f)) :
    (results fn tmps).run Tryz.prog w = .ok (.agg (brow f).toArray) w := by
  rw [results_cell1 h, hp]
  have := run_loadVar_mid (P := Tryz.prog) w b 0 79 (brow f) (.array 60 4) hc (by kernel_rfl) rfl (by rw [brow_length]; exact size_places)
  simp only [asAddr, Sem.run_pure, Result.andThen_ok, this]
set_option maxRecDepth 100000 in
set_option maxHeartbeats 4000000 in
theorem placesOf_calls {w : World} {vp : Value} {Bp : Nat} {ps : List (Nat × ByteArray)} (hv : w.ownsRow Bp 112 2 vp ps.length (pcell ps)) (hm3 : ps.length ≤ 3) (hpe : ∀ p ∈ ps, p.1 + p.2.size ≤ 60) :
    Calls Tryz.prog 37 #[vp] w fun ex w' => ex = .returned (.agg (brow (hadB ps)).toArray) ∧ Below w.heap.size w w' := by
  have HV : Hid (w.ownsRow Bp 112 2 vp ps.length (pcell ps)) := hv
  have HPE : Hid (∀ p ∈ ps, p.1 + p.2.size ≤ 60) := hpe
  obtain ⟨aov, cv, hvp⟩ := own_sh hv
  have HVV : Hid (vp = .slice aov ps.length cv) := hvp
  rw [hvp]
  have hPl : Hid (Pl w ((w.alloc (.cells (brow fun _ => false).toArray 79)).alloc (.cells (brow fun _ => false).toArray 79)) (fun _ => false)) := Pl.new w
  have hz := zero_places
  generalize (brow fun _ => false).toArray = z at hPl hz
  clear hv hpe hvp
  generalize hM : ps.length = m at HVV hm3 ⊢
  have HM : Hid (ps.length = m) := hM
  clear hM
  go_enter Tryz.func37, Tryz.ntmps37
  go_wp2_with fail
  generalize (w.alloc (.cells z 79)).alloc (.cells z 79) = W2 at *
  clear hz
  go_loopg [9] m (fun gk s9 wr => ∃ k : Nat, gk + k = m ∧ s9 = .int .i64 k ∧ Hid (Pl w wr (hadB (ps.take k))))
  case atStart => exact ⟨0, rfl, rfl, hPl.out⟩
  case round =>
    obtain ⟨k, hk, rfl, HP⟩ := hrel
    have HK : Hid (gk + k = m) := hk
    clear hk
    by_cases g : (k : Int) < (m : Int)
    · have hkl : k < ps.length := by have := HM.out; omega
      obtain ⟨gb, capv, hv1, hgb⟩ : ∃ gb capv, vp = .slice (some ⟨gb, 0, none⟩) m capv ∧ gb < w.heap.size := by
        rcases HV.out.2 with ⟨_, h0⟩ | ⟨gb, capv, cur, h1, h2, h3, _⟩
        · omega
        · exact ⟨gb, capv, by rw [h1, HM.out], (Array.getElem?_eq_some_iff.1 h3).1⟩
      have hv2 : Value.slice aov m cv = .slice (some ⟨gb, 0, none⟩) m capv := HVV.out.symm.trans hv1
      injection hv2 with e1 e2 e3
      subst e1 e3
      have hvv := HV.out
      rw [hv1, HM.out] at hvv
      have y0 := hvv.cellAt (k * 2) (by omega)
      have y1 := hvv.cellAt (k * 2 + 1) (by omega)
      rw [(pcell_at ps k hkl).1] at y0
      rw [(pcell_at ps k hkl).2] at y1
      have z0 := (HP.out.b.cell (p := ⟨gb, k * 2, none⟩) hgb).trans y0
      have z1 := (HP.out.b.cell (p := ⟨gb, k * 2 + 1, none⟩) hgb).trans y1
      have HN : Hid (∀ i, hadB (ps.take (k + 1)) i = (hadB (ps.take k) i || decide (ps[k].1 ≤ i ∧ i < ps[k].1 + ps[k].2.size))) := fun i => hadB_next hkl i
      have hpe := HPE.out ps[k] (List.getElem_mem hkl)
      clear hvv hv1 y0 y1
      generalize ps[k] = pp at *
      clear hkl
      obtain ⟨p, s⟩ := pp
      simp only at z0 z1 hpe HN
      obtain ⟨f1, hf1⟩ : ∃ f1, hadB (ps.take (k + 1)) = f1 := ⟨_, rfl⟩
      rw [hf1] at HN
      have HF1 : Hid (hadB (ps.take (k + 1)) = f1) := hf1
      clear hf1
      generalize hadB (ps.take k) = f0 at *
      have HP0 : Hid (Pl w (wr.alloc (.cells #[.int .i64 (p : Int), .string s] 112)) f0) := HP.out.alloc _
      have q0 : (wr.alloc (.cells #[.int .i64 (p : Int), .string s] 112)).cell? ⟨wr.heap.size, 0, none⟩ = some (.int .i64 (p : Int)) := by simp
      have q1 : (wr.alloc (.cells #[.int .i64 (p : Int), .string s] 112)).cell? ⟨wr.heap.size, 1, none⟩ = some (.string s) := by simp
      have hne : w.heap.size + 1 ≠ wr.heap.size := by have := HP.out.l; omega
      have HNE : Hid (w.heap.size + 1 ≠ wr.heap.size) := hne
      clear HP hne
      go_wp2_with fail
      generalize wr.alloc (.cells #[.int .i64 (p : Int), .string s] 112) = Wp at *
      generalize wr.heap.size = pb at *
      go_loopg [16] s.size (fun gk s16 wr => ∃ j : Nat, gk + j = s.size ∧ s16 = .int .i64 j ∧ wr.cell? ⟨pb, 0, none⟩ = some (.int .i64 (p : Int)) ∧ Hid (Pl w wr (fun i => f0 i || decide (p ≤ i ∧ i < p + j))))
      case atStart => exact ⟨0, rfl, rfl, q0, (show Pl _ _ _ from ⟨fun i hi => by rw [HP0.out.c i hi, decide_eq_false (by omega), Bool.or_false], HP0.out.z, HP0.out.t, HP0.out.b, HP0.out.l⟩)⟩
      case round =>
        obtain ⟨j, hj, rfl, q2, HQ⟩ := hrel
        have HJ : Hid (gk + j = s.size) := hj
        clear hj
        by_cases g2 : (j : Int) < (s.size : Int)
        · have gb2 : (p : Int) + (j : Int) < 60 := by omega
          have u1 := Sx.wrap_small ((p : Int) + (j : Int)) (by omega) (by omega)
          have hzf := HQ.out.z (p + j)
          have hcf := HQ.out.c (p + j) (by omega)
          have HQ2 : Hid (Pl w (wr.setCell ⟨w.heap.size + 1, p + j, none⟩ (.bool true)) (fun i => f0 i || decide (p ≤ i ∧ i < p + (j + 1)))) := by
            refine HQ.out.set (j := p + j) (by omega) fun i hi => ?_
            by_cases e : i = p + j
            · rw [decide_eq_true e, Bool.or_true, decide_eq_true (by omega), Bool.or_true]
            · rw [decide_eq_false e, Bool.or_false]
              congr 1
              by_cases e2 : p ≤ i ∧ i < p + j
              · rw [decide_eq_true e2, decide_eq_true (by omega)]
              · rw [decide_eq_false e2, decide_eq_false (by omega)]
          have q3 : (wr.setCell ⟨w.heap.size + 1, p + j, none⟩ (.bool true)).cell? ⟨pb, 0, none⟩ = some (.int .i64 (p : Int)) := by
            rw [World.cell?_setCell_other _ _ _ _ (fun e' => by injection e' with e' _ _; exact HNE.out e')]
            exact q2
          clear HQ
          generalize (f0 (p + j) || decide (p ≤ p + j ∧ p + j < p + j)) = bb at hcf
          go_wp2_with fail
          go_roundg (s.size - (j + 1))
          case measure => have := HJ.out; omega
          case rel => exact ⟨j + 1, by have := HJ.out; omega, by go_num, q3, HQ2⟩
        · have HF : Hid (Pl w wr f1) := by
            have e : s.size = j := by have := HJ.out; omega
            refine ⟨fun i hi => ?_, HQ.out.z, HQ.out.t, HQ.out.b, HQ.out.l⟩
            rw [HQ.out.c i hi, HN.out i, e]
          clear HQ
          go_wp2_with fail
          go_roundg (m - (k + 1))
          case measure => have := HK.out; omega
          case rel => exact ⟨k + 1, by have := HK.out; omega, by go_num, by rw [HF1.out]; exact HF⟩
    · have HE : Hid (ps.take k = ps) := by show _ = _; exact List.take_of_length_le (by have := HM.out; have := HK.out; omega)
      rw [HE.out] at HP
      have hra : wr.rangeAt (w.heap.size + 1) 0 (brow (hadB ps)) := row_at_mid (fun i hi => by rw [Nat.zero_add]; exact HP.out.c i hi)
      have HRA : Hid (wr.rangeAt (w.heap.size + 1) 0 (brow (hadB ps))) := hra
      have HTH : Hid (wr.there w.heap.size 0 60) := HP.out.t
      have HR : Hid ((wr.setCells w.heap.size 0 (brow (hadB ps))).rangeAt w.heap.size 0 (brow (hadB ps))) := World.rangeAt_setCells_same _ _ _ _ (by rw [brow_length]; exact HP.out.t)
      have HBS : Hid (Below w.heap.size w (wr.setCells w.heap.size 0 (brow (hadB ps)))) := below_sets (Nat.le_refl _) _ _ _ HP.out.b
      clear HE HP hra
      go_wp2_with (first | (refine load_places_op rfl (.tmp 3) rfl (w.heap.size + 1) 0 rfl HRA.out ?_) | (refine store_places_op rfl (.tmp 2) (.tmp 26) rfl w.heap.size 0 rfl rfl HTH.out ?_))
      refine bodyPost_ret (v := .agg (brow (hadB ps)).toArray) ?_ rfl ⟨rfl, HBS.out⟩
      exact results_places rfl rfl HR.out
end Go.Proofs.YtegelodkopommaaGreatDoor
