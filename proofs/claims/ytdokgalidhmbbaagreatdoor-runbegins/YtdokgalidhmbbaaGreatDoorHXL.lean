/- What the laws of package run need. -/
import Derived.Test.YtdokgalidhmbbaaGreatDoorHFV
import Derived.Test.YtdokgalidhmbbaaGreatDoorHWX
import Derived.Lay
import Derived.HandedShaped
import Derived.Lib.LaidTab
import Derived.Lib.ItoaNum
set_option linter.unusedVariables false
set_option linter.unusedSimpArgs false
set_option maxRecDepth 100000
set_option maxHeartbeats 8000000
namespace Go.Proofs.YtdokgalidhmbbaaGreatDoor
namespace Rn
open Go.ChangeShapes Go.WideShapes Go.ChangeAt Go.RowKit

/-- Each listed variable by itself. -/
theorem laid_at {P : Program} {w : World} : ∀ {l : List (String × DataW Unit)} {ps : List MemPlace}, DataW.LaidVars P w l ps → ∀ {x : String × DataW Unit}, x ∈ l →
    ∃ g t cs fuel p, P.globalNamed x.1 = some g ∧ (P.globals[g]?).map (·.type) = some t ∧ w.var? P x.1 = some cs ∧ DataW.trod (fun _ => ()) P w 0 (fun _ => true) false fuel t cs.toList = some (x.2, p) ∧ ∀ y ∈ MemPlace.row ⟨g, 0, none⟩ cs.size, y ∈ ps
  | [], _, _, _, hx => by cases hx
  | (n, d) :: r, ps, h, x, hx => by
    obtain ⟨g, t, cs, fuel, p, q, hg, ht, hv, hd, hr, e⟩ := h
    rcases List.mem_cons.1 hx with rfl | hx
    · exact ⟨g, t, cs, fuel, p, hg, ht, hv, hd, fun y hy => by rw [e]; exact List.mem_append_left _ (List.mem_append_left _ hy)⟩
    · obtain ⟨g', t', cs', f', p', a, b, c, d', k⟩ := laid_at hr hx
      exact ⟨g', t', cs', f', p', a, b, c, d', fun y hy => by rw [e]; exact List.mem_append_right _ (k y hy)⟩
theorem starE : "*" ++ "errors.errorString" = "*errors.errorString" := by decide
theorem row286 (u : TypeId) (h : Tryz.prog.typeName? 3 u = some "*errors.errorString") : u = 286 :=
  typeName_ptr_named (nm := "errors.errorString") (by rw [starE]; kernel_rfl) (by kernel_rfl) (by decide) u (by rw [starE]; exact h)
theorem cells288 : Tryz.prog.cellsOf 288 = 1 := by kernel_rfl
theorem cells9 : Tryz.prog.cellsOf 9 = 1 := by kernel_rfl
set_option maxRecDepth 100000 in
theorem sent_of {l : List (String × DataW Unit)} {W : World} (h : laidMet Tryz.prog l W) {nm : String} {text : List UInt8} (hx : (nm, DataW.iface "*errors.errorString" (.ptr (.agg [.lit (.string text)]))) ∈ l) {g : Nat} (hg : Tryz.prog.globalNamed nm = some g) (ht : (Tryz.prog.globals[g]?).map (·.type) = some 33) :
    ∃ a s, W.var? Tryz.prog nm = some #[.iface 286 (.pointer (some a))] ∧ W.cell? a = some (.string s) ∧ s.data.toList = text := by
  obtain ⟨ps, hl, hnd, hrows⟩ := h
  obtain ⟨g', t, cs, fuel, p, hg', ht', hv, hd, hp⟩ := laid_at hl hx
  dsimp only at hg' hv hd
  obtain rfl := Option.some.inj (hg.symm.trans hg')
  obtain rfl := Option.some.inj (ht.symm.trans ht')
  obtain ⟨l0⟩ := cs
  have ok0 : ∀ u v, l0 = [.iface u v] → Value.okWide Tryz.prog W .any 0 u v := fun u v e => by
    subst e
    exact (hrows g 0 (hp _ (by simp [MemPlace.row]))).2 u v (by simpa using World.var?_cell hg hv 0)
  obtain ⟨a0, s0, rfl, hc0, hs0, _, _⟩ := errorString_of_trod Tryz.underlying33 row286 Tryz.underlying286 Tryz.underlying288 rfl rfl Tryz.underlying9 cells288 cells9 hd ok0
  exact ⟨a0, s0, hv, hc0, hs0⟩
def laidA : List (String × DataW Unit) := [("math/bits.deBruijn32tab", Rows.laid_math_bits_deBruijn32tab), ("math/bits.deBruijn64tab", Rows.laid_math_bits_deBruijn64tab), ("internal/strconv.uint64pow10", Rows.laid_internal_strconv_uint64pow10), ("unicode/utf8.acceptRanges", Rows.laid_unicode_utf8_acceptRanges), ("errors.errorType", Rows.laid_errors_errorType), ("strconv.ErrRange", Rows.laid_strconv_ErrRange), ("strconv.ErrSyntax", Rows.laid_strconv_ErrSyntax), ("wanderwire/varint.forms", Rows.laid_wanderwire_varint_forms), ("wanderwire/frame.counts", Rows.laid_wanderwire_frame_counts), ("wanderwire/run.errBad", Rows.laid_wanderwire_run_errBad), ("unicode/utf8.first", Rows.laid_unicode_utf8_first)]
def laidN : List (String × DataW Unit) := [("math/bits.deBruijn32tab", Rows.laid_math_bits_deBruijn32tab), ("math/bits.deBruijn64tab", Rows.laid_math_bits_deBruijn64tab), ("internal/strconv.uint64pow10", Rows.laid_internal_strconv_uint64pow10), ("unicode/utf8.acceptRanges", Rows.laid_unicode_utf8_acceptRanges), ("strconv.ErrRange", Rows.laid_strconv_ErrRange), ("strconv.ErrSyntax", Rows.laid_strconv_ErrSyntax), ("wanderwire/varint.forms", Rows.laid_wanderwire_varint_forms), ("wanderwire/frame.counts", Rows.laid_wanderwire_frame_counts), ("wanderwire/run.errBad", Rows.laid_wanderwire_run_errBad), ("unicode/utf8.first", Rows.laid_unicode_utf8_first)]
def laidF : List (String × DataW Unit) := [("unicode/utf8.first", Rows.laid_unicode_utf8_first)]
set_option maxRecDepth 100000 in
theorem parts_of {W : World} (h : laidMetH Tryz.prog laidA W) : laidMet Tryz.prog laidN W ∧ handlesMet Tryz.prog [("errors.errorType", Rows.laid_errors_errorType)] W := h
set_option maxRecDepth 100000 in
theorem tab_of {W : World} (h : laidMet Tryz.prog laidN W) : Lib.TabIs Tryz.prog W "internal/strconv.uint64pow10" .u64 Lib.pow10Tab := by
  obtain ⟨ps, hl, _, _⟩ := h
  obtain ⟨g', t, cs, fuel, p, hg', ht', hv, hd, hp⟩ := laid_at hl (x := ("internal/strconv.uint64pow10", Rows.laid_internal_strconv_uint64pow10)) (by simp [laidN])
  dsimp only at hg' hv hd
  obtain rfl := Option.some.inj ((show Tryz.prog.globalNamed "internal/strconv.uint64pow10" = some 6 by kernel_rfl).symm.trans hg')
  obtain rfl := Option.some.inj ((show (Tryz.prog.globals[6]?).map (·.type) = some 274 by kernel_rfl).symm.trans ht')
  have e : (Rows.laid_internal_strconv_uint64pow10 : DataW Unit) = Lib.tabData .u64 Lib.pow10Tab := by kernel_rfl
  rw [e] at hd
  unfold Lib.TabIs
  rw [hv, ← Lib.cells_of_tab Tryz.underlying274 Tryz.underlying250 (by kernel_rfl) (by kernel_rfl) hd]
set_option maxRecDepth 100000 in
theorem forms_of {W : World} (h : laidMet Tryz.prog laidN W) : V.Forms W ∧ Cnts W := by
  obtain ⟨ps, hl, _, _⟩ := h
  obtain ⟨g0, t0, cs0, f0, p0, a0, b0, c0, d0, _⟩ := laid_at hl (x := ("wanderwire/varint.forms", Rows.laid_wanderwire_varint_forms)) (by simp [laidN])
  obtain ⟨g1, t1, cs1, f1, p1, a1, b1, c1, d1, _⟩ := laid_at hl (x := ("wanderwire/frame.counts", Rows.laid_wanderwire_frame_counts)) (by simp [laidN])
  exact vars_of (ps := _) ⟨g0, t0, cs0, f0, p0, _, a0, b0, c0, d0, ⟨g1, t1, cs1, f1, p1, [], a1, b1, c1, d1, rfl, rfl⟩, rfl⟩
theorem handle_of {W : World} (hh : handlesMet Tryz.prog [("errors.errorType", Rows.laid_errors_errorType)] W) : Handle W := by
  obtain ⟨name, u, ty, e1, e2, e3, e4, e5⟩ := hh _ (List.mem_singleton.2 rfl)
  have en : name = [101, 114, 114, 111, 114] := (Option.some.inj e1).symm
  subst en
  obtain rfl := Option.some.inj (rtRow.symm.trans e2)
  have hm : ty ∈ (List.range 366).filter fun t => Tryz.prog.rowNamed t [101, 114, 114, 111, 114] := List.mem_filter.2 ⟨List.mem_range.2 (by rw [← typesSize]; exact e3), e4⟩
  rw [errRow] at hm
  obtain rfl := List.mem_singleton.1 hm
  have hth : typeHandle Tryz.prog 33 = .pointer (some ⟨17, 33, none⟩) := by kernel_rfl
  rw [hth] at e5
  have hc : W.cell? ⟨0, 0, none⟩ = some (.iface 170 (.agg #[.pointer (some ⟨17, 33, none⟩)])) := by simpa using World.var?_cell gHandle e5 0
  refine ⟨hc, ?_⟩
  by_cases hp : 0 < W.heap.size
  · exact hp
  · exfalso
    simp [World.cell?, Array.getElem?_eq_none (show W.heap.size ≤ 0 by omega)] at hc
set_option maxRecDepth 100000 in
theorem wit_met (os : Os) (args : Array Value) : laidMet Tryz.prog laidN ((((World.doorLaid Tryz.prog 111 os).layVars Tryz.prog laidF).forCall (fun _ _ => 0) ⟨#[], args, []⟩).memory) :=
  (show laidMet Tryz.prog laidN ((World.doorLaid Tryz.prog 111 os).layVars Tryz.prog laidF) from laidMet_layVars (w0 := World.doorLaid Tryz.prog 111 os) ["unicode/utf8.first"] ((List.range (World.doorLaid Tryz.prog 111 os).heap.size).filter (· != 7)) rfl (by kernel_rfl) (by kernel_rfl)
    (LaidIn.of_run ((List.range (World.doorLaid Tryz.prog 111 os).heap.size).filter (· != 7)) 8 (by kernel_rfl) (by kernel_rfl) (by kernel_rfl) (by kernel_rfl))).of_heap (by simp [World.memory, World.forCall, Input.heap])
set_option maxRecDepth 100000 in
theorem wit_metH (os : Os) (args : Array Value) : laidMetH Tryz.prog laidA ((((World.doorLaid Tryz.prog 111 os).layVars Tryz.prog laidF).forCall (fun _ _ => 0) ⟨#[], args, []⟩).memory) :=
  laidMetH_of_parts3 (fuel := 8) (wit_met os args) (by kernel_rfl) (by kernel_rfl)
end Rn
end Go.Proofs.YtdokgalidhmbbaaGreatDoor
namespace Go.Proofs.YtdokgalidhmbbaaGreatDoor
namespace Rn
open Go.ChangeShapes Go.WideShapes Go.ChangeAt Go.RowKit

set_option maxRecDepth 100000 in
theorem heap18 : decide (18 < (begin Tryz.prog (fun _ _ => 0) default).world.heap.size) = true := by kernel_rfl
theorem globals17 : Tryz.prog.globals.size = 17 := by kernel_rfl
theorem gBad : Tryz.prog.globalNamed "wanderwire/run.errBad" = some 1 := by kernel_rfl
set_option maxRecDepth 100000 in
theorem al_of {W : World} (h : laidMetH Tryz.prog laidA W) (hs : W.ShapedOpen Tryz.prog) : ∃ bv, Al W bv := by
  obtain ⟨hN, hh⟩ := parts_of h
  obtain ⟨a, s, hv, hc, ht⟩ := sent_of hN (nm := "wanderwire/run.errBad") (text := [98, 97, 100]) (by simp [laidN, Rows.laid_wanderwire_run_errBad]) gBad (by kernel_rfl)
  obtain ⟨a1, _, hv1, _⟩ := sent_of hN (nm := "strconv.ErrSyntax") (text := [105, 110, 118, 97, 108, 105, 100, 32, 115, 121, 110, 116, 97, 120]) (by simp [laidN, Rows.laid_strconv_ErrSyntax]) gSyn (by kernel_rfl)
  obtain ⟨a2, _, hv2, _⟩ := sent_of hN (nm := "strconv.ErrRange") (text := [118, 97, 108, 117, 101, 32, 111, 117, 116, 32, 111, 102, 32, 114, 97, 110, 103, 101]) (by simp [laidN, Rows.laid_strconv_ErrRange]) gRng (by kernel_rfl)
  have hlow : 18 ≤ W.heap.size := by
    have h18 := of_decide_eq_true heap18
    obtain ⟨o, _, ho, _⟩ := hs.2 17 (by rw [globals17]; exact Nat.le_refl _) (by omega)
    have := (Array.getElem?_eq_some_iff.1 ho).1
    omega
  refine ⟨_, ⟨hlow, by simpa using World.var?_cell gBad hv 0, ⟨_, _, rfl⟩, tab_of hN, ⟨_, _, hv1⟩, ⟨_, _, hv2⟩⟩, ⟨handle_of hh, a, rfl, ?_⟩, Tryz.laysM146.s1_3 W hs, forms_of hN⟩
  rw [hc]
  exact congrArg (fun x => some (Value.string x)) (by rw [← str_of s, ht]; rfl)
set_option maxRecDepth 100000 in
theorem returns_shaped {H : Type} {enc : TypeId × Value → H} {os : Os} {f : FuncId} {fn : Func} {s : ChangeSpec} {X : World → Array Value → Prop} (hX : ∀ (w w' : World) (args : Array Value), w.heap = w'.heap → X w args → X w' args)
    (own : ownKnob Tryz.checked.prog.godebug = none) (started : os.Started) (noInit : Tryz.checked.prog.inits.idxOf? f = none) (hfn : Tryz.checked.prog.funcs[f]? = some fn)
    (witness : ∃ (w : World) (tape : Tape) (i : Input), w.os = os ∧ (w.forCall tape i).Shaped Tryz.checked.prog ∧ i.vars = [] ∧ Input.okWide Tryz.checked.prog (w.forCall tape i) .any w.heap.size f i ∧
      ((s.pre enc Tryz.checked.prog fn [] false (w.forCall tape i).memory i.args ∧ X (w.forCall tape i).memory i.args) ∧ sizedMet enc Tryz.checked.prog fn (OpenSpec.ofChange s) false (w.forCall tape i).memory i.args) ∧ ({} : Assume).holds Tryz.checked.prog (lone (Frame.enter Tryz.checked.prog f i.args .normal) [] (w.forCall tape i)))
    (contract : ∀ (W : World) (base : Nat) (args : Array Value) (ds gs : List (DataW H)) (before : List MemPlace),
      (∀ (j : Nat) t v, fn.params[j]? = some t → args[j]? = some v → Value.okWide Tryz.checked.prog W .any base t v) → DataW.Whole enc Tryz.checked.prog fn.params.toList s.vars false W args.toList ds gs before →
      (DataW.weightsEach Tryz.checked.prog (fn.params.toList ++ s.plain.varTypes Tryz.checked.prog) (ds ++ gs)).all (· ≤ reachBytes) = true → X W args → W.ShapedOpen Tryz.checked.prog →
      Calls Tryz.checked.prog f args W fun e W' => ∃ v, e = .returned v ∧ s.post enc Tryz.checked.prog fn false true false false W args v W') :
    ReturnsInHanded {} Tryz.checked os f .any (fun w args => (s.pre enc Tryz.checked.prog fn [] false w args ∧ X w args) ∧ sizedMet enc Tryz.checked.prog fn (OpenSpec.ofChange s) false w args) (s.post enc Tryz.checked.prog fn false true false false) := by
  refine returnsInHanded_of_calls own started noInit witness ?_
  intro w tape i _ hsh _ hok hpre _
  obtain ⟨_, _, _, fn', hfn', _, _, _, _, hval⟩ := hok
  obtain rfl : fn' = fn := Option.some.inj (hfn'.symm.trans hfn)
  obtain ⟨⟨⟨ds, gs, before, hw, _⟩, hx⟩, hz⟩ := hpre
  refine (contract (w.forCall tape i) w.heap.size i.args ds gs before hval (DataW.Whole.of_heap (w' := w.forCall tape i) (by rfl) hw) (hz.weights hw) (hX _ _ _ (by rfl) hx) hsh).mono fun e W' ⟨v, he, hp⟩ => ?_
  subst he
  exact ChangeSpec.post_blind hp
end Rn
end Go.Proofs.YtdokgalidhmbbaaGreatDoor
