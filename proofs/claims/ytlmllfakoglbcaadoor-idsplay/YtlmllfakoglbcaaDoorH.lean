/- The document's IDs as they lie in memory; its Live, Retire and May. -/
import Derived.Test.YtlmllfakoglbcaaDoorM
namespace Go.Proofs.YtlmllfakoglbcaaDoor
open Go.RowKit Go.Lib Go.Sort Go.Shelf
set_option linter.unusedVariables false
set_option linter.unusedSimpArgs false

def bools (gs : List Bool) : List Value := gs.map Value.bool
def bat (gs : List Bool) (j : Nat) : Bool := gs[j]?.getD false
theorem bools_length (gs : List Bool) : (bools gs).length = gs.length := by simp [bools]
theorem bools_get {gs : List Bool} {j : Nat} (h : j < gs.length) : (bools gs)[j]? = some (.bool (bat gs j)) := by simp [bools, bat, h]
theorem bat_get {gs : List Bool} {j : Nat} (h : j < gs.length) : gs[j]? = some (bat gs j) := by simp [bat, h]
theorem infoB : (Tryd.prog.info? 4).map (fun i => (i.zero, i.size, i.bytes)) = some (some (.bool false), 1, 1) := by kernel_rfl
def rown (mb : Nat) (va vg : Value) (k : Nat) : Prop := k = mb ∨ va.ownBlock = some k ∨ vg.ownBlock = some k
/-- The block mb holds the document's IDs: all that were in the slice va, which are gone in the slice vg. -/
structure Ref (w : World) (B mb : Nat) (va vg : Value) (L : Int) (ns : List Int) (gs : List Bool) : Prop where
  c0 : w.cell? ⟨mb, 0, none⟩ = some (.int .i64 L)
  c1 : w.cell? ⟨mb, 1, none⟩ = some va
  c2 : w.cell? ⟨mb, 2, none⟩ = some vg
  f1 : w.frozen? ⟨mb, 1, none⟩ = false
  f2 : w.frozen? ⟨mb, 2, none⟩ = false
  all : w.ownsRow B 29 2 va ns.length (flat (nm ns))
  gone : w.ownsRow B 4 1 vg gs.length (bools gs)
  hm : B ≤ mb
  na : ∀ k, va.ownBlock = some k → k ≠ mb ∧ vg.ownBlock ≠ some k
  ng : ∀ k, vg.ownBlock = some k → k ≠ mb
theorem Ref.lt {w : World} {B mb : Nat} {va vg : Value} {L : Int} {ns : List Int} {gs : List Bool} (h : Ref w B mb va vg L ns gs) {k : Nat} (hk : rown mb va vg k) : k < w.heap.size := by
  rcases hk with rfl | hk | hk
  · exact World.block_lt_of_cell? w _ h.c0
  · exact (h.all.lt k hk).2
  · exact (h.gone.lt k hk).2
theorem Ref.ge {w : World} {B mb : Nat} {va vg : Value} {L : Int} {ns : List Int} {gs : List Bool} (h : Ref w B mb va vg L ns gs) {k : Nat} (hk : rown mb va vg k) : B ≤ k := by
  rcases hk with rfl | hk | hk
  · exact h.hm
  · exact (h.all.lt k hk).1
  · exact (h.gone.lt k hk).1
theorem Ref.le {w : World} {B mb : Nat} {va vg : Value} {L : Int} {ns : List Int} {gs : List Bool} (h : Ref w B mb va vg L ns gs) : B ≤ w.heap.size := by have := h.hm; have := h.lt (k := mb) (.inl rfl); omega
theorem Ref.off {K : Nat → Prop} {w' : World} {w : World} {B mb : Nat} {va vg : Value} {L : Int} {ns : List Int} {gs : List Bool} (h : Ref w B mb va vg L ns gs) (ho : Off K w w') (hK : ∀ k, rown mb va vg k → ¬ K k) : Ref w' B mb va vg L ns gs := by
  have km := hK mb (.inl rfl)
  have hl := h.lt (k := mb) (.inl rfl)
  exact ⟨ho.cell h.c0 km, ho.cell h.c1 km, ho.cell h.c2 km, (ho.frozen (p := ⟨mb, 1, none⟩) hl km).trans h.f1, (ho.frozen (p := ⟨mb, 2, none⟩) hl km).trans h.f2, ho.row h.all (fun k e => hK k (.inr (.inl e))), ho.row h.gone (fun k e => hK k (.inr (.inr e))), h.hm, h.na, h.ng⟩
theorem Ref.below {w' : World} {w : World} {B mb : Nat} {va vg : Value} {L : Int} {ns : List Int} {gs : List Bool} (h : Ref w B mb va vg L ns gs) (hb : Below w.heap.size w w') : Ref w' B mb va vg L ns gs := h.off (Off.of_below (K := fun _ => False) hb) (fun _ _ => id)
theorem Ref.new (w : World) (B : Nat) (hB : B ≤ w.heap.size) (L : Int) : Ref (w.alloc (.cells #[.int .i64 L, .slice none 0 0, .slice none 0 0] 42)) B w.heap.size (.slice none 0 0) (.slice none 0 0) L [] [] :=
  ⟨by simp, by simp, by simp, by simp, by simp, World.ownsRow_nil _ _ _ _, World.ownsRow_nil _ _ _ _, hB, (fun k hk => by simp [Value.ownBlock] at hk), (fun k hk => by simp [Value.ownBlock] at hk)⟩
theorem Ref.shapes {w : World} {B mb : Nat} {va vg : Value} {L : Int} {ns : List Int} {gs : List Bool} (h : Ref w B mb va vg L ns gs) : (∃ a c, va = .slice a ns.length c) ∧ (∃ a c, vg = .slice a gs.length c) := by
  constructor
  · rcases h.all.2 with ⟨rfl, e⟩ | ⟨g, cap, cur, rfl, _⟩
    · exact ⟨none, 0, by rw [e]⟩
    · exact ⟨_, _, rfl⟩
  · rcases h.gone.2 with ⟨rfl, e⟩ | ⟨g, cap, cur, rfl, _⟩
    · exact ⟨none, 0, by rw [e]⟩
    · exact ⟨_, _, rfl⟩
/-- Where the rows lie, if there is anything in them. -/
theorem Ref.rows {w : World} {B mb m m' ca cg : Nat} {a g : Option Addr} {L : Int} {ns : List Int} {gs : List Bool} (h : Ref w B mb (.slice a m ca) (.slice g m' cg) L ns gs) (hl : gs.length = ns.length) (h0 : 0 < ns.length) :
    ∃ ka kg, a = some ⟨ka, 0, none⟩ ∧ g = some ⟨kg, 0, none⟩ ∧ ka < w.heap.size ∧ kg < w.heap.size ∧ (∀ j, j < ns.length → w.cell? ⟨ka, j * 2, none⟩ = some (.int .i64 (j : Int)) ∧ w.cell? ⟨ka, j * 2 + 1, none⟩ = some (.int .i64 (iat ns j))) ∧ (∀ j, j < ns.length → w.cell? ⟨kg, j, none⟩ = some (.bool (bat gs j)) ∧ w.frozen? ⟨kg, j, none⟩ = false) := by
  have h1 := h.all
  have h2 := h.gone
  rcases h1.2 with ⟨_, e⟩ | ⟨ka, cap, cur, e, _⟩
  · omega
  rcases h2.2 with ⟨_, e'⟩ | ⟨kg, cap', cur', e', _, hg', _⟩
  · omega
  injection e with e1 e2 e3
  injection e' with e1' e2' e3'
  subst e1; subst e1'
  rw [e2] at h1; rw [e2'] at h2
  refine ⟨ka, kg, rfl, rfl, (h1.lt ka rfl).2, (h2.lt kg rfl).2, fun j hj => ?_, fun j hj => ?_⟩
  · have hc := cells_of_own h1 j (by rw [nm_length]; exact hj)
    rw [nm_at hj, Nat.zero_add] at hc
    exact hc
  · have hc := h2.cells (g := kg) rfl j _ (bools_get (by omega))
    rw [Addr.add_lit, Nat.zero_add] at hc
    exact ⟨hc, by simp [World.frozen?, hg']⟩

theorem lv_gone (n : Int) : ∀ (ns : List Int) (gs : List Bool) (k : Nat), ns.length = gs.length → lv k (ns ++ [n]) (gs ++ [true]) = lv k ns gs
  | [], [], k, _ => by simp [lv]
  | [], g :: gs, k, h => by simp at h
  | m :: ns, [], k, h => by simp at h
  | m :: ns, g :: gs, k, h => by
    have i := lv_gone n ns gs (k + 1) (by simpa using h)
    cases g with
    | true => simpa [lv] using i
    | false => simpa [lv] using i
theorem lv_le : ∀ (ns : List Int) (gs : List Bool) (k : Nat), (lv k ns gs).length ≤ ns.length
  | [], gs, k => by cases gs <;> simp [lv]
  | n :: ns, [], k => by simp [lv]
  | n :: ns, g :: gs, k => by
    have i := lv_le ns gs (k + 1)
    unfold lv
    split <;> simp <;> omega
/-- The first j of them. -/
def lvt (ns : List Int) (gs : List Bool) (j : Nat) : List R := lv 0 (ns.take j) (gs.take j)
theorem lvt_next {ns : List Int} {gs : List Bool} {j : Nat} (hl : gs.length = ns.length) (hj : j < ns.length) : lvt ns gs (j + 1) = if bat gs j = true then lvt ns gs j else lvt ns gs j ++ [((j : Int), iat ns j)] := by
  unfold lvt
  have e1 : ns.take (j + 1) = ns.take j ++ [iat ns j] := by rw [List.take_succ_eq_append_getElem hj]; simp [iat, hj]
  have e2 : gs.take (j + 1) = gs.take j ++ [bat gs j] := by rw [List.take_succ_eq_append_getElem (by omega)]; simp [bat, hl, hj]
  have hk : (ns.take j).length = (gs.take j).length := by simp; omega
  rw [e1, e2]
  cases bat gs j with
  | true => simp [lv_gone _ _ _ _ hk]
  | false =>
    rw [lv_snoc _ _ _ _ hk]
    have : (ns.take j).length = j := by simp; omega
    simp [this]
theorem lvt_all {ns : List Int} {gs : List Bool} (hl : gs.length = ns.length) : lvt ns gs ns.length = lv 0 ns gs := by
  unfold lvt
  rw [List.take_length, ← hl, List.take_length]
theorem lvt_le {ns : List Int} {gs : List Bool} {j : Nat} : (lvt ns gs j).length ≤ j := by
  have := lv_le (ns.take j) (gs.take j) 0
  have h2 : (ns.take j).length ≤ j := by simp; omega
  unfold lvt; omega

set_option maxRecDepth 100000 in
set_option maxHeartbeats 2000000 in
theorem rlive_calls {w : World} {B mb : Nat} {va vg : Value} {L : Int} {ns : List Int} {gs : List Bool} (h : Ref w B mb va vg L ns gs) (hl : gs.length = ns.length) (hmany : ns.length ≤ 100) :
    Calls Tryd.prog 13 #[.pointer (some ⟨mb, 0, none⟩)] w fun e w' => ∃ u, e = .returned u ∧ w'.ownsRow w.heap.size 29 2 u (lv 0 ns gs).length (flat (lv 0 ns gs)) ∧ Below w.heap.size w w' := by
  obtain ⟨⟨a, ca, rfl⟩, ⟨g, cg, rfl⟩⟩ := h.shapes
  have hmb := h.lt (k := mb) (.inl rfl)
  have HL : Hid (gs.length = ns.length) := hl
  have HR : Hid (Ref w B mb (.slice a ns.length ca) (.slice g gs.length cg) L ns gs) := h
  have c1 := h.c1
  have c2 := h.c2
  clear h hl
  obtain ⟨i0, hi0, hz0, hz1, hz2⟩ := info_parts infoR
  go_enter Tryd.func13, Tryd.ntmps13
  go_wp2_with fail
  go_loopg [3, 4] ns.length (fun gk s3 s4 wr => ∃ (j : Nat) (ao : Option Addr) (c : Nat), gk + j = ns.length ∧ s3 = .slice ao (lvt ns gs j).length c ∧ s4 = .int .i64 j ∧ wr.ownsRow w.heap.size 29 2 (.slice ao (lvt ns gs j).length c) (lvt ns gs j).length (flat (lvt ns gs j)) ∧ Below w.heap.size w wr)
  case atStart => exact ⟨0, none, 0, by omega, rfl, rfl, World.ownsRow_nil _ _ _ _, Below.refl _ _⟩
  case round =>
    obtain ⟨j, ao, c, hj, rfl, rfl, hown, hB⟩ := hrel
    have HJ : Hid (gk + j = ns.length) := hj
    clear hj
    have k1 := (hB.cell (p := ⟨mb, 1, none⟩) hmb).trans c1
    have k2 := (hB.cell (p := ⟨mb, 2, none⟩) hmb).trans c2
    by_cases q1 : (j : Int) < (ns.length : Int)
    · obtain ⟨ka, kg, rfl, rfl, hka, hkg, hca, hcg⟩ := HR.out.rows HL.out (by omega)
      have hc := hca j (by omega)
      have x0 := (hB.cell (p := ⟨ka, j * 2, none⟩) hka).trans hc.1
      have x1 := (hB.cell (p := ⟨ka, j * 2 + 1, none⟩) hka).trans hc.2
      have x2 := (hB.cell (p := ⟨kg, j, none⟩) hkg).trans (hcg j (by omega)).1
      have hnx := lvt_next HL.out (show j < ns.length by omega)
      have hjg : (j : Int) < (gs.length : Int) := by have := HL.out; omega
      have hlj := lvt_le (ns := ns) (gs := gs) (j := j)
      have HNX : Hid (lvt ns gs (j + 1) = if bat gs j = true then lvt ns gs j else lvt ns gs j ++ [((j : Int), iat ns j)]) := hnx
      clear hc hca hcg hnx
      cases hb : bat gs j with
      | true =>
        rw [hb] at x2
        have e := HNX.out
        rw [hb, if_pos rfl] at e
        have HE : Hid (lvt ns gs (j + 1) = lvt ns gs j) := e
        clear e hb
        go_wp2_with fail
        go_roundg (ns.length - (j + 1))
        case measure => have := HJ.out; omega
        case rel => exact ⟨j + 1, ao, c, by have := HJ.out; omega, by rw [HE.out], by go_num, by rw [HE.out]; exact hown, hB⟩
      | false =>
        rw [hb] at x2
        have e := HNX.out
        rw [hb, if_neg (by simp)] at e
        have HE : Hid (lvt ns gs (j + 1) = lvt ns gs j ++ [((j : Int), iat ns j)]) := e
        clear e hb
        have ba : Below wr.heap.size wr (wr.alloc (.cells #[.int .i64 (j : Int), .int .i64 (iat ns j)] 29)) := (Below.refl _ _).alloc (Nat.le_refl _) _
        have hrow := own_below hown ba
        have hB2 := hB.trans (ba.mono hB.size)
        have hle2 : w.heap.size ≤ (wr.alloc (.cells #[.int .i64 (j : Int), .int .i64 (iat ns j)] 29)).heap.size := hB2.size
        go_wp2_with (at_builtin; refine wpList_append_own_at _ rfl (.tmp 22) (.tmp 30) 34 rfl w.heap.size 29 i0 _ 2 16 Tryd.underlying34 hi0 hz0 hz1 hz2 rfl (by decide) _ _ (flat (lvt ns gs j)) rfl hrow ⟨wr.heap.size, 0, none⟩ 1 1 (flat [((j : Int), iat ns j)]) rfl rfl (cells_two_new wr _ _ _) (fun u hu => flat_one u hu) (by unfold maxLen; omega) (by omega) hle2 ?_; intro v3 w12 ho12 hg12 _ hl12; obtain ⟨g3, cap3, rfl⟩ := own_shape ho12 (by omega))
        have hB3 := hB2.grown hg12 hle2 (fun k e => (hrow.lt k e).1)
        have hl2 : (lvt ns gs (j + 1)).length = (lvt ns gs j).length + 1 := by rw [HE.out]; simp
        go_roundg (ns.length - (j + 1))
        case measure => have := HJ.out; omega
        case rel => exact ⟨j + 1, some ⟨g3, 0, none⟩, cap3, by have := HJ.out; omega, by rw [hl2], by go_num, by rw [hl2, HE.out, flat_append]; exact ho12, hB3⟩
    · have hj2 : j = ns.length := by have := HJ.out; omega
      have e : lvt ns gs j = lv 0 ns gs := by rw [hj2]; exact lvt_all HL.out
      rw [e] at hown ⊢
      go_wp2_with fail
      go_ret
      exact ⟨_, rfl, hown, hB⟩
end Go.Proofs.YtlmllfakoglbcaaDoor
