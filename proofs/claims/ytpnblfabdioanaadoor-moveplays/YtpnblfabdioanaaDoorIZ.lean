/- The texts M,H,I,J of ids, at this seat. -/
import Derived.Test.YtpnblfabdioanaaDoorIY
import Derived.Laws.StructEq
namespace Go.Proofs.YtpnblfabdioanaaDoor.Ix
open Go.RowKit Go.Lib Go.Sort Go.Shelf
set_option linter.unusedVariables false
set_option linter.unusedSimpArgs false


theorem Obj.base {w : World} {B B' sb bm : Nat} {v : Value} {L : Int} {ns : List Int} {ls : List R} (h : Obj w B sb bm v L ns ls) (hB : B' ≤ B) : Obj w B' sb bm v L ns ls :=
  ⟨h.inv, h.c0, h.c1, h.c2, h.f2, h.map, own_mono h.row hB, Nat.le_trans hB h.hs, Nat.le_trans hB h.hm, h.ne, h.nv⟩
/-- The fact's steps: of one at a time. -/
theorem one_a (w : World) : Calls Tryd.prog 22 #[.int .i64 1] w fun e w' => ∃ sb bm v, e = .returned (.tuple #[.pointer (some ⟨sb, 0, none⟩), .nilIface]) ∧ Obj w' w.heap.size sb bm v 1 [] [] ∧ Below w.heap.size w w' :=
  (new_yes 1 w rfl).mono fun e w' ⟨he, hO, hb⟩ => ⟨_, _, _, he, hO, hb⟩
theorem one_b {w : World} {B sb bm : Nat} {v : Value} (h : Obj w B sb bm v 1 [] []) : Calls Tryd.prog 25 #[.pointer (some ⟨sb, 0, none⟩), .int .i64 7] w fun e w' => e = .returned (.tuple #[.agg #[.int .i64 0, .int .i64 7], .nilIface]) ∧ ∃ v', Obj w' B sb bm v' 1 [7] [(0, 7)] ∧ Below B w w' :=
  (issue_yes h 7 rfl (by simp) rfl).mono fun e w' ⟨he, v', hO, ho, _⟩ => ⟨he, v', hO, ho.below (fun k hk => h.ge hk) h.le⟩
theorem one_c {w : World} {B sb bm : Nat} {v : Value} (h : Obj w B sb bm v 1 [7] [(0, 7)]) : Calls Tryd.prog 25 #[.pointer (some ⟨sb, 0, none⟩), .int .i64 8] w fun e w' => e = .returned (.tuple #[.agg #[.int .i64 0, .int .i64 0], .iface 72 (.int .i64 4)]) ∧ Below w.heap.size w w' :=
  issue_full h 8 rfl (by simp) rfl
theorem one_d {w : World} {B sb bm : Nat} {v : Value} (h : Obj w B sb bm v 1 [7] [(0, 7)]) : Calls Tryd.prog 33 #[.pointer (some ⟨sb, 0, none⟩), .int .i64 0] w fun e w' => e = .returned .nilIface ∧ ∃ v', Obj w' B sb bm v' 1 [7] [] ∧ Off (own sb bm v) w w' ∧ v'.ownBlock = v.ownBlock :=
  retire_yes h 0 rfl
theorem one_e {w : World} {B sb bm : Nat} {v : Value} (h : Obj w B sb bm v 1 [7] []) : Calls Tryd.prog 25 #[.pointer (some ⟨sb, 0, none⟩), .int .i64 7] w fun e w' => e = .returned (.tuple #[.agg #[.int .i64 0, .int .i64 0], .iface 72 (.int .i64 7)]) ∧ Below w.heap.size w w' :=
  issue_clash h 7 rfl (by simp)
theorem one_f {w : World} {B sb bm : Nat} {v : Value} (h : Obj w B sb bm v 1 [7] []) : Calls Tryd.prog 25 #[.pointer (some ⟨sb, 0, none⟩), .int .i64 8] w fun e w' => e = .returned (.tuple #[.agg #[.int .i64 1, .int .i64 8], .nilIface]) ∧ Off (own sb bm v) w w' :=
  (issue_yes h 8 rfl (by simp) rfl).mono fun e w' ⟨he, v', hO, ho, _⟩ => ⟨he, ho⟩
theorem own_same {sb bm k : Nat} {v v' : Value} (h : v'.ownBlock = v.ownBlock) (hk : own sb bm v' k) : own sb bm v k := by
  rcases hk with e | e | e
  · exact .inl e
  · exact .inr (.inl e)
  · exact .inr (.inr (h ▸ e))

def iat (zs : List Int) (j : Nat) : Int := zs[j]?.getD 0
theorem iat_get {ns : List Int} {j : Nat} (h : j < ns.length) : ns[j]? = some (iat ns j) := by simp [iat, h]
/-- Names with their places. -/
def nm (ns : List Int) : List R := (List.range ns.length).map (fun j : Nat => ((j : Int), iat ns j))
theorem nm_length (ns : List Int) : (nm ns).length = ns.length := by simp [nm]
theorem nm_at {ns : List Int} {j : Nat} (h : j < ns.length) : at' (nm ns) j = ((j : Int), iat ns j) := by simp [at', nm, h]
theorem nm_snoc (ns : List Int) (n : Int) : nm (ns ++ [n]) = nm ns ++ [((ns.length : Int), n)] := by
  unfold nm
  rw [List.length_append, List.length_singleton, List.range_succ, List.map_append]
  congr 1
  · refine List.map_congr_left fun j hj => ?_
    have := List.mem_range.1 hj
    simp [iat, List.getElem?_append_left this]
  · simp [iat]

/-- The world wr within a call that began in w: the IDs, and a slice va of the call's own that holds rs. -/
structure Once (w wr : World) (sb bm : Nat) (va vs : Value) (L : Int) (ns : List Int) (ls rs : List R) : Prop where
  obj : Obj wr w.heap.size sb bm vs L ns ls
  row : wr.ownsRow w.heap.size 52 2 va rs.length (flat rs)
  far : ∀ g, va.ownBlock = some g → ¬ own sb bm vs g
  bel : Below w.heap.size w wr
section
variable {w wr wx : World} {sb bm : Nat} {va va' vs vs' : Value} {L : Int} {ns ns' : List Int} {ls ls' rs : List R}
theorem Once.below (h : Once w wr sb bm va vs L ns ls rs) (hb : Below wr.heap.size wr wx) : Once w wx sb bm va vs L ns ls rs :=
  ⟨h.obj.below hb, own_below h.row hb, h.far, h.bel.trans (hb.mono h.bel.size)⟩
theorem Once.alloc (h : Once w wr sb bm va vs L ns ls rs) (o : Go.Obj) : Once w (wr.alloc o) sb bm va vs L ns ls rs := h.below ((Below.refl _ _).alloc (Nat.le_refl _) _)
theorem Once.start (h : Obj wr w.heap.size sb bm vs L ns ls) (hb : Below w.heap.size w wr) : Once w wr sb bm (.slice none 0 0) vs L ns ls [] :=
  ⟨h, World.ownsRow_nil _ _ _ _, (fun g hg => by cases hg), hb⟩
theorem Once.turn (h : Once w wr sb bm va vs L ns ls rs) (hO : Obj wx w.heap.size sb bm vs' L ns' ls') (ho : Off (own sb bm vs) wr wx) (hv : vs'.ownBlock = vs.ownBlock ∨ ∃ k, vs'.ownBlock = some k ∧ wr.heap.size ≤ k) : Once w wx sb bm va vs' L ns' ls' rs := by
  refine ⟨hO, ho.row h.row (fun k hk => h.far k hk), fun g hg hk => ?_, h.bel.trans (ho.below (fun k hk => h.obj.ge hk) h.obj.le)⟩
  have hlt := (h.row.lt g hg).2
  rcases hk with e | e | e
  · exact h.far g hg (.inl e)
  · exact h.far g hg (.inr (.inl e))
  · rcases hv with hv | ⟨k, hv, hl⟩
    · exact h.far g hg (.inr (.inr (hv ▸ e)))
    · rw [hv] at e
      have : k = g := Option.some.inj e
      omega
theorem Once.append (h : Once w wr sb bm va vs L ns ls rs) {q n : Int} (hr : wx.ownsRow w.heap.size 52 2 va' (rs.length + 1) (flat rs ++ flat [(q, n)])) (hg : wr.grownBy wx va.ownBlock) (hv : va'.ownBlock = va.ownBlock ∨ va'.ownBlock = some wr.heap.size) : Once w wx sb bm va' vs L ns ls (rs ++ [(q, n)]) := by
  have ho : Off (fun k => va.ownBlock = some k) wr wx := Off.of_grown hg (fun k e => e)
  refine ⟨h.obj.off ho (fun k hk e => h.far k e hk), by rw [List.length_append, flat_append]; exact hr, fun g hg' hk => ?_, h.bel.trans (ho.below (fun k hk => (h.row.lt k hk).1) h.obj.le)⟩
  rcases hv with hv | hv
  · exact h.far g (hv ▸ hg') hk
  · rw [hv] at hg'
    have : wr.heap.size = g := Option.some.inj hg'
    have := h.obj.lt hk
    omega
end
theorem structI : Tryd.prog.underlying 52 = some (.struct (Tryd.prog.fieldsOf 52)) := by kernel_rfl
theorem stoodI : Tryd.prog.stoodInHeld 52 = false := by kernel_rfl
theorem guardI (op : BinOp) (x y : Operand) (xs ys : Array Value) (w : World) : (eqGuard op 52 x y (.agg xs) (.agg ys)).run Tryd.prog w = .ok () w := run_eqGuard_agg w op 52 x y xs ys (by kernel_rfl)
theorem neqI (a b c d : Int) (w : World) : (binOp .neq 52 (.agg #[.int .i64 a, .int .i64 b]) (.agg #[.int .i64 c, .int .i64 d])).run Tryd.prog w = .ok (.bool (!(a == c && b == d))) w := by
  have u3 := Tryd.underlying3
  have a3 := Tryd.isAgg3
  have z3 := Tryd.sizeOf3
  rw [run_neq_struct, show (10000 : Nat) = 9999 + 1 from rfl, run_equalIn_agg w 9999 52 _ _ structI stoodI]
  simp only [Program.fieldsOf, Tryd.underlying52]
  go_simp
  by_cases h1 : a = c <;> by_cases h2 : b = d <;> simp [h1, h2]
theorem neqI_same (a b : Int) (w : World) : (binOp .neq 52 (.agg #[.int .i64 a, .int .i64 b]) (.agg #[.int .i64 a, .int .i64 b])).run Tryd.prog w = .ok (.bool false) w := by
  rw [neqI]; simp
theorem eqlI (a b : Int) (w : World) : (binOp .eql 52 (.agg #[.int .i64 a, .int .i64 b]) (.agg #[.int .i64 a, .int .i64 b])).run Tryd.prog w = .ok (.bool true) w := by
  have u3 := Tryd.underlying3
  have a3 := Tryd.isAgg3
  have z3 := Tryd.sizeOf3
  rw [run_eql_struct, show (10000 : Nat) = 9999 + 1 from rfl, run_equalIn_agg w 9999 52 _ _ structI stoodI]
  simp only [Program.fieldsOf, Tryd.underlying52]
  go_simp



def bools (gs : List Bool) : List Value := gs.map Value.bool
def bat (gs : List Bool) (j : Nat) : Bool := gs[j]?.getD false
theorem bools_length (gs : List Bool) : (bools gs).length = gs.length := by simp [bools]
theorem bools_get {gs : List Bool} {j : Nat} (h : j < gs.length) : (bools gs)[j]? = some (.bool (bat gs j)) := by simp [bools, bat, h]
theorem bat_get {gs : List Bool} {j : Nat} (h : j < gs.length) : gs[j]? = some (bat gs j) := by simp [bat, h]
theorem infoB : (Tryd.prog.info? 4).map (fun i => (i.zero, i.size, i.bytes)) = some (some (.bool false), 1, 1) := by kernel_rfl
def rown (mb : Nat) (va vg : Value) (k : Nat) : Prop := k = mb ∨ va.ownBlock = some k ∨ vg.ownBlock = some k
/-- The block mb holds the document's IDs: all that were in the slice va, which are gone in the slice vg. -/
structure Ref (w : World) (B mb : Nat) (va vg : Value) (L : Int) (ns : List Int) (gs : List Bool) : Prop where
  c0 : w.cell? ⟨mb, 0, none⟩ = some (.int .i64 L)
  c1 : w.cell? ⟨mb, 1, none⟩ = some va
  c2 : w.cell? ⟨mb, 2, none⟩ = some vg
  f1 : w.frozen? ⟨mb, 1, none⟩ = false
  f2 : w.frozen? ⟨mb, 2, none⟩ = false
  all : w.ownsRow B 52 2 va ns.length (flat (nm ns))
  gone : w.ownsRow B 4 1 vg gs.length (bools gs)
  hm : B ≤ mb
  na : ∀ k, va.ownBlock = some k → k ≠ mb ∧ vg.ownBlock ≠ some k
  ng : ∀ k, vg.ownBlock = some k → k ≠ mb
theorem Ref.lt {w : World} {B mb : Nat} {va vg : Value} {L : Int} {ns : List Int} {gs : List Bool} (h : Ref w B mb va vg L ns gs) {k : Nat} (hk : rown mb va vg k) : k < w.heap.size := by
  rcases hk with rfl | hk | hk
  · exact World.block_lt_of_cell? w _ h.c0
  · exact (h.all.lt k hk).2
  · exact (h.gone.lt k hk).2
theorem Ref.ge {w : World} {B mb : Nat} {va vg : Value} {L : Int} {ns : List Int} {gs : List Bool} (h : Ref w B mb va vg L ns gs) {k : Nat} (hk : rown mb va vg k) : B ≤ k := by
  rcases hk with rfl | hk | hk
  · exact h.hm
  · exact (h.all.lt k hk).1
  · exact (h.gone.lt k hk).1
theorem Ref.le {w : World} {B mb : Nat} {va vg : Value} {L : Int} {ns : List Int} {gs : List Bool} (h : Ref w B mb va vg L ns gs) : B ≤ w.heap.size := by have := h.hm; have := h.lt (k := mb) (.inl rfl); omega
theorem Ref.off {K : Nat → Prop} {w' : World} {w : World} {B mb : Nat} {va vg : Value} {L : Int} {ns : List Int} {gs : List Bool} (h : Ref w B mb va vg L ns gs) (ho : Off K w w') (hK : ∀ k, rown mb va vg k → ¬ K k) : Ref w' B mb va vg L ns gs := by
  have km := hK mb (.inl rfl)
  have hl := h.lt (k := mb) (.inl rfl)
  exact ⟨ho.cell h.c0 km, ho.cell h.c1 km, ho.cell h.c2 km, (ho.frozen (p := ⟨mb, 1, none⟩) hl km).trans h.f1, (ho.frozen (p := ⟨mb, 2, none⟩) hl km).trans h.f2, ho.row h.all (fun k e => hK k (.inr (.inl e))), ho.row h.gone (fun k e => hK k (.inr (.inr e))), h.hm, h.na, h.ng⟩
theorem Ref.below {w' : World} {w : World} {B mb : Nat} {va vg : Value} {L : Int} {ns : List Int} {gs : List Bool} (h : Ref w B mb va vg L ns gs) (hb : Below w.heap.size w w') : Ref w' B mb va vg L ns gs := h.off (Off.of_below (K := fun _ => False) hb) (fun _ _ => id)
theorem Ref.new (w : World) (B : Nat) (hB : B ≤ w.heap.size) (L : Int) : Ref (w.alloc (.cells #[.int .i64 L, .slice none 0 0, .slice none 0 0] 41)) B w.heap.size (.slice none 0 0) (.slice none 0 0) L [] [] :=
  ⟨by simp, by simp, by simp, by simp, by simp, World.ownsRow_nil _ _ _ _, World.ownsRow_nil _ _ _ _, hB, (fun k hk => by simp [Value.ownBlock] at hk), (fun k hk => by simp [Value.ownBlock] at hk)⟩
theorem Ref.shapes {w : World} {B mb : Nat} {va vg : Value} {L : Int} {ns : List Int} {gs : List Bool} (h : Ref w B mb va vg L ns gs) : (∃ a c, va = .slice a ns.length c) ∧ (∃ a c, vg = .slice a gs.length c) := by
  constructor
  · rcases h.all.2 with ⟨rfl, e⟩ | ⟨g, cap, cur, rfl, _⟩
    · exact ⟨none, 0, by rw [e]⟩
    · exact ⟨_, _, rfl⟩
  · rcases h.gone.2 with ⟨rfl, e⟩ | ⟨g, cap, cur, rfl, _⟩
    · exact ⟨none, 0, by rw [e]⟩
    · exact ⟨_, _, rfl⟩
/-- Where the rows lie, if there is anything in them. -/
theorem Ref.rows {w : World} {B mb m m' ca cg : Nat} {a g : Option Addr} {L : Int} {ns : List Int} {gs : List Bool} (h : Ref w B mb (.slice a m ca) (.slice g m' cg) L ns gs) (hl : gs.length = ns.length) (h0 : 0 < ns.length) :
    ∃ ka kg, a = some ⟨ka, 0, none⟩ ∧ g = some ⟨kg, 0, none⟩ ∧ ka < w.heap.size ∧ kg < w.heap.size ∧ (∀ j, j < ns.length → w.cell? ⟨ka, j * 2, none⟩ = some (.int .i64 (j : Int)) ∧ w.cell? ⟨ka, j * 2 + 1, none⟩ = some (.int .i64 (iat ns j))) ∧ (∀ j, j < ns.length → w.cell? ⟨kg, j, none⟩ = some (.bool (bat gs j)) ∧ w.frozen? ⟨kg, j, none⟩ = false) := by
  have h1 := h.all
  have h2 := h.gone
  rcases h1.2 with ⟨_, e⟩ | ⟨ka, cap, cur, e, _⟩
  · omega
  rcases h2.2 with ⟨_, e'⟩ | ⟨kg, cap', cur', e', _, hg', _⟩
  · omega
  injection e with e1 e2 e3
  injection e' with e1' e2' e3'
  subst e1; subst e1'
  rw [e2] at h1; rw [e2'] at h2
  refine ⟨ka, kg, rfl, rfl, (h1.lt ka rfl).2, (h2.lt kg rfl).2, fun j hj => ?_, fun j hj => ?_⟩
  · have hc := cells_of_own h1 j (by rw [nm_length]; exact hj)
    rw [nm_at hj, Nat.zero_add] at hc
    exact hc
  · have hc := h2.cells (g := kg) rfl j _ (bools_get (by omega))
    rw [Addr.add_lit, Nat.zero_add] at hc
    exact ⟨hc, by simp [World.frozen?, hg']⟩

theorem lv_gone (n : Int) : ∀ (ns : List Int) (gs : List Bool) (k : Nat), ns.length = gs.length → lv k (ns ++ [n]) (gs ++ [true]) = lv k ns gs
  | [], [], k, _ => by simp [lv]
  | [], g :: gs, k, h => by simp at h
  | m :: ns, [], k, h => by simp at h
  | m :: ns, g :: gs, k, h => by
    have i := lv_gone n ns gs (k + 1) (by simpa using h)
    cases g with
    | true => simpa [lv] using i
    | false => simpa [lv] using i
theorem lv_le : ∀ (ns : List Int) (gs : List Bool) (k : Nat), (lv k ns gs).length ≤ ns.length
  | [], gs, k => by cases gs <;> simp [lv]
  | n :: ns, [], k => by simp [lv]
  | n :: ns, g :: gs, k => by
    have i := lv_le ns gs (k + 1)
    unfold lv
    split <;> simp <;> omega
/-- The first j of them. -/
def lvt (ns : List Int) (gs : List Bool) (j : Nat) : List R := lv 0 (ns.take j) (gs.take j)
theorem lvt_next {ns : List Int} {gs : List Bool} {j : Nat} (hl : gs.length = ns.length) (hj : j < ns.length) : lvt ns gs (j + 1) = if bat gs j = true then lvt ns gs j else lvt ns gs j ++ [((j : Int), iat ns j)] := by
  unfold lvt
  have e1 : ns.take (j + 1) = ns.take j ++ [iat ns j] := by rw [List.take_succ_eq_append_getElem hj]; simp [iat, hj]
  have e2 : gs.take (j + 1) = gs.take j ++ [bat gs j] := by rw [List.take_succ_eq_append_getElem (by omega)]; simp [bat, hl, hj]
  have hk : (ns.take j).length = (gs.take j).length := by simp; omega
  rw [e1, e2]
  cases bat gs j with
  | true => simp [lv_gone _ _ _ _ hk]
  | false =>
    rw [lv_snoc _ _ _ _ hk]
    have : (ns.take j).length = j := by simp; omega
    simp [this]
theorem lvt_all {ns : List Int} {gs : List Bool} (hl : gs.length = ns.length) : lvt ns gs ns.length = lv 0 ns gs := by
  unfold lvt
  rw [List.take_length, ← hl, List.take_length]
theorem lvt_le {ns : List Int} {gs : List Bool} {j : Nat} : (lvt ns gs j).length ≤ j := by
  have := lv_le (ns.take j) (gs.take j) 0
  have h2 : (ns.take j).length ≤ j := by simp; omega
  unfold lvt; omega

set_option maxRecDepth 100000 in
set_option maxHeartbeats 2000000 in
theorem rlive_calls {w : World} {B mb : Nat} {va vg : Value} {L : Int} {ns : List Int} {gs : List Bool} (h : Ref w B mb va vg L ns gs) (hl : gs.length = ns.length) (hmany : ns.length ≤ 100) :
    Calls Tryd.prog 19 #[.pointer (some ⟨mb, 0, none⟩)] w fun e w' => ∃ u, e = .returned u ∧ w'.ownsRow w.heap.size 52 2 u (lv 0 ns gs).length (flat (lv 0 ns gs)) ∧ Below w.heap.size w w' := by
  obtain ⟨⟨a, ca, rfl⟩, ⟨g, cg, rfl⟩⟩ := h.shapes
  have hmb := h.lt (k := mb) (.inl rfl)
  have HL : Hid (gs.length = ns.length) := hl
  have HR : Hid (Ref w B mb (.slice a ns.length ca) (.slice g gs.length cg) L ns gs) := h
  have c1 := h.c1
  have c2 := h.c2
  clear h hl
  obtain ⟨i0, hi0, hz0, hz1, hz2⟩ := info_parts infoR
  go_enter Tryd.func19, Tryd.ntmps19
  go_wp2_with fail
  go_loopg [3, 4] ns.length (fun gk s3 s4 wr => ∃ (j : Nat) (ao : Option Addr) (c : Nat), gk + j = ns.length ∧ s3 = .slice ao (lvt ns gs j).length c ∧ s4 = .int .i64 j ∧ wr.ownsRow w.heap.size 52 2 (.slice ao (lvt ns gs j).length c) (lvt ns gs j).length (flat (lvt ns gs j)) ∧ Below w.heap.size w wr)
  case atStart => exact ⟨0, none, 0, by omega, rfl, rfl, World.ownsRow_nil _ _ _ _, Below.refl _ _⟩
  case round =>
    obtain ⟨j, ao, c, hj, rfl, rfl, hown, hB⟩ := hrel
    have HJ : Hid (gk + j = ns.length) := hj
    clear hj
    have k1 := (hB.cell (p := ⟨mb, 1, none⟩) hmb).trans c1
    have k2 := (hB.cell (p := ⟨mb, 2, none⟩) hmb).trans c2
    by_cases q1 : (j : Int) < (ns.length : Int)
    · obtain ⟨ka, kg, rfl, rfl, hka, hkg, hca, hcg⟩ := HR.out.rows HL.out (by omega)
      have hc := hca j (by omega)
      have x0 := (hB.cell (p := ⟨ka, j * 2, none⟩) hka).trans hc.1
      have x1 := (hB.cell (p := ⟨ka, j * 2 + 1, none⟩) hka).trans hc.2
      have x2 := (hB.cell (p := ⟨kg, j, none⟩) hkg).trans (hcg j (by omega)).1
      have hnx := lvt_next HL.out (show j < ns.length by omega)
      have hjg : (j : Int) < (gs.length : Int) := by have := HL.out; omega
      have hlj := lvt_le (ns := ns) (gs := gs) (j := j)
      have HNX : Hid (lvt ns gs (j + 1) = if bat gs j = true then lvt ns gs j else lvt ns gs j ++ [((j : Int), iat ns j)]) := hnx
      clear hc hca hcg hnx
      cases hb : bat gs j with
      | true =>
        rw [hb] at x2
        have e := HNX.out
        rw [hb, if_pos rfl] at e
        have HE : Hid (lvt ns gs (j + 1) = lvt ns gs j) := e
        clear e hb
        go_wp2_with fail
        go_roundg (ns.length - (j + 1))
        case measure => have := HJ.out; omega
        case rel => exact ⟨j + 1, ao, c, by have := HJ.out; omega, by rw [HE.out], by go_num, by rw [HE.out]; exact hown, hB⟩
      | false =>
        rw [hb] at x2
        have e := HNX.out
        rw [hb, if_neg (by simp)] at e
        have HE : Hid (lvt ns gs (j + 1) = lvt ns gs j ++ [((j : Int), iat ns j)]) := e
        clear e hb
        have ba : Below wr.heap.size wr (wr.alloc (.cells #[.int .i64 (j : Int), .int .i64 (iat ns j)] 52)) := (Below.refl _ _).alloc (Nat.le_refl _) _
        have hrow := own_below hown ba
        have hB2 := hB.trans (ba.mono hB.size)
        have hle2 : w.heap.size ≤ (wr.alloc (.cells #[.int .i64 (j : Int), .int .i64 (iat ns j)] 52)).heap.size := hB2.size
        go_wp2_with (at_builtin; refine wpList_append_own_at _ rfl (.tmp 22) (.tmp 30) 38 rfl w.heap.size 52 i0 _ 2 16 Tryd.underlying38 hi0 hz0 hz1 hz2 rfl (by decide) _ _ (flat (lvt ns gs j)) rfl hrow ⟨wr.heap.size, 0, none⟩ 1 1 (flat [((j : Int), iat ns j)]) rfl rfl (cells_two_new wr _ _ _) (fun u hu => flat_one u hu) (by unfold maxLen; omega) (by omega) hle2 ?_; intro v3 w12 ho12 hg12 _ hl12; obtain ⟨g3, cap3, rfl⟩ := own_shape ho12 (by omega))
        have hB3 := hB2.grown hg12 hle2 (fun k e => (hrow.lt k e).1)
        have hl2 : (lvt ns gs (j + 1)).length = (lvt ns gs j).length + 1 := by rw [HE.out]; simp
        go_roundg (ns.length - (j + 1))
        case measure => have := HJ.out; omega
        case rel => exact ⟨j + 1, some ⟨g3, 0, none⟩, cap3, by have := HJ.out; omega, by rw [hl2], by go_num, by rw [hl2, HE.out, flat_append]; exact ho12, hB3⟩
    · have hj2 : j = ns.length := by have := HJ.out; omega
      have e : lvt ns gs j = lv 0 ns gs := by rw [hj2]; exact lvt_all HL.out
      rw [e] at hown ⊢
      go_wp2_with fail
      go_ret
      exact ⟨_, rfl, hown, hB⟩



theorem lv_isIn {ns : List Int} {gs : List Bool} (hl : gs.length = ns.length) (q : Int) : isIn (lv 0 ns gs) q = true ↔ ∃ j : Nat, q = (j : Int) ∧ j < ns.length ∧ bat gs j = false := by
  constructor
  · intro h
    obtain ⟨x, hx, e⟩ := isIn_yes h
    obtain ⟨j, h1, h2, h3⟩ := lv_mem ns gs 0 x hx
    rw [Nat.zero_add] at h1
    exact ⟨j, by omega, (List.getElem?_eq_some_iff.1 h3).1, by simp [bat, h2]⟩
  · rintro ⟨j, rfl, hj, hb⟩
    have := lv_of ns gs 0 j (iat ns j) (by rw [bat_get (by omega), hb]) (iat_get hj)
    rw [Nat.zero_add] at this
    simp only [isIn, List.any_eq_true]
    exact ⟨_, this, by simp⟩
set_option maxRecDepth 100000 in
set_option maxHeartbeats 2000000 in
theorem rretire_a {w : World} {B mb : Nat} {va vg : Value} {L : Int} {ns : List Int} {gs : List Bool} (h : Ref w B mb va vg L ns gs) (hl : gs.length = ns.length) (hmany : ns.length ≤ 100) (q : Int) (g1 : q < 0) : Calls Tryd.prog 20 #[.pointer (some ⟨mb, 0, none⟩), .int .i64 q] w fun e w' => e = .returned (.int .i64 5) ∧ Below w.heap.size w w' := by
  clear h
  go_enter Tryd.func20, Tryd.ntmps20
  go_wp2_with fail
  go_ret
  exact ⟨rfl, Below.refl _ _⟩
set_option maxRecDepth 100000 in
set_option maxHeartbeats 2000000 in
theorem rretire_b {w : World} {B mb : Nat} {va vg : Value} {L : Int} {ns : List Int} {gs : List Bool} (h : Ref w B mb va vg L ns gs) (hl : gs.length = ns.length) (hmany : ns.length ≤ 100) (q : Int) (g0 : 0 ≤ q) (g1 : (ns.length : Int) ≤ q) : Calls Tryd.prog 20 #[.pointer (some ⟨mb, 0, none⟩), .int .i64 q] w fun e w' => e = .returned (.int .i64 5) ∧ Below w.heap.size w w' := by
  obtain ⟨⟨a, ca, rfl⟩, ⟨g, cg, rfl⟩⟩ := h.shapes
  have hmb := h.lt (k := mb) (.inl rfl)
  have HL : Hid (gs.length = ns.length) := hl
  have HR : Hid (Ref w B mb (.slice a ns.length ca) (.slice g gs.length cg) L ns gs) := h
  have c1 := h.c1
  clear h hl
  go_enter Tryd.func20, Tryd.ntmps20
  go_wp2_with fail
  go_ret
  exact ⟨rfl, Below.refl _ _⟩
set_option maxRecDepth 100000 in
set_option maxHeartbeats 2000000 in
theorem rretire_c {w : World} {B mb : Nat} {va vg : Value} {L : Int} {ns : List Int} {gs : List Bool} (h : Ref w B mb va vg L ns gs) (hl : gs.length = ns.length) (hmany : ns.length ≤ 100) (j : Nat) (g1 : j < ns.length) (g2 : bat gs j = true) : Calls Tryd.prog 20 #[.pointer (some ⟨mb, 0, none⟩), .int .i64 (j : Int)] w fun e w' => e = .returned (.int .i64 5) ∧ Below w.heap.size w w' := by
  obtain ⟨⟨a, ca, rfl⟩, ⟨g, cg, rfl⟩⟩ := h.shapes
  have hmb := h.lt (k := mb) (.inl rfl)
  have HL : Hid (gs.length = ns.length) := hl
  have HR : Hid (Ref w B mb (.slice a ns.length ca) (.slice g gs.length cg) L ns gs) := h
  have c1 := h.c1
  have c2 := h.c2
  obtain ⟨ka, kg, rfl, rfl, hka, hkg, hca, hcg⟩ := h.rows hl (by omega)
  have x2 := (hcg j g1).1
  rw [g2] at x2
  have i1 : (j : Int) < (ns.length : Int) := by omega
  have i2 : (j : Int) < (gs.length : Int) := by omega
  have i3 : decide ((ns.length : Int) ≤ (j : Int)) = false := decide_eq_false (by omega)
  have i4 : gs.length ≤ 100 := by omega
  clear h hl hca hcg g2
  go_enter Tryd.func20, Tryd.ntmps20
  go_wp2_with fail
  go_ret
  exact ⟨rfl, Below.refl _ _⟩
theorem rretire_no {w : World} {B mb : Nat} {va vg : Value} {L : Int} {ns : List Int} {gs : List Bool} (h : Ref w B mb va vg L ns gs) (hl : gs.length = ns.length) (hmany : ns.length ≤ 100) (q : Int) (hn : isIn (lv 0 ns gs) q = false) : Calls Tryd.prog 20 #[.pointer (some ⟨mb, 0, none⟩), .int .i64 q] w fun e w' => e = .returned (.int .i64 5) ∧ Below w.heap.size w w' := by
  by_cases g0 : q < 0
  · exact rretire_a h hl hmany q g0
  · by_cases g1 : (ns.length : Int) ≤ q
    · exact rretire_b h hl hmany q (by omega) g1
    · obtain ⟨j, rfl⟩ : ∃ j : Nat, q = (j : Int) := ⟨q.toNat, by omega⟩
      refine rretire_c h hl hmany j (by omega) ?_
      cases hb : bat gs j with
      | true => rfl
      | false => rw [(lv_isIn hl (j : Int)).2 ⟨j, rfl, by omega, hb⟩] at hn; cases hn
theorem own_set1 {w : World} {B e kg n cap : Nat} {gs : List Bool} {j : Nat} (h : w.ownsRow B e 1 (.slice (some ⟨kg, 0, none⟩) n cap) n (bools gs)) (hj : j < gs.length) : (w.setCell ⟨kg, j, none⟩ (.bool true)).ownsRow B e 1 (.slice (some ⟨kg, 0, none⟩) n cap) n (bools (gs.set j true)) := by
  have hn : gs.length = n := by have := h.1; rw [bools_length] at this; omega
  rcases h.2 with ⟨e0, _⟩ | ⟨g', cap', cur, e0, hB, hg, hnc, hm, hs, ht⟩
  · cases e0
  injection e0 with e1 e2 e3
  injection e1 with e1
  injection e1 with e1
  subst e1; subst e3
  obtain ⟨cur', h1, h2⟩ := heap_setCells (g := kg) (e := e) [.bool true] j w cur hg
  have h1 : (w.setCell ⟨kg, j, none⟩ (.bool true)).heap[kg]? = some (.cells cur' e (0, 0)) := h1
  refine ⟨by simp [bools, hn], .inr ⟨kg, cap, cur', rfl, hB, h1, hnc, hm, by rw [h2, hs], ?_⟩⟩
  refine List.ext_getElem? fun t => ?_
  by_cases htn : t < n * 1
  · rw [List.getElem?_take_of_lt htn]
    have c1 : (w.setCell ⟨kg, j, none⟩ (.bool true)).cell? ⟨kg, t, none⟩ = cur'[t]? := by simp [World.cell?, h1]
    have c0 : w.cell? ⟨kg, t, none⟩ = some (.bool (bat gs t)) := by
      have := h.cells (g := kg) rfl t _ (bools_get (by omega))
      rw [Addr.add_lit, Nat.zero_add] at this
      exact this
    have e1 : cur'.toList[t]? = cur'[t]? := by simp
    rw [e1, ← c1]
    by_cases e : t = j
    · subst e
      rw [World.cell?_setCell_same _ _ _ c0]
      simp [bools, hj]
    · rw [World.cell?_setCell_other _ _ _ _ (by intro e'; injection e' with _ e' _; omega), c0]
      have e2 : (gs.set j true)[t]? = gs[t]? := by rw [List.getElem?_set_ne (by omega)]
      show _ = (List.map Value.bool (gs.set j true))[t]?
      rw [List.getElem?_map, e2, bat_get (by omega)]
      rfl
  · rw [List.getElem?_eq_none (by simp; omega), List.getElem?_eq_none (by simp [bools]; omega)]
set_option maxRecDepth 100000 in
set_option maxHeartbeats 2000000 in
theorem rretire_yes {w : World} {B mb : Nat} {va vg : Value} {L : Int} {ns : List Int} {gs : List Bool} (h : Ref w B mb va vg L ns gs) (hl : gs.length = ns.length) (hmany : ns.length ≤ 100) (j : Nat) (g1 : j < ns.length) (g2 : bat gs j = false) : Calls Tryd.prog 20 #[.pointer (some ⟨mb, 0, none⟩), .int .i64 (j : Int)] w fun e w' => e = .returned (.int .i64 0) ∧ Ref w' B mb va vg L ns (gs.set j true) ∧ Off (rown mb va vg) w w' := by
  obtain ⟨⟨a, ca, rfl⟩, ⟨g, cg, rfl⟩⟩ := h.shapes
  have hmb := h.lt (k := mb) (.inl rfl)
  have HL : Hid (gs.length = ns.length) := hl
  have HR : Hid (Ref w B mb (.slice a ns.length ca) (.slice g gs.length cg) L ns gs) := h
  have c1 := h.c1
  have c2 := h.c2
  obtain ⟨ka, kg, rfl, rfl, hka, hkg, hca, hcg⟩ := h.rows hl (by omega)
  have x2 := (hcg j g1).1
  have f2 := (hcg j g1).2
  rw [g2] at x2
  have i1 : (j : Int) < (ns.length : Int) := by omega
  have i2 : (j : Int) < (gs.length : Int) := by omega
  have i3 : decide ((ns.length : Int) ≤ (j : Int)) = false := decide_eq_false (by omega)
  have i4 : gs.length ≤ 100 := by omega
  have o1 : Off (fun k => k = kg) w (w.setCell ⟨kg, j, none⟩ (.bool true)) := (Off.refl _ w).setCell (K := fun k => k = kg) rfl _
  have km : kg ≠ mb := h.ng kg rfl
  have kk : ka ≠ kg := fun e => (h.na ka rfl).2 (by rw [e]; rfl)
  have hset : (gs.set j true).length = gs.length := by simp
  have HF : Hid (Ref (w.setCell ⟨kg, j, none⟩ (.bool true)) B mb (.slice (some ⟨ka, 0, none⟩) ns.length ca) (.slice (some ⟨kg, 0, none⟩) gs.length cg) L ns (gs.set j true)) := by
    have e1 : ¬ mb = kg := fun e => km e.symm
    exact ⟨o1.cell h.c0 e1, o1.cell h.c1 e1, o1.cell h.c2 e1, (o1.frozen (p := ⟨mb, 1, none⟩) hmb e1).trans h.f1, (o1.frozen (p := ⟨mb, 2, none⟩) hmb e1).trans h.f2,
      o1.row h.all (fun k e e' => kk (by have : ka = k := Option.some.inj e; omega)), by rw [hset]; exact own_set1 h.gone (by omega), h.hm, h.na, h.ng⟩
  have HO : Hid (Off (rown mb (.slice (some ⟨ka, 0, none⟩) ns.length ca) (.slice (some ⟨kg, 0, none⟩) gs.length cg)) w (w.setCell ⟨kg, j, none⟩ (.bool true))) := o1.mono (fun k _ e => .inr (.inr (by rw [e]; rfl)))
  clear h hl hca hcg g2 o1 hset
  go_enter Tryd.func20, Tryd.ntmps20
  go_wp2_with fail
  go_ret
  exact ⟨rfl, HF.out, HO.out⟩

set_option maxRecDepth 100000 in
set_option maxHeartbeats 2000000 in
theorem rissue_range {w : World} {B mb : Nat} {va vg : Value} {L : Int} {ns : List Int} {gs : List Bool} (h : Ref w B mb va vg L ns gs) (hl : gs.length = ns.length) (hmany : ns.length ≤ 100) (n : Int) (hb : nameB n = false) : Calls Tryd.prog 13 #[.pointer (some ⟨mb, 0, none⟩), .int .i64 n] w fun e w' => e = .returned (.tuple #[.agg #[.int .i64 0, .int .i64 0], .int .i64 1]) ∧ Below w.heap.size w w' := by
  clear h
  go_enter Tryd.func13, Tryd.ntmps13
  go_wp2_with (go_at_call 37; refine (may_calls n _).mono ?_; rintro e w1 ⟨rfl, rfl⟩; rw [hb])
  (try simp only [Exit.inBlock, Exit.then])
  refine bodyPost_ret (v := .tuple #[.agg #[.int .i64 0, .int .i64 0], .int .i64 1]) ?_ rfl ⟨rfl, ?_⟩
  · rw [results_cell_tmp rfl]; go_simp
  · repeat (first | exact Below.refl _ _ | assumption | (refine Below.alloc ?_ (by simp <;> omega) _) | (refine Below.setCell ?_ (by simp <;> omega) _))

set_option maxRecDepth 100000 in
set_option maxHeartbeats 2000000 in
theorem rissue_clash {w : World} {B mb : Nat} {va vg : Value} {L : Int} {ns : List Int} {gs : List Bool} (h : Ref w B mb va vg L ns gs) (hl : gs.length = ns.length) (hmany : ns.length ≤ 100) (n : Int) (hb : nameB n = true) (hn : n ∈ ns) : Calls Tryd.prog 13 #[.pointer (some ⟨mb, 0, none⟩), .int .i64 n] w fun e w' => e = .returned (.tuple #[.agg #[.int .i64 0, .int .i64 0], .int .i64 7]) ∧ Below w.heap.size w w' := by
  obtain ⟨p, hp, hpn⟩ : ∃ p, p < ns.length ∧ iat ns p = n := by
    obtain ⟨p, hp, e⟩ := List.getElem_of_mem hn
    exact ⟨p, hp, by simp [iat, hp, e]⟩
  have HP : Hid (iat ns p = n) := hpn
  obtain ⟨⟨a, ca, rfl⟩, ⟨g, cg, rfl⟩⟩ := h.shapes
  have hmb := h.lt (k := mb) (.inl rfl)
  have HL : Hid (gs.length = ns.length) := hl
  have HR : Hid (Ref w B mb (.slice a ns.length ca) (.slice g gs.length cg) L ns gs) := h
  obtain ⟨ka, kg, rfl, rfl, hka, hkg, hca, hcg⟩ := h.rows hl (by omega)
  have bel : Below w.heap.size w (w.alloc (.cells #[.int .i64 0, .int .i64 0] 52)) := (Below.refl _ _).alloc (Nat.le_refl _) _
  have c1 := (bel.cell (p := ⟨mb, 1, none⟩) hmb).trans h.c1
  have hx : Hid (∀ j, j < ns.length → (w.alloc (.cells #[.int .i64 0, .int .i64 0] 52)).cell? ⟨ka, j * 2 + 1, none⟩ = some (.int .i64 (iat ns j))) := fun j hj => (bel.cell (p := ⟨ka, j * 2 + 1, none⟩) hka).trans (hca j hj).2
  have hX := IdBox.new w 0 0 52
  clear h hl hca hcg hpn hn
  go_enter Tryd.func13, Tryd.ntmps13
  go_wp2_with (go_at_call 37; refine (may_calls n _).mono ?_; rintro e w1 ⟨rfl, rfl⟩; rw [hb])
  generalize w.alloc (.cells #[.int .i64 0, .int .i64 0] 52) = W at hX hx c1 bel ⊢
  go_loopg [7] ns.length (fun gk s7 wr => ∃ j : Nat, gk + j = ns.length ∧ s7 = .int .i64 j ∧ j ≤ p ∧ wr = W)
  case atStart => exact ⟨0, by omega, rfl, by omega, rfl⟩
  case round =>
    obtain ⟨j, hj, rfl, hjp, rfl⟩ := hrel
    have HJ : Hid (gk + j = ns.length) := hj
    clear hj
    have q1 : (j : Int) < (ns.length : Int) := by omega
    have x1 := hx.out j (by omega)
    by_cases q2 : iat ns j = n
    · rw [q2] at x1
      obtain ⟨xl, x0, xx1, xf0, xf1⟩ := hX
      go_wp2_with fail
      (try simp only [Exit.inBlock, Exit.then])
      refine bodyPost_ret (v := .tuple #[.agg #[.int .i64 0, .int .i64 0], .int .i64 7]) ?_ rfl ⟨rfl, ?_⟩
      · rw [results_cell_tmp rfl]; go_simp
      · exact (bel.setCell (p := ⟨w.heap.size, 0, none⟩) (Nat.le_refl _) _).setCell (p := ⟨w.heap.size, 1, none⟩) (Nat.le_refl _) _
    · have hne : j ≠ p := fun e => q2 (e ▸ HP.out)
      go_wp2_with fail
      go_roundg (ns.length - (j + 1))
      case measure => have := HJ.out; omega
      case rel => exact ⟨j + 1, by have := HJ.out; omega, by go_num, by omega, rfl⟩



set_option maxRecDepth 100000 in
set_option maxHeartbeats 2000000 in
theorem rissue_f1 {w : World} {B mb : Nat} {va vg : Value} {L : Int} {ns : List Int} {gs : List Bool} (h : Ref w B mb va vg L ns gs) (hl : gs.length = ns.length) (hmany : ns.length ≤ 100) (n : Int) (hb : nameB n = true) (hn : n ∉ ns) (g1 : L ≤ ((lv 0 ns gs).length : Int)) : Calls Tryd.prog 13 #[.pointer (some ⟨mb, 0, none⟩), .int .i64 n] w fun e w' => e = .returned (.tuple #[.agg #[.int .i64 0, .int .i64 0], .int .i64 4]) ∧ Below w.heap.size w w' := by
  obtain ⟨⟨a, ca, rfl⟩, ⟨g, cg, rfl⟩⟩ := h.shapes
  have hmb := h.lt (k := mb) (.inl rfl)
  have HL : Hid (gs.length = ns.length) := hl
  have HR : Hid (Ref w B mb (.slice a ns.length ca) (.slice g gs.length cg) L ns gs) := h
  have bel : Below w.heap.size w (w.alloc (.cells #[.int .i64 0, .int .i64 0] 52)) := (Below.refl _ _).alloc (Nat.le_refl _) _
  have hR0 := h.below bel
  have c1 := hR0.c1
  have HN : Hid (n ∉ ns) := hn
  have hx : Hid (∀ j, j < ns.length → ∃ ka, a = some ⟨ka, 0, none⟩ ∧ (w.alloc (.cells #[.int .i64 0, .int .i64 0] 52)).cell? ⟨ka, j * 2 + 1, none⟩ = some (.int .i64 (iat ns j))) := fun j hj => by
    obtain ⟨ka, kg, rfl, rfl, hka, hkg, hca, hcg⟩ := h.rows hl (by omega)
    exact ⟨ka, rfl, (bel.cell (p := ⟨ka, j * 2 + 1, none⟩) hka).trans (hca j hj).2⟩
  have hX := IdBox.new w 0 0 52
  have hcon := rlive_calls hR0 hl hmany
  have hm8 : (lv 0 ns gs).length ≤ 100 := Nat.le_trans (lv_le ns gs 0) hmany
  have HR0 : Hid (Ref (w.alloc (.cells #[.int .i64 0, .int .i64 0] 52)) B mb (.slice a ns.length ca) (.slice g gs.length cg) L ns gs) := hR0
  clear h hl hn hR0
  go_enter Tryd.func13, Tryd.ntmps13
  go_wp2_with (go_at_call 37; refine (may_calls n _).mono ?_; rintro e w1 ⟨rfl, rfl⟩; rw [hb])
  generalize w.alloc (.cells #[.int .i64 0, .int .i64 0] 52) = W at hX hx c1 bel hcon HR0 ⊢
  go_loopg [7] ns.length (fun gk s7 wr => ∃ j : Nat, gk + j = ns.length ∧ s7 = .int .i64 j ∧ wr = W)
  case atStart => exact ⟨0, by omega, rfl, rfl⟩
  case round =>
    obtain ⟨j, hj, rfl, rfl⟩ := hrel
    have HJ : Hid (gk + j = ns.length) := hj
    clear hj
    by_cases q1 : (j : Int) < (ns.length : Int)
    · obtain ⟨ka, rfl, x1⟩ := hx.out j (by omega)
      have q2 : iat ns j ≠ n := fun e => HN.out (e ▸ List.mem_of_getElem? (iat_get (by omega)))
      clear hcon hX
      generalize iat ns j = y at x1 q2
      go_wp2_with fail
      go_roundg (ns.length - (j + 1))
      case measure => have := HJ.out; omega
      case rel => exact ⟨j + 1, by have := HJ.out; omega, by go_num, rfl⟩
    · go_wp2_with fail
      refine hcon.mono ?_
      rintro e w1 ⟨u, rfl, hu, hb1⟩
      obtain ⟨au, cu, rfl⟩ : ∃ a c, u = .slice a (lv 0 ns gs).length c := by
        rcases hu.2 with ⟨rfl, e⟩ | ⟨g, cap, cur, rfl, _⟩
        · exact ⟨none, 0, by rw [e]⟩
        · exact ⟨_, _, rfl⟩
      have hX1 := hX.below hb1
      have hR1 := HR0.out.below hb1
      have hB1 := bel.trans (hb1.mono bel.size)
      clear hu hcon hX hb1 hx c1 bel HR0
      have k0 := hR1.c0
      have k1 := hR1.c1
      obtain ⟨xl, x0, x1, xf0, xf1⟩ := hX1
      go_wp2_with fail
      (try simp only [Exit.inBlock, Exit.then])
      refine bodyPost_ret (v := .tuple #[.agg #[.int .i64 0, .int .i64 0], .int .i64 4]) ?_ rfl ⟨rfl, ?_⟩
      · rw [results_cell_tmp rfl]; go_simp
      · exact (hB1.setCell (p := ⟨w.heap.size, 0, none⟩) (Nat.le_refl _) _).setCell (p := ⟨w.heap.size, 1, none⟩) (Nat.le_refl _) _

set_option maxRecDepth 100000 in
set_option maxHeartbeats 2000000 in
theorem rissue_f2 {w : World} {B mb : Nat} {va vg : Value} {L : Int} {ns : List Int} {gs : List Bool} (h : Ref w B mb va vg L ns gs) (hl : gs.length = ns.length) (hmany : ns.length ≤ 100) (n : Int) (hb : nameB n = true) (hn : n ∉ ns) (g1 : decide (L ≤ ((lv 0 ns gs).length : Int)) = false) (g2 : (100 : Int) ≤ (ns.length : Int)) : Calls Tryd.prog 13 #[.pointer (some ⟨mb, 0, none⟩), .int .i64 n] w fun e w' => e = .returned (.tuple #[.agg #[.int .i64 0, .int .i64 0], .int .i64 4]) ∧ Below w.heap.size w w' := by
  obtain ⟨⟨a, ca, rfl⟩, ⟨g, cg, rfl⟩⟩ := h.shapes
  have hmb := h.lt (k := mb) (.inl rfl)
  have HL : Hid (gs.length = ns.length) := hl
  have HR : Hid (Ref w B mb (.slice a ns.length ca) (.slice g gs.length cg) L ns gs) := h
  have bel : Below w.heap.size w (w.alloc (.cells #[.int .i64 0, .int .i64 0] 52)) := (Below.refl _ _).alloc (Nat.le_refl _) _
  have hR0 := h.below bel
  have c1 := hR0.c1
  have HN : Hid (n ∉ ns) := hn
  have hx : Hid (∀ j, j < ns.length → ∃ ka, a = some ⟨ka, 0, none⟩ ∧ (w.alloc (.cells #[.int .i64 0, .int .i64 0] 52)).cell? ⟨ka, j * 2 + 1, none⟩ = some (.int .i64 (iat ns j))) := fun j hj => by
    obtain ⟨ka, kg, rfl, rfl, hka, hkg, hca, hcg⟩ := h.rows hl (by omega)
    exact ⟨ka, rfl, (bel.cell (p := ⟨ka, j * 2 + 1, none⟩) hka).trans (hca j hj).2⟩
  have hX := IdBox.new w 0 0 52
  have hcon := rlive_calls hR0 hl hmany
  have hm8 : (lv 0 ns gs).length ≤ 100 := Nat.le_trans (lv_le ns gs 0) hmany
  have HR0 : Hid (Ref (w.alloc (.cells #[.int .i64 0, .int .i64 0] 52)) B mb (.slice a ns.length ca) (.slice g gs.length cg) L ns gs) := hR0
  clear h hl hn hR0
  go_enter Tryd.func13, Tryd.ntmps13
  go_wp2_with (go_at_call 37; refine (may_calls n _).mono ?_; rintro e w1 ⟨rfl, rfl⟩; rw [hb])
  generalize w.alloc (.cells #[.int .i64 0, .int .i64 0] 52) = W at hX hx c1 bel hcon HR0 ⊢
  go_loopg [7] ns.length (fun gk s7 wr => ∃ j : Nat, gk + j = ns.length ∧ s7 = .int .i64 j ∧ wr = W)
  case atStart => exact ⟨0, by omega, rfl, rfl⟩
  case round =>
    obtain ⟨j, hj, rfl, rfl⟩ := hrel
    have HJ : Hid (gk + j = ns.length) := hj
    clear hj
    by_cases q1 : (j : Int) < (ns.length : Int)
    · obtain ⟨ka, rfl, x1⟩ := hx.out j (by omega)
      have q2 : iat ns j ≠ n := fun e => HN.out (e ▸ List.mem_of_getElem? (iat_get (by omega)))
      clear hcon hX
      generalize iat ns j = y at x1 q2
      go_wp2_with fail
      go_roundg (ns.length - (j + 1))
      case measure => have := HJ.out; omega
      case rel => exact ⟨j + 1, by have := HJ.out; omega, by go_num, rfl⟩
    · go_wp2_with fail
      refine hcon.mono ?_
      rintro e w1 ⟨u, rfl, hu, hb1⟩
      obtain ⟨au, cu, rfl⟩ : ∃ a c, u = .slice a (lv 0 ns gs).length c := by
        rcases hu.2 with ⟨rfl, e⟩ | ⟨g, cap, cur, rfl, _⟩
        · exact ⟨none, 0, by rw [e]⟩
        · exact ⟨_, _, rfl⟩
      have hX1 := hX.below hb1
      have hR1 := HR0.out.below hb1
      have hB1 := bel.trans (hb1.mono bel.size)
      clear hu hcon hX hb1 hx c1 bel HR0
      have k0 := hR1.c0
      have k1 := hR1.c1
      obtain ⟨xl, x0, x1, xf0, xf1⟩ := hX1
      go_wp2_with fail
      (try simp only [Exit.inBlock, Exit.then])
      refine bodyPost_ret (v := .tuple #[.agg #[.int .i64 0, .int .i64 0], .int .i64 4]) ?_ rfl ⟨rfl, ?_⟩
      · rw [results_cell_tmp rfl]; go_simp
      · exact (hB1.setCell (p := ⟨w.heap.size, 0, none⟩) (Nat.le_refl _) _).setCell (p := ⟨w.heap.size, 1, none⟩) (Nat.le_refl _) _

theorem rissue_full {w : World} {B mb : Nat} {va vg : Value} {L : Int} {ns : List Int} {gs : List Bool} (h : Ref w B mb va vg L ns gs) (hl : gs.length = ns.length) (hmany : ns.length ≤ 100) (n : Int) (hb : nameB n = true) (hn : n ∉ ns) (hf : fullB L ns (lv 0 ns gs) = true) : Calls Tryd.prog 13 #[.pointer (some ⟨mb, 0, none⟩), .int .i64 n] w fun e w' => e = .returned (.tuple #[.agg #[.int .i64 0, .int .i64 0], .int .i64 4]) ∧ Below w.heap.size w w' := by
  by_cases g1 : L ≤ ((lv 0 ns gs).length : Int)
  · exact rissue_f1 h hl hmany n hb hn g1
  · refine rissue_f2 h hl hmany n hb hn (decide_eq_false g1) ?_
    simp [fullB] at hf
    omega
theorem Ref.put1 {w w2 : World} {B mb : Nat} {va va' vg : Value} {L : Int} {ns ns' : List Int} {gs : List Bool} (h : Ref w B mb va vg L ns gs) (ho : Off (fun k => va.ownBlock = some k) w w2) (hr : w2.ownsRow B 52 2 va' ns'.length (flat (nm ns')))
    (hv : ∀ k, va'.ownBlock = some k → va.ownBlock = some k ∨ w.heap.size ≤ k) : Ref (w2.setCell ⟨mb, 1, none⟩ va') B mb va' vg L ns' gs := by
  have hmb := h.lt (k := mb) (.inl rfl)
  have n1 : ¬ va.ownBlock = some mb := fun e => (h.na mb e).1 rfl
  have na : ∀ k, va'.ownBlock = some k → k ≠ mb ∧ vg.ownBlock ≠ some k := fun k hk => by
    rcases hv k hk with e | e
    · exact h.na k e
    · exact ⟨by omega, fun e' => by have := (h.gone.lt k e').2; omega⟩
  have o2 : Off (fun k => k = mb) w2 (w2.setCell ⟨mb, 1, none⟩ va') := (Off.refl _ _).setCell (K := fun k => k = mb) rfl _
  refine ⟨?_, World.cell?_setCell_same _ _ _ (ho.cell h.c1 n1), ?_, ?_, ?_, o2.row hr (fun k hk => (na k hk).1), o2.row (ho.row h.gone (fun k hk e => (h.na k e).2 hk)) (fun k hk => h.ng k hk), h.hm, na, h.ng⟩
  · rw [World.cell?_setCell_other _ _ _ _ (by simp)]; exact ho.cell h.c0 n1
  · rw [World.cell?_setCell_other _ _ _ _ (by simp)]; exact ho.cell h.c2 n1
  · rw [World.frozen?_setCell]; exact (ho.frozen (p := ⟨mb, 1, none⟩) hmb n1).trans h.f1
  · rw [World.frozen?_setCell]; exact (ho.frozen (p := ⟨mb, 2, none⟩) hmb n1).trans h.f2
theorem Ref.put2 {w w2 : World} {B mb : Nat} {va vg vg' : Value} {L : Int} {ns : List Int} {gs gs' : List Bool} (h : Ref w B mb va vg L ns gs) (ho : Off (fun k => vg.ownBlock = some k) w w2) (hr : w2.ownsRow B 4 1 vg' gs'.length (bools gs'))
    (hv : ∀ k, vg'.ownBlock = some k → vg.ownBlock = some k ∨ w.heap.size ≤ k) : Ref (w2.setCell ⟨mb, 2, none⟩ vg') B mb va vg' L ns gs' := by
  have hmb := h.lt (k := mb) (.inl rfl)
  have n1 : ¬ vg.ownBlock = some mb := fun e => h.ng mb e rfl
  have ng : ∀ k, vg'.ownBlock = some k → k ≠ mb := fun k hk => by
    rcases hv k hk with e | e
    · exact h.ng k e
    · omega
  have na : ∀ k, va.ownBlock = some k → k ≠ mb ∧ vg'.ownBlock ≠ some k := fun k hk => ⟨(h.na k hk).1, fun e' => by
    rcases hv k e' with e | e
    · exact (h.na k hk).2 e
    · have := (h.all.lt k hk).2; omega⟩
  have o2 : Off (fun k => k = mb) w2 (w2.setCell ⟨mb, 2, none⟩ vg') := (Off.refl _ _).setCell (K := fun k => k = mb) rfl _
  refine ⟨?_, ?_, World.cell?_setCell_same _ _ _ (ho.cell h.c2 n1), ?_, ?_, o2.row (ho.row h.all (fun k hk e => (h.na k hk).2 e)) (fun k hk => (h.na k hk).1), o2.row hr (fun k hk => ng k hk), h.hm, na, ng⟩
  · rw [World.cell?_setCell_other _ _ _ _ (by simp)]; exact ho.cell h.c0 n1
  · rw [World.cell?_setCell_other _ _ _ _ (by simp)]; exact ho.cell h.c1 n1
  · rw [World.frozen?_setCell]; exact (ho.frozen (p := ⟨mb, 1, none⟩) hmb n1).trans h.f1
  · rw [World.frozen?_setCell]; exact (ho.frozen (p := ⟨mb, 2, none⟩) hmb n1).trans h.f2
set_option maxRecDepth 100000 in
set_option maxHeartbeats 2000000 in
theorem rissue_yes {w : World} {B mb : Nat} {va vg : Value} {L : Int} {ns : List Int} {gs : List Bool} (h : Ref w B mb va vg L ns gs) (hl : gs.length = ns.length) (hmany : ns.length ≤ 100) (n : Int) (hb : nameB n = true) (hn : n ∉ ns) (hf : fullB L ns (lv 0 ns gs) = false) : Calls Tryd.prog 13 #[.pointer (some ⟨mb, 0, none⟩), .int .i64 n] w fun e w' => e = .returned (.tuple #[.agg #[.int .i64 (ns.length : Int), .int .i64 n], .int .i64 0]) ∧ ∃ va' vg', Ref w' B mb va' vg' L (ns ++ [n]) (gs ++ [false]) ∧ Off (rown mb va vg) w w' ∧ (∀ k, rown mb va' vg' k → rown mb va vg k ∨ w.heap.size ≤ k) := by
  have g1 : decide (L ≤ ((lv 0 ns gs).length : Int)) = false := decide_eq_false (by simp [fullB] at hf; omega)
  have g2 : decide ((100 : Int) ≤ (ns.length : Int)) = false := decide_eq_false (by simp [fullB] at hf; omega)
  clear hf
  obtain ⟨⟨a, ca, rfl⟩, ⟨g, cg, rfl⟩⟩ := h.shapes
  have hmb := h.lt (k := mb) (.inl rfl)
  have HL : Hid (gs.length = ns.length) := hl
  have HR : Hid (Ref w B mb (.slice a ns.length ca) (.slice g gs.length cg) L ns gs) := h
  have bel : Below w.heap.size w (w.alloc (.cells #[.int .i64 0, .int .i64 0] 52)) := (Below.refl _ _).alloc (Nat.le_refl _) _
  have hR0 := h.below bel
  have c1 := hR0.c1
  have HN : Hid (n ∉ ns) := hn
  have hx : Hid (∀ j, j < ns.length → ∃ ka, a = some ⟨ka, 0, none⟩ ∧ (w.alloc (.cells #[.int .i64 0, .int .i64 0] 52)).cell? ⟨ka, j * 2 + 1, none⟩ = some (.int .i64 (iat ns j))) := fun j hj => by
    obtain ⟨ka, kg, rfl, rfl, hka, hkg, hca, hcg⟩ := h.rows hl (by omega)
    exact ⟨ka, rfl, (bel.cell (p := ⟨ka, j * 2 + 1, none⟩) hka).trans (hca j hj).2⟩
  have hX := IdBox.new w 0 0 52
  have hcon := rlive_calls hR0 hl hmany
  have hm8 : (lv 0 ns gs).length ≤ 100 := Nat.le_trans (lv_le ns gs 0) hmany
  have HR0 : Hid (Ref (w.alloc (.cells #[.int .i64 0, .int .i64 0] 52)) B mb (.slice a ns.length ca) (.slice g gs.length cg) L ns gs) := hR0
  clear h hl hn hR0
  go_enter Tryd.func13, Tryd.ntmps13
  go_wp2_with (go_at_call 37; refine (may_calls n _).mono ?_; rintro e w1 ⟨rfl, rfl⟩; rw [hb])
  generalize w.alloc (.cells #[.int .i64 0, .int .i64 0] 52) = W at hX hx c1 bel hcon HR0 ⊢
  go_loopg [7] ns.length (fun gk s7 wr => ∃ j : Nat, gk + j = ns.length ∧ s7 = .int .i64 j ∧ wr = W)
  case atStart => exact ⟨0, by omega, rfl, rfl⟩
  case round =>
    obtain ⟨j, hj, rfl, rfl⟩ := hrel
    have HJ : Hid (gk + j = ns.length) := hj
    clear hj
    by_cases q1 : (j : Int) < (ns.length : Int)
    · obtain ⟨ka, rfl, x1⟩ := hx.out j (by omega)
      have q2 : iat ns j ≠ n := fun e => HN.out (e ▸ List.mem_of_getElem? (iat_get (by omega)))
      clear hcon hX
      generalize iat ns j = y at x1 q2
      go_wp2_with fail
      go_roundg (ns.length - (j + 1))
      case measure => have := HJ.out; omega
      case rel => exact ⟨j + 1, by have := HJ.out; omega, by go_num, rfl⟩
    · go_wp2_with fail
      refine hcon.mono ?_
      rintro e w1 ⟨u, rfl, hu, hb1⟩
      obtain ⟨au, cu, rfl⟩ : ∃ a c, u = .slice a (lv 0 ns gs).length c := by
        rcases hu.2 with ⟨rfl, e⟩ | ⟨g, cap, cur, rfl, _⟩
        · exact ⟨none, 0, by rw [e]⟩
        · exact ⟨_, _, rfl⟩
      have hX1 := hX.below hb1
      have hR1 := HR0.out.below hb1
      have hB1 := bel.trans (hb1.mono bel.size)
      clear hu hcon hX hb1 hx c1 bel HR0
      have k0 := hR1.c0
      have k1 := hR1.c1
      go_wp2_with fail
      have hY1 : IdBox (w1.alloc (.cells #[.int .i64 (ns.length : Int), .int .i64 n] 52)) w1.heap.size (ns.length : Int) n := IdBox.new _ _ _ _
      have ba : Below w1.heap.size w1 (w1.alloc (.cells #[.int .i64 (ns.length : Int), .int .i64 n] 52)) := (Below.refl _ _).alloc (Nat.le_refl _) _
      have hX2 := hX1.below ba
      have hR2 := hR1.below ba
      have hB2 := hB1.trans (ba.mono hB1.size)
      have hXY : w.heap.size < w1.heap.size := hX1.lt
      have hYW : w1.heap.size < (w1.alloc (.cells #[.int .i64 (ns.length : Int), .int .i64 n] 52)).heap.size := hY1.lt
      generalize w1.heap.size = Y at hY1 hXY hYW ⊢
      generalize w1.alloc (.cells #[.int .i64 (ns.length : Int), .int .i64 n] 52) = w2 at hY1 hX2 hR2 hB2 hYW ⊢
      clear hX1 hR1 hB1 ba k0 k1 g1 g2
      have hlt : ∀ k, rown mb (.slice a ns.length ca) (.slice g gs.length cg) k → k < w.heap.size := fun k hk => HR.out.lt hk
      have hle := HR.out.le
      have hxk : ∀ k, (k = mb ∨ (Value.slice g gs.length cg).ownBlock = some k) → k < w.heap.size := fun k e => hlt k (e.imp id (fun e => .inr e))
      have NSL : Hid ((nm (ns ++ [n])).length = ns.length + 1) := by show (nm (ns ++ [n])).length = ns.length + 1; rw [nm_length]; simp
      have FL : Hid (flat (nm (ns ++ [n])) = flat (nm ns) ++ flat [((ns.length : Int), n)]) := by show flat (nm (ns ++ [n])) = _; rw [nm_snoc, flat_append]
      have NL : Hid ((ns ++ [n]).length = ns.length + 1) := by show (ns ++ [n]).length = _; simp
      have GL : Hid ((gs ++ [false]).length = gs.length + 1) := by show (gs ++ [false]).length = _; simp
      have BL : Hid (bools (gs ++ [false]) = bools gs ++ [.bool false]) := by show bools (gs ++ [false]) = _; simp [bools]
      have hgs : gs.length ≤ 100 := by have := HL.out; omega
      have c1 := hR2.c1
      have c1a := (((Below.refl w2.heap.size w2).alloc (Nat.le_refl _) (.cells #[.int .i64 (ns.length : Int), .int .i64 n] 52)).cell (p := ⟨mb, 1, none⟩) (hR2.lt (.inl rfl))).trans c1
      have y0 := hY1.c0
      have y1 := hY1.c1
      have bd : Below w2.heap.size w2 (w2.drew.alloc (.cells #[.int .i64 (ns.length : Int), .int .i64 n] 52)) := (Below.refl w2.heap.size w2).drew.alloc (Nat.le_refl _) _
      have hR2d := hR2.below bd
      have hrow := hR2d.all
      obtain ⟨i0, hi0, hz0, hz1, hz2⟩ := info_parts infoR
      obtain ⟨ib, hib, hb0, hb1, hb2⟩ := info_parts infoB
      go_region_law (refine step_append_own rfl (.tmp 64) (.tmp 66) 38 rfl B 52 i0 _ 2 16 Tryd.underlying38 hi0 hz0 hz1 hz2 rfl (by decide) (.slice a ns.length ca) ns.length (flat (nm ns)) (by simp [Act.eval, Act.put]) hrow ⟨w2.heap.size, 0, none⟩ 1 1 (flat [((ns.length : Int), n)]) (by simp [Act.eval, Act.put]) rfl (cells_two_new w2.drew _ _ _) (fun u hu => flat_one u hu) (by unfold maxLen; omega) (by omega) hR2d.le ?_; intro v' w3 ho3 hg3 hl3; obtain ⟨g3, cap3, rfl⟩ := own_shape ho3 (by omega); have og := Off.of_grown (K := fun k => (Value.slice a ns.length ca).ownBlock = some k) hg3 (fun k e => e); have d2 := og.cell hR2d.c1 (fun e => (hR2d.na mb e).1 rfl); have df := (og.frozen (p := ⟨mb, 1, none⟩) (hR2d.lt (.inl rfl)) (fun e => (hR2d.na mb e).1 rfl)).trans hR2d.f1)
      all_goals
        have og2 : Off (fun k => (Value.slice a ns.length ca).ownBlock = some k) w2 w3 := (Off.of_below bd).trans og
        have hnew : (Value.slice (some ⟨g3, 0, none⟩) (ns.length + 1) cap3).ownBlock = (Value.slice a ns.length ca).ownBlock ∨ w2.heap.size ≤ g3 := hl3.imp id (fun e => by injection e with e; have e : g3 = _ := e; rw [e]; exact bd.size)
        have hP := hR2.put1 og2 (va' := .slice (some ⟨g3, 0, none⟩) (ns.length + 1) cap3) (ns' := ns ++ [n]) (by rw [NL.out, FL.out]; exact ho3) (fun k hk => by
          rcases hnew with e | e
          · exact .inl (e.symm.trans hk)
          · right; injection hk with hk; have hk : g3 = k := hk; omega)
        have oS : Off (rown mb (.slice a ns.length ca) (.slice g gs.length cg)) w2 (w3.setCell ⟨mb, 1, none⟩ (.slice (some ⟨g3, 0, none⟩) (ns.length + 1) cap3)) := (og2.mono (fun k _ e => .inr (.inl e))).setCell (.inl rfl) _
        have hX5 := hX2.off oS (fun e => by have := hlt _ e; omega)
        have hY5 := hY1.off oS (fun e => by have := hlt _ e; omega)
        have oW : Off (rown mb (.slice a ns.length ca) (.slice g gs.length cg)) w (w3.setCell ⟨mb, 1, none⟩ (.slice (some ⟨g3, 0, none⟩) (ns.length + 1) cap3)) := (Off.of_below hB2).trans oS
        have hsz : w2.heap.size ≤ (w3.setCell ⟨mb, 1, none⟩ (.slice (some ⟨g3, 0, none⟩) (ns.length + 1) cap3)).heap.size := oS.size
        have hnew3 : ∀ k, (Value.slice (some ⟨g3, 0, none⟩) (ns.length + 1) cap3).ownBlock = some k → (Value.slice a ns.length ca).ownBlock = some k ∨ w2.heap.size ≤ k := fun k hk => by
          rcases hnew with e | e
          · exact .inl (e.symm.trans hk)
          · right; injection hk with hk; have hk : g3 = k := hk; omega
        clear c1 c1a y0 y1 bd hR2d hrow hg3 ho3 hl3 og d2 df oS og2 hnew
        generalize w3.setCell ⟨mb, 1, none⟩ (.slice (some ⟨g3, 0, none⟩) (ns.length + 1) cap3) = W4 at hP hX5 hY5 oW hsz ⊢
        have c2 := hP.c2
        have b4 : Below W4.heap.size W4 (W4.alloc (.cells #[.bool false] 4)) := (Below.refl _ _).alloc (Nat.le_refl _) _
        have hP4 := hP.below b4
        have hX6 := hX5.below b4
        have hY6 := hY5.below b4
        have hrow4 := hP4.gone
        have hle4 := hP4.le
        go_wp2_with (at_builtin; refine wpList_append_own_at _ rfl (.tmp 74) (.tmp 75) 39 rfl B 4 ib _ 1 1 Tryd.underlying39 hib hb0 hb1 hb2 rfl (by decide) _ _ (bools gs) rfl hrow4 ⟨W4.heap.size, 0, none⟩ 1 1 [.bool false] rfl rfl (cell_one_new _ _ _) (by intro u hu; simp at hu; subst hu; rfl) (by unfold maxLen; omega) (by omega) hle4 ?_; intro v5 w5 ho5 hg5 _ hl5; obtain ⟨g5, cap5, rfl⟩ := own_shape ho5 (by omega); have og5 := Off.of_grown (K := fun k => (Value.slice g gs.length cg).ownBlock = some k) hg5 (fun k e => e); have m2 := og5.cell hP4.c2 (fun e => hP4.ng mb e rfl); have mf := (og5.frozen (p := ⟨mb, 2, none⟩) (hP4.lt (.inl rfl)) (fun e => hP4.ng mb e rfl)).trans hP4.f2; have oS5 := (og5.mono (K' := fun k => k = mb ∨ (Value.slice g gs.length cg).ownBlock = some k) (fun k _ e => .inr e)).setCell (a := ⟨mb, 2, none⟩) (.inl rfl) (.slice (some ⟨g5, 0, none⟩) (gs.length + 1) cap5); have hX7 := hX6.off oS5 (fun e => by have := hxk _ e; omega); have hY7 := hY6.off oS5 (fun e => by have := hxk _ e; omega); have x0 := hX7.c0; have x1 := hX7.c1; have xf0 := hX7.f0; have xf1 := hX7.f1; have yy0 := hY7.c0; have yy1 := hY7.c1)
        have hnew5 : ∀ k, (Value.slice (some ⟨g5, 0, none⟩) (gs.length + 1) cap5).ownBlock = some k → (Value.slice g gs.length cg).ownBlock = some k ∨ (W4.alloc (.cells #[.bool false] 4)).heap.size ≤ k := fun k hk => by
          rcases hl5 with e | e
          · exact .inl (e.symm.trans hk)
          · right; rw [e] at hk; have hk := Option.some.inj hk; omega
        have hQ := hP4.put2 og5 (vg' := .slice (some ⟨g5, 0, none⟩) (gs.length + 1) cap5) (gs' := gs ++ [false]) (by rw [GL.out, BL.out]; exact ho5) hnew5
        have hall : ∀ k, rown mb (.slice (some ⟨g3, 0, none⟩) (ns.length + 1) cap3) (.slice (some ⟨g5, 0, none⟩) (gs.length + 1) cap5) k → rown mb (.slice a ns.length ca) (.slice g gs.length cg) k ∨ w2.heap.size ≤ k := fun k hk => by
          rcases hk with e | e | e
          · exact .inl (.inl e)
          · exact (hnew3 k e).imp (fun e => .inr (.inl e)) id
          · refine (hnew5 k e).imp (fun e => .inr (.inr e)) (fun e => ?_)
            have := b4.size
            omega
        have oF : Off (rown mb (.slice a ns.length ca) (.slice g gs.length cg)) w (w5.setCell ⟨mb, 2, none⟩ (.slice (some ⟨g5, 0, none⟩) (gs.length + 1) cap5)) := (oW.trans (Off.of_below b4)).trans (oS5.mono (fun k _ e => e.imp id (fun e => .inr e)))
        (try simp only [Exit.inBlock, Exit.then])
        refine bodyPost_ret (v := .tuple #[.agg #[.int .i64 (ns.length : Int), .int .i64 n], .int .i64 0]) ?_ rfl ⟨rfl, ?_⟩
        · rw [results_cell_tmp rfl]; go_simp
        · refine ⟨_, _, hQ.off (K := fun k => k = w.heap.size) (((Off.refl _ _).setCell (K := fun k => k = w.heap.size) rfl _).setCell (K := fun k => k = w.heap.size) rfl _) (fun k hk e => ?_), (oF.setNew (Nat.le_refl _) _).setNew (Nat.le_refl _) _, fun k hk => (hall k hk).imp id (fun e => by omega)⟩
          rcases hall k hk with e' | e'
          · have := hlt k e'; omega
          · omega
end Go.Proofs.YtpnblfabdioanaaDoor.Ix
