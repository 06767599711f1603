/- What the law IDsOnce keeps: the IDs, and a list of all that were issued. -/
import Derived.Test.YtlmllfakoglbcaaDoorF
import Derived.Test.YtlmllfakoglbcaaDoorK
import Derived.Laws.StructEq
namespace Go.Proofs.YtlmllfakoglbcaaDoor
open Go.RowKit Go.Lib Go.Sort Go.Shelf
set_option linter.unusedVariables false
set_option linter.unusedSimpArgs false

theorem Obj.base {w : World} {B B' sb bm : Nat} {v : Value} {L : Int} {ns : List Int} {ls : List R} (h : Obj w B sb bm v L ns ls) (hB : B' ≤ B) : Obj w B' sb bm v L ns ls :=
  ⟨h.inv, h.c0, h.c1, h.c2, h.f2, h.map, own_mono h.row hB, Nat.le_trans hB h.hs, Nat.le_trans hB h.hm, h.ne, h.nv⟩
/-- The fact's steps: of one at a time. -/
theorem one_a (w : World) : Calls Tryd.prog 6 #[.int .i64 1] w fun e w' => ∃ sb bm v, e = .returned (.tuple #[.pointer (some ⟨sb, 0, none⟩), .nilIface]) ∧ Obj w' w.heap.size sb bm v 1 [] [] ∧ Below w.heap.size w w' :=
  (new_yes 1 w rfl).mono fun e w' ⟨he, hO, hb⟩ => ⟨_, _, _, he, hO, hb⟩
theorem one_b {w : World} {B sb bm : Nat} {v : Value} (h : Obj w B sb bm v 1 [] []) : Calls Tryd.prog 7 #[.pointer (some ⟨sb, 0, none⟩), .int .i64 7] w fun e w' => e = .returned (.tuple #[.agg #[.int .i64 0, .int .i64 7], .nilIface]) ∧ ∃ v', Obj w' B sb bm v' 1 [7] [(0, 7)] ∧ Below B w w' :=
  (issue_yes h 7 rfl (by simp) rfl).mono fun e w' ⟨he, v', hO, ho, _⟩ => ⟨he, v', hO, ho.below (fun k hk => h.ge hk) h.le⟩
theorem one_c {w : World} {B sb bm : Nat} {v : Value} (h : Obj w B sb bm v 1 [7] [(0, 7)]) : Calls Tryd.prog 7 #[.pointer (some ⟨sb, 0, none⟩), .int .i64 8] w fun e w' => e = .returned (.tuple #[.agg #[.int .i64 0, .int .i64 0], .iface 48 (.int .i64 4)]) ∧ Below w.heap.size w w' :=
  issue_full h 8 rfl (by simp) rfl
theorem one_d {w : World} {B sb bm : Nat} {v : Value} (h : Obj w B sb bm v 1 [7] [(0, 7)]) : Calls Tryd.prog 8 #[.pointer (some ⟨sb, 0, none⟩), .int .i64 0] w fun e w' => e = .returned .nilIface ∧ ∃ v', Obj w' B sb bm v' 1 [7] [] ∧ Off (own sb bm v) w w' ∧ v'.ownBlock = v.ownBlock :=
  retire_yes h 0 rfl
theorem one_e {w : World} {B sb bm : Nat} {v : Value} (h : Obj w B sb bm v 1 [7] []) : Calls Tryd.prog 7 #[.pointer (some ⟨sb, 0, none⟩), .int .i64 7] w fun e w' => e = .returned (.tuple #[.agg #[.int .i64 0, .int .i64 0], .iface 48 (.int .i64 7)]) ∧ Below w.heap.size w w' :=
  issue_clash h 7 rfl (by simp)
theorem one_f {w : World} {B sb bm : Nat} {v : Value} (h : Obj w B sb bm v 1 [7] []) : Calls Tryd.prog 7 #[.pointer (some ⟨sb, 0, none⟩), .int .i64 8] w fun e w' => e = .returned (.tuple #[.agg #[.int .i64 1, .int .i64 8], .nilIface]) ∧ Off (own sb bm v) w w' :=
  (issue_yes h 8 rfl (by simp) rfl).mono fun e w' ⟨he, v', hO, ho, _⟩ => ⟨he, ho⟩
theorem own_same {sb bm k : Nat} {v v' : Value} (h : v'.ownBlock = v.ownBlock) (hk : own sb bm v' k) : own sb bm v k := by
  rcases hk with e | e | e
  · exact .inl e
  · exact .inr (.inl e)
  · exact .inr (.inr (h ▸ e))

def iat (zs : List Int) (j : Nat) : Int := zs[j]?.getD 0
theorem iat_get {ns : List Int} {j : Nat} (h : j < ns.length) : ns[j]? = some (iat ns j) := by simp [iat, h]
/-- Names with their places. -/
def nm (ns : List Int) : List R := (List.range ns.length).map (fun j : Nat => ((j : Int), iat ns j))
theorem nm_length (ns : List Int) : (nm ns).length = ns.length := by simp [nm]
theorem nm_at {ns : List Int} {j : Nat} (h : j < ns.length) : at' (nm ns) j = ((j : Int), iat ns j) := by simp [at', nm, h]
theorem nm_snoc (ns : List Int) (n : Int) : nm (ns ++ [n]) = nm ns ++ [((ns.length : Int), n)] := by
  unfold nm
  rw [List.length_append, List.length_singleton, List.range_succ, List.map_append]
  congr 1
  · refine List.map_congr_left fun j hj => ?_
    have := List.mem_range.1 hj
    simp [iat, List.getElem?_append_left this]
  · simp [iat]

/-- The world wr within a call that began in w: the IDs, and a slice va of the call's own that holds rs. -/
structure Once (w wr : World) (sb bm : Nat) (va vs : Value) (L : Int) (ns : List Int) (ls rs : List R) : Prop where
  obj : Obj wr w.heap.size sb bm vs L ns ls
  row : wr.ownsRow w.heap.size 29 2 va rs.length (flat rs)
  far : ∀ g, va.ownBlock = some g → ¬ own sb bm vs g
  bel : Below w.heap.size w wr
section
variable {w wr wx : World} {sb bm : Nat} {va va' vs vs' : Value} {L : Int} {ns ns' : List Int} {ls ls' rs : List R}
theorem Once.below (h : Once w wr sb bm va vs L ns ls rs) (hb : Below wr.heap.size wr wx) : Once w wx sb bm va vs L ns ls rs :=
  ⟨h.obj.below hb, own_below h.row hb, h.far, h.bel.trans (hb.mono h.bel.size)⟩
theorem Once.alloc (h : Once w wr sb bm va vs L ns ls rs) (o : Go.Obj) : Once w (wr.alloc o) sb bm va vs L ns ls rs := h.below ((Below.refl _ _).alloc (Nat.le_refl _) _)
theorem Once.start (h : Obj wr w.heap.size sb bm vs L ns ls) (hb : Below w.heap.size w wr) : Once w wr sb bm (.slice none 0 0) vs L ns ls [] :=
  ⟨h, World.ownsRow_nil _ _ _ _, (fun g hg => by cases hg), hb⟩
theorem Once.turn (h : Once w wr sb bm va vs L ns ls rs) (hO : Obj wx w.heap.size sb bm vs' L ns' ls') (ho : Off (own sb bm vs) wr wx) (hv : vs'.ownBlock = vs.ownBlock ∨ ∃ k, vs'.ownBlock = some k ∧ wr.heap.size ≤ k) : Once w wx sb bm va vs' L ns' ls' rs := by
  refine ⟨hO, ho.row h.row (fun k hk => h.far k hk), fun g hg hk => ?_, h.bel.trans (ho.below (fun k hk => h.obj.ge hk) h.obj.le)⟩
  have hlt := (h.row.lt g hg).2
  rcases hk with e | e | e
  · exact h.far g hg (.inl e)
  · exact h.far g hg (.inr (.inl e))
  · rcases hv with hv | ⟨k, hv, hl⟩
    · exact h.far g hg (.inr (.inr (hv ▸ e)))
    · rw [hv] at e
      have : k = g := Option.some.inj e
      omega
theorem Once.append (h : Once w wr sb bm va vs L ns ls rs) {q n : Int} (hr : wx.ownsRow w.heap.size 29 2 va' (rs.length + 1) (flat rs ++ flat [(q, n)])) (hg : wr.grownBy wx va.ownBlock) (hv : va'.ownBlock = va.ownBlock ∨ va'.ownBlock = some wr.heap.size) : Once w wx sb bm va' vs L ns ls (rs ++ [(q, n)]) := by
  have ho : Off (fun k => va.ownBlock = some k) wr wx := Off.of_grown hg (fun k e => e)
  refine ⟨h.obj.off ho (fun k hk e => h.far k e hk), by rw [List.length_append, flat_append]; exact hr, fun g hg' hk => ?_, h.bel.trans (ho.below (fun k hk => (h.row.lt k hk).1) h.obj.le)⟩
  rcases hv with hv | hv
  · exact h.far g (hv ▸ hg') hk
  · rw [hv] at hg'
    have : wr.heap.size = g := Option.some.inj hg'
    have := h.obj.lt hk
    omega
end
theorem structI : Tryd.prog.underlying 29 = some (.struct (Tryd.prog.fieldsOf 29)) := by kernel_rfl
theorem stoodI : Tryd.prog.stoodInHeld 29 = false := by kernel_rfl
theorem guardI (op : BinOp) (x y : Operand) (xs ys : Array Value) (w : World) : (eqGuard op 29 x y (.agg xs) (.agg ys)).run Tryd.prog w = .ok () w := run_eqGuard_agg w op 29 x y xs ys (by kernel_rfl)
theorem neqI (a b c d : Int) (w : World) : (binOp .neq 29 (.agg #[.int .i64 a, .int .i64 b]) (.agg #[.int .i64 c, .int .i64 d])).run Tryd.prog w = .ok (.bool (!(a == c && b == d))) w := by
  have u3 := Tryd.underlying3
  have a3 := Tryd.isAgg3
  have z3 := Tryd.sizeOf3
  rw [run_neq_struct, show (10000 : Nat) = 9999 + 1 from rfl, run_equalIn_agg w 9999 29 _ _ structI stoodI]
  simp only [Program.fieldsOf, Tryd.underlying29]
  go_simp
  by_cases h1 : a = c <;> by_cases h2 : b = d <;> simp [h1, h2]
theorem neqI_same (a b : Int) (w : World) : (binOp .neq 29 (.agg #[.int .i64 a, .int .i64 b]) (.agg #[.int .i64 a, .int .i64 b])).run Tryd.prog w = .ok (.bool false) w := by
  rw [neqI]; simp
theorem eqlI (a b : Int) (w : World) : (binOp .eql 29 (.agg #[.int .i64 a, .int .i64 b]) (.agg #[.int .i64 a, .int .i64 b])).run Tryd.prog w = .ok (.bool true) w := by
  have u3 := Tryd.underlying3
  have a3 := Tryd.isAgg3
  have z3 := Tryd.sizeOf3
  rw [run_eql_struct, show (10000 : Nat) = 9999 + 1 from rfl, run_equalIn_agg w 9999 29 _ _ structI stoodI]
  simp only [Program.fieldsOf, Tryd.underlying29]
  go_simp
end Go.Proofs.YtlmllfakoglbcaaDoor
