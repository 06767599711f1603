/- A region that draws its order and stands in a round of a range over a function: walked as out of a round, its loads held by a condition on the world. No program stands here. -/
import Derived.Test.YtegelodkopommaaDoorY
import Derived.OrdersHeld
import Derived.Deep.RegionHeld
import Derived.Maps.AppendAt
namespace Go.Proofs.YtegelodkopommaaDoor
open Go
set_option linter.unusedVariables false

/-- Q at a quiet end, nothing else. -/
def Quiet (Q : Exit → Act → World → Prop) : Exit → Act → World → Prop := fun x a w => x = .normal ∧ Q x a w
theorem Quiet.panic {Q : Exit → Act → World → Prop} {d : Option Tmp} {v : Value} : ∀ c a w, Quiet Q (.panic c) (a.put d v) w → Quiet Q (.panic c) a w := fun _ _ _ h => by have e := h.1; cases e
theorem Quiet.normal {Q : Exit → Act → World → Prop} {a : Act} {w : World} (h : Q .normal a w) : Quiet Q .normal a w := ⟨rfl, h⟩
theorem Quiet.lets {Q : Exit → Act → World → Prop} (h : LetsOut (Quiet Q)) : False := by
  obtain ⟨a, w, e, _⟩ := h
  cases e
theorem oper_quiet {n : Nat} {P : Program} {l : Nat} {o : Oper} {a : Act} {w : World} {K K' : Act → World → Prop} {Q : Exit → Act → World → Prop} (hd : ∀ c, o.op ≠ .defer c) (hK : ∀ a w, K a w → K' a w)
    (h : o.wp P a w K (Quiet Q)) : o.wpIn (Fence.wide.inRound l) n P a w K' Q := by
  refine ⟨fun _ _ => trivial, ?_⟩
  rw [Oper.semAt_eq _ _ _ hd]
  unfold Oper.wp at h
  generalize (execOp a.eval o).run P w = r at *
  cases r with
  | ok x w' =>
    cases x with
    | value v => exact hK _ _ h
    | skip => exact hK _ _ h
    | defer d => exact hK _ _ h
    | enter f args =>
      refine ⟨(fun e => by simp [Fence.inRound, Fence.wide] at e), CallsIn.inRound l (callsIn_wide.2 ?_)⟩
      refine Calls.mono (show Calls P f args w' _ from h) ?_
      intro e w'' he
      cases e with
      | returned v => exact hK _ _ he
      | panicked c => (have e := he.1; cases e)
      | outgrown => exact (Quiet.lets he).elim
    | row r args =>
      refine ⟨(fun e => by simp [Fence.inRound, Fence.wide] at e), fun c cs _ => ?_⟩
      obtain ⟨v, w'', hr, hs⟩ := (show Rows P r args w' _ from h) c cs
      exact ⟨v, w'', hK _ _ hr, stepsIn_wide.2 hs⟩
    | _ => exact h.elim
  | halt x w' =>
    cases x with
    | panic v => (have e := h.1; cases e)
    | _ => exact h.elim
theorem wpAny_quiet {n : Nat} {P : Program} {md : Region.Mode} {ops : Array Oper} {l : Nat} {Q : Exit → Act → World → Prop} (hd : ∀ (i : Nat) (o : Oper), ops[i]? = some o → ∀ c, o.op ≠ .defer c) :
    ∀ (fuel : Nat) (listed : Array Bool) (a : Act) (w : World), wpAny P md ops (Quiet Q) fuel listed a w → wpAnyIn (Fence.wide.inRound l) n P md ops Q fuel listed a w
  | 0, _, _, _, h => ⟨h.1, h.2.2⟩
  | fuel + 1, listed, a, w, h => ⟨fun e => (h.1 e).2, fun i hi => by
      have h2 := h.2 i hi
      unfold wpOp at h2
      unfold wpOpIn
      cases ho : ops[i]? with
      | none => simp only [ho] at h2; exact wpAny_quiet hd fuel _ a w h2
      | some o =>
        simp only [ho] at h2
        dsimp only
        by_cases hw : Region.wanted o (yielded ops a.tmps)
        · simp only [hw, if_true] at h2 ⊢
          rcases h2 with h2 | ⟨_, h2⟩
          · exact oper_quiet (hd i o ho) (fun a' w' h' => wpAny_quiet hd fuel _ a' w' h') h2
          · exact (Quiet.lets h2).elim
        · simp only [hw] at h2 ⊢
          exact ⟨fun _ _ => trivial, wpAny_quiet hd fuel _ _ _ h2⟩⟩
/-- The beginning. -/
theorem region_round_held {n : Nat} {P : Program} {l id : Nat} {Q : Exit → Act → World → Prop} {a : Act} {w : World} {ops : List Oper} (S : World → Prop) (hm : P.follows .mixedOrders = true) (hd : (ops.all fun o => !defers o.op) = true) (hS : S w.drew)
    (h : S w.drew → wpAnyH P .any ops.toArray (Quiet Q) S ops.toArray.size (Array.replicate ops.toArray.size false) a w.drew) : (Code.region id ops.toArray true).wpIn (Fence.wide.inRound l) n P Q a w := by
  refine wpIn_region_any hm (wpAny_quiet (fun i o ho c e => ?_) _ _ _ _ (wpAny_of_held _ _ _ _ (h hS)))
  have hmem : o ∈ ops := by
    have := Array.mem_of_getElem? ho
    simpa using this
  have := List.all_eq_true.1 hd o hmem
  rw [e] at this
  simp [defers] at this

theorem step_append_own {P : Program} {ops : Array Oper} {o : Oper} {a : Act} {w : World} {K : Act → World → Prop} {Q : Exit → Act → World → Prop} {E : Prop}
    (hg : o.guard = none) (s x : Operand) (t : TypeId) (hop : o.op = Op.call { callee := Callee.builtin Builtin.append, args := #[s, x], argTypes := #[t, t] })
    (base : Nat) (e : TypeId) (i : TypeInfo) (z : Value) (size bytes : Nat) (h1 : P.underlying t = some (.slice e)) (h2 : P.info? e = some i) (h3 : i.zero = some z) (h4 : i.size = size) (h5 : i.bytes = bytes) (h6 : z.cells.size = size) (h7 : 0 < size)
    (v : Value) (n : Nat) (xs : List Value) (hs : a.eval s = v) (hown : w.ownsRow base e size v n xs)
    (ad : Addr) (m c : Nat) (news : List Value) (hx : a.eval x = .slice (some ad) m c) (hn : news.length = m * size) (hc : ∀ j u, news[j]? = some u → w.cell? (ad.add j) = some u) (h1c : ∀ u ∈ news, u.oneCell' = true)
    (b1 : n + m ≤ maxLen) (b2 : (n + m) * bytes ≤ 140737488355328) (hbase : base ≤ w.heap.size)
    (hK : ∀ v' w', w'.ownsRow base e size v' (n + m) (xs ++ news) → w.grownBy w' v.ownBlock → K (a.put o.dst v') w') :
    if Region.wanted o (yielded ops a.tmps) = true then Oper.wp P o a w K Q else E := by
  have hw : Region.wanted o (yielded ops a.tmps) = true := by simp [Region.wanted, hg]
  rw [if_pos hw]
  obtain ⟨v', w', hrun, r1, r2, _, r4⟩ := run_append_own_at (P := P) w base t o.type e i z size bytes h1 h2 h3 h4 h5 h6 h7 v n xs hown ad m c news hn hc h1c b1 b2 hbase
  unfold Oper.wp
  simp [execOp, hop, resolve, invoke, builtin, hs, hx, hrun, Result.andThen]
  exact hK v' w' r1 r2
end Go.Proofs.YtegelodkopommaaDoor
