/- What the laws of package run need. -/
import Derived.Test.YtdokgalidhmbbaaGreatDoorHO
import Derived.RangeFuncNested
import Derived.Lib.Bytealg
import Derived.Lib.IndexLaws
import Derived.Shelf.Abstract
import Derived.OwnWalkIn
import Derived.TacticsInMore
import Derived.LoopNIn
import Derived.LoopIn
set_option linter.unusedVariables false
set_option linter.unusedSimpArgs false
set_option maxRecDepth 100000
set_option maxHeartbeats 8000000
namespace Go.Proofs.YtdokgalidhmbbaaGreatDoor
namespace Rn
open Go.RowKit Go.Shelf
attribute [local go_sem] Oper.semAt_some

/-- The lines of a text, each with its end. -/
def lnsF : List UInt8 → List (List UInt8)
  | [] => []
  | c :: cs => if c = 10 then [c] :: lnsF cs else match lnsF cs with
    | [] => [[c]]
    | l :: ls => (c :: l) :: ls
def str (l : List UInt8) : ByteArray := ⟨l.toArray⟩
theorem str_list (l : List UInt8) : (str l).data.toList = l := by simp [str]
theorem str_of (s : ByteArray) : str s.data.toList = s := by cases s; simp [str]
theorem str_size (l : List UInt8) : (str l).size = l.length := by simp [str, ByteArray.size]
theorem lns_none : ∀ (l : List UInt8), l ≠ [] → Lib.indexByte l 10 = -1 → lnsF l = [l]
  | [], h, _ => absurd rfl h
  | c :: cs, _, h => by
    rw [Lib.indexByte] at h
    by_cases hc : c = 10
    · subst hc; simp at h
    · have hc2 : (c == 10) = false := by simp [hc]
      rw [hc2] at h
      rw [lnsF, if_neg hc]
      have h2 : Lib.indexByte cs 10 = -1 := by
        by_cases g : Lib.indexByte cs 10 = -1
        · exact g
        · have := Lib.indexByte_ge cs 10
          simp [g] at h
          omega
      cases cs with
      | nil => rfl
      | cons d ds => rw [lns_none (d :: ds) (by simp) h2]
theorem lns_some : ∀ (l : List UInt8) (i : Nat), Lib.indexByte l 10 = i → lnsF l = l.take (i + 1) :: lnsF (l.drop (i + 1)) ∧ i + 1 ≤ l.length
  | [], i, h => by rw [Lib.indexByte] at h; omega
  | c :: cs, i, h => by
    rw [Lib.indexByte] at h
    by_cases hc : c = 10
    · subst hc
      simp at h
      obtain rfl : i = 0 := by omega
      exact ⟨rfl, by simp⟩
    · have hc2 : (c == 10) = false := by simp [hc]
      rw [hc2] at h
      rw [lnsF, if_neg hc]
      by_cases g : Lib.indexByte cs 10 = -1
      · simp [g] at h <;> omega
      · have g2 : (Lib.indexByte cs 10 == -1) = false := by simp [g]
        simp [g2] at h
        obtain ⟨j, rfl⟩ : ∃ j, i = j + 1 := ⟨i - 1, by have := Lib.indexByte_ge cs 10; omega⟩
        obtain ⟨e1, e2⟩ := lns_some cs j (by omega)
        rw [e1]
        exact ⟨rfl, by simpa using e2⟩
theorem lns_step (l : List UInt8) (h : l ≠ []) : (Lib.indexByte l 10 = -1 ∧ lnsF l = [l]) ∨ ∃ i : Nat, Lib.indexByte l 10 = i ∧ lnsF l = l.take (i + 1) :: lnsF (l.drop (i + 1)) ∧ i + 1 ≤ l.length := by
  by_cases g : Lib.indexByte l 10 = -1
  · exact .inl ⟨g, lns_none l h g⟩
  · have := Lib.indexByte_ge l 10
    exact .inr ⟨(Lib.indexByte l 10).toNat, by omega, lns_some l _ (by omega)⟩
theorem lns_join : ∀ l : List UInt8, (lnsF l).flatten = l
  | [] => rfl
  | c :: cs => by
    have ih := lns_join cs
    rw [lnsF]
    split
    · simp [ih]
    · split
      · rename_i e; rw [e] at ih; simp at ih; simp [← ih]
      · rename_i e; rw [e] at ih; simp at ih; simp [ih]
theorem lns_pos : ∀ (l : List UInt8), ∀ x ∈ lnsF l, x ≠ []
  | [], x, hx => by simp [lnsF] at hx
  | c :: cs, x, hx => by
    have ih := lns_pos cs
    rw [lnsF] at hx
    split at hx
    · rcases List.mem_cons.1 hx with rfl | hx
      · simp
      · exact ih x hx
    · split at hx
      · simp at hx; subst hx; simp
      · rename_i e
        rcases List.mem_cons.1 hx with rfl | hx
        · simp
        · exact ih x (by rw [e]; exact List.mem_cons_of_mem _ hx)
theorem flat_ge : ∀ (ls : List (List UInt8)), (∀ x ∈ ls, x ≠ []) → ls.length ≤ ls.flatten.length
  | [], _ => Nat.le_refl _
  | x :: ls, h => by
    have := flat_ge ls fun y hy => h y (List.mem_cons_of_mem _ hy)
    have hx := List.length_pos_iff.2 (h x List.mem_cons_self)
    simp only [List.length_cons, List.flatten_cons, List.length_append]
    omega
theorem lns_count (l : List UInt8) : (lnsF l).length ≤ l.length := by
  have := flat_ge (lnsF l) (lns_pos l)
  rwa [lns_join] at this
theorem lns_each (l : List UInt8) {x : List UInt8} (hx : x ∈ lnsF l) : x.length ≤ l.length := by
  have h := lns_join l
  obtain ⟨a, b, e⟩ := List.append_of_mem hx
  rw [e] at h
  have := congrArg List.length h
  simp at this
  omega
/-- A text behind a line's end. -/
theorem lns_append : ∀ (a b : List UInt8), (a = [] ∨ a.getLast? = some 10) → lnsF (a ++ b) = lnsF a ++ lnsF b
  | [], b, _ => rfl
  | c :: cs, b, h => by
    have h1 : (c :: cs).getLast? = some 10 := h.resolve_left (by simp)
    by_cases hn : cs = []
    · subst hn
      simp at h1
      subst h1
      rfl
    · have h2 : cs.getLast? = some 10 := by
        rw [List.getLast?_cons] at h1
        obtain ⟨d, e⟩ : ∃ d, cs.getLast? = some d := by
          cases e : cs.getLast? with
          | none => rw [List.getLast?_eq_none_iff] at e; exact absurd e hn
          | some d => exact ⟨d, rfl⟩
        rw [e] at h1 ⊢
        exact h1
      have ih := lns_append cs b (.inr h2)
      rw [List.cons_append, lnsF, lnsF, ih]
      split
      · rfl
      · have hne : lnsF cs ≠ [] := fun e => by
          have := lns_join cs
          rw [e] at this
          exact hn this.symm
        cases e : lnsF cs with
        | nil => exact absurd e hne
        | cons l ls => rfl
theorem off_put {K : Nat → Prop} {W : World} {k : Nat} (hk : K k) (o : Obj) : Off K W (W.putObj k o) :=
  ⟨rfl, rfl, rfl, by simp, fun i _ hn => World.putObj_heap_other (fun e => hn (by rw [e]; exact hk))⟩
/-- What strings.Lines' iterator asks of each round, and gives. -/
def Gives (F : Fence) (n bx : Nat) (t : List UInt8) : Prop :=
  ∀ (l : Nat) (J : List (List UInt8) → World → Prop), (∀ pre W W', J pre W → Off (fun k => k = bx) W W' → J pre W') →
    (∀ pre x post W, lnsF t = pre ++ x :: post → (∃ r, W.heap[bx]? = some (.cells #[.string r] 9 (0, 0))) → J pre W → YieldAt F (n - 1) Tryz.prog l #[.string (str x)] W fun e W' => e = .returned (.bool true) ∧ J (pre ++ [x]) W' ∧ W'.heap[bx]? = W.heap[bx]?) →
    ∀ W, W.heap[bx]? = some (.cells #[.string (str t)] 9 (0, 0)) → J [] W →
      CallsIn F n Tryz.prog 32 #[.func (.yield l) #[] #[], .pointer (some ⟨bx, 0, none⟩)] W fun e W' => (∃ v, e = .returned v) ∧ J (lnsF t) W'
/-- What a round leaves. -/
def LinePost (I : List (List UInt8) → World → Prop) (D bx : Nat) (xs : List (List UInt8)) (W : World) : Exit → Act → World → Prop := fun e _ W' =>
  e = .normal ∧ I xs W' ∧ ∀ k, (k = bx ∨ k = D ∨ k = D + 1) → W'.heap[k]? = W.heap[k]?
/-- A range over strings.Lines: no round leaves it. -/
theorem wpIn_lines {F : Fence} {n : Nat} {g : Operand} {ps : Array Tmp} {assign body : Code} {Q : Exit → Act → World → Prop} {a : Act} {w : World} (hro : F.round = none) (h1 : 1 ≤ n) {bx : Nat}
    (hg : a.eval g = .func (.func 32) #[] #[.pointer (some ⟨bx, 0, none⟩)]) (hF : F.fn 32) (eg : ∀ args w, (callFunc 32 args).run Tryz.prog w = .ok (.enter 32 args) w) {t : List UInt8} (hG : Gives F (n - 1) bx t) (hps : ps.size = 1)
    (hb : w.heap[bx]? = some (.cells #[.string (str t)] 9 (0, 0))) (I : List (List UInt8) → World → Prop)
    (hI : ∀ pre W W', I pre W → Off (fun k => k = bx ∨ k = w.heap.size ∨ k = w.heap.size + 1) W W' → I pre W') (h0 : I [] w) (a₁ : List UInt8 → Act)
    (hassign : ∀ (l : Nat) (x : List UInt8) (W : World) (K : Act → World → Prop), K (a₁ x) W →
      assign.wpIn (F.inRound l) (n - 1 - 1) Tryz.prog (Exit.then K (fun _ _ _ => False)) { tmps := (ps.zip #[.string (str x)]).foldl (fun t (p, v) => t.setIfInBounds p v) a.tmps, defers := [] } W)
    (hbody : ∀ (l : Nat) (pre : List (List UInt8)) (x : List UInt8) (post : List (List UInt8)) (W : World), lnsF t = pre ++ x :: post → I pre W → (∃ r, W.heap[bx]? = some (.cells #[.string r] 9 (0, 0))) → (∃ o, W.heap[w.heap.size]? = some o ∧ o.isCells = false) → (∃ o, W.heap[w.heap.size + 1]? = some o ∧ o.isCells = false) →
      body.wpIn (F.inRound l) (n - 1 - 1) Tryz.prog (LinePost I w.heap.size bx (pre ++ [x]) W) (a₁ x) W)
    (hdone : ∀ W, I (lnsF t) W → W.heap[w.heap.size]? = some (.deferred (some [])) → Q .normal { a with defers := { target := .collected w.heap.size, args := #[] } :: a.defers } W) :
    (Code.rangeFunc g ps assign body).wpIn F n Tryz.prog Q a w := by
  refine wpIn_rangeFunc ?_
  intro fn hfn
  rw [hro]
  have hbx : bx < w.heap.size := (Array.getElem?_eq_some_iff.1 hb).1
  obtain ⟨rec, hrec⟩ : ∃ rec : LoopState → Option Code → Loop, rec = fun st pe => { state := st, pending := pe, fn, tmps := a.tmps, params := ps, assign, body, defers := w.heap.size } := ⟨_, rfl⟩
  obtain ⟨W1, hW1⟩ : ∃ W1, (w.alloc (.deferred (some []))).alloc (.loop (rec .ready none)) = W1 := ⟨_, rfl⟩
  have hof : Off (fun k => k = bx ∨ k = w.heap.size ∨ k = w.heap.size + 1) w W1 := by rw [← hW1]; exact ((Off.refl _ w).alloc _).alloc _
  have hL1 : W1.heap[w.heap.size + 1]? = some (.loop (rec .ready none)) := by
    rw [← hW1]; have := World.alloc_heap_new (w.alloc (.deferred (some []))) (.loop (rec .ready none)); rwa [World.size_alloc] at this
  have hK1 : W1.heap[w.heap.size]? = some (.deferred (some [])) := by
    rw [← hW1]; exact (Below.heap_alloc _ _ _ (by simp)).trans (World.alloc_heap_new w _)
  have hB1 : W1.heap[bx]? = some (.cells #[.string (str t)] 9 (0, 0)) := by
    rw [← hW1]; exact (Below.heap_alloc _ _ _ (by simp; omega)).trans ((Below.heap_alloc _ _ _ hbx).trans hb)
  refine ⟨w.heap.size + 1, [{ target := .collected w.heap.size, args := #[] }], W1, { target := .fn (.func 32) #[.pointer (some ⟨bx, 0, none⟩)], args := #[.func (.yield (w.heap.size + 1)) #[] #[]] }, W1, 32,
    #[.func (.yield (w.heap.size + 1)) #[] #[]] ++ #[.pointer (some ⟨bx, 0, none⟩)], W1, ?_, ?_, ?_, ?_, fun _ => h1, ?_⟩
  · rw [← hW1, hrec]; exact run_enterLoop_outer _ _ _ _ _
  · simp only [resolve, hg]
    simp [go_sem]
  · intro f' hf'; simp [Target.leads] at hf'; subst hf'; exact hF
  · simp [invoke, go_sem, eg]
  have hrd : ∀ (st : LoopState) (pe : Option Code), (rec st pe).state = st ∧ (rec st pe).pending = pe := fun st pe => by rw [hrec]; exact ⟨rfl, rfl⟩
  refine (hG (w.heap.size + 1) (fun pre W => I pre W ∧ W.heap[w.heap.size + 1]? = some (.loop (rec .ready none)) ∧ W.heap[w.heap.size]? = some (.deferred (some []))) ?_ ?_ W1 hB1 ⟨hI _ _ _ h0 hof, hL1, hK1⟩).mono ?_
  · rintro pre W W' ⟨hi, hl, hk⟩ ho
    exact ⟨hI _ _ _ hi (ho.mono fun k _ e => .inl e), (ho.block _ (Array.getElem?_eq_some_iff.1 hl).1 (by omega)).trans hl, (ho.block _ (Array.getElem?_eq_some_iff.1 hk).1 (by omega)).trans hk⟩
  · rintro pre x post W he ⟨r, hr0⟩ ⟨hi, hl, hk⟩
    have hlt : w.heap.size + 1 < W.heap.size := (Array.getElem?_eq_some_iff.1 hl).1
    have hy := run_yield (P := Tryz.prog) (args := #[.string (str x)]) hl (by rw [hrec]; exact hps.symm)
    rw [hrec] at hy
    refine ⟨fn, _, assign, body, hy, roundIn_of_wpIn hfn (hassign _ x W _ ⟨_, run_beginRound hl (by rw [hrec]), ?_⟩)⟩
    have hl2 : (W.putObj (w.heap.size + 1) (.loop { rec .ready none with state := .busy })).heap[w.heap.size + 1]? = some (.loop { rec .ready none with state := .busy }) := World.putObj_heap_same hlt
    refine wpIn_mono (hbody _ pre x post _ he (hI _ _ _ hi (off_put (.inr (.inr rfl)) _)) ⟨r, (World.putObj_heap_other (by omega)).trans hr0⟩ ⟨_, (World.putObj_heap_other (by omega)).trans hk, rfl⟩ ⟨_, hl2, rfl⟩) ?_
    rintro e a3 W3 ⟨rfl, hi3, hk3⟩
    have hl3 := (hk3 _ (.inr (.inr rfl))).trans hl2
    have hd3 := (hk3 _ (.inr (.inl rfl))).trans ((World.putObj_heap_other (by omega)).trans hk)
    have hb3 := (hk3 _ (.inl rfl)).trans (World.putObj_heap_other (w := W) (k := bx) (by omega : bx ≠ w.heap.size + 1))
    have hr := run_endRound (P := Tryz.prog) none hl3
    rw [hrec] at hr hl3
    refine ⟨_, _, hr, rfl, ⟨hI _ _ _ hi3 (off_put (.inr (.inr rfl)) _), ?_, (World.putObj_heap_other (by omega)).trans hd3⟩, (World.putObj_heap_other (by omega)).trans hb3⟩
    rw [hrec]
    exact World.putObj_heap_same (Array.getElem?_eq_some_iff.1 hl3).1
  · rintro e W2 ⟨⟨v, rfl⟩, hi, hl, hk⟩
    have hr := run_endLoop (P := Tryz.prog) hl (by rw [hrec]; simp)
    rw [hrec] at hr
    exact ⟨none, _, hr, hdone _ (hI _ _ _ hi (off_put (.inr (.inr rfl)) _)) ((World.putObj_heap_other (by omega)).trans hk)⟩
theorem sl_from (s : ByteArray) (a : Nat) (h : a ≤ s.size) (hl : s.size ≤ 9223372036854775807) (w : World) : (Instr.slice 9 (.string s) (some (.int .i64 (a : Int))) none none).run Tryz.prog w = .ok (.string (s.extract a s.size)) w := by
  have h' : (a : Int) ≤ (s.size : Int) := by omega
  have e := Tryz.underlying9
  go_simp
theorem sl_upto (s : ByteArray) (b : Nat) (h : b ≤ s.size) (hl : s.size ≤ 9223372036854775807) (w : World) : (Instr.slice 9 (.string s) none (some (.int .i64 (b : Int))) none).run Tryz.prog w = .ok (.string (s.extract 0 b)) w := by
  have h' : (b : Int) ≤ (s.size : Int) := by omega
  have e := Tryz.underlying9
  go_simp
theorem str_from (l : List UInt8) (a : Nat) : (str l).extract a (str l).size = str (l.drop a) := by
  have h : ((str l).extract a (str l).size).data.toList = (str (l.drop a)).data.toList := by
    rw [str_list, Lib.extract_data, str_list, str_size]
    exact List.take_of_length_le (by simp)
  rw [← str_of ((str l).extract a (str l).size), h, str_of]
theorem str_upto (l : List UInt8) (b : Nat) : (str l).extract 0 b = str (l.take b) := by
  have h : ((str l).extract 0 b).data.toList = (str (l.take b)).data.toList := by
    rw [str_list, Lib.extract_data, str_list]
    simp
  rw [← str_of ((str l).extract 0 b), h, str_of]
set_option maxRecDepth 100000 in
theorem idx48 (s : ByteArray) (w : World) : Calls Tryz.prog 48 #[.string s, .int .u8 10] w fun e w' => e = .returned (.int .i64 (Lib.indexByte s.data.toList 10)) ∧ w' = w := by
  go_enter Tryz.func48, Tryz.ntmps48
  go_wp2
  rw [run_callFunc_extern Tryz.func69 (by kernel_rfl) (by kernel_rfl) (by kernel_rfl) (e := Extern.BytealgIndexByte.indexByte) (by kernel_rfl), Lib.run_indexByteString]
  simp only [Result.andThen]
  rw [Oper.upon_value]
  go_wp2
  go_ret
  exact ⟨rfl, rfl⟩
set_option maxRecDepth 100000 in
theorem idx_calls (s : ByteArray) (w : World) : Calls Tryz.prog 33 #[.string s, .int .u8 10] w fun e w' => e = .returned (.int .i64 (Lib.indexByte s.data.toList 10)) ∧ w' = w := by
  have H := idx48 s w
  go_enter Tryz.func33, Tryz.ntmps33
  go_wp2_with (go_at_call 48; refine H.mono ?_; rintro e w1 ⟨rfl, hw1⟩; obtain rfl := hw1.symm)
  go_ret
  exact ⟨rfl, rfl⟩
/-- How much text the box holds. -/
def boxLen (w : World) (bx : Nat) : Nat := match w.heap[bx]? with
  | some (Obj.cells cs _ _) => match cs[0]? with
    | some (Value.string s) => s.size
    | _ => 0
  | _ => 0
theorem boxLen_is {w : World} {bx : Nat} {s : ByteArray} {t : TypeId} {fr : Nat × Nat} (h : w.heap[bx]? = some (.cells #[.string s] t fr)) : boxLen w bx = s.size := by
  unfold boxLen; rw [h]; rfl
theorem box_set {w : World} {bx : Nat} {u : Value} (h : w.heap[bx]? = some (.cells #[u] 9 (0, 0))) (v : Value) : (w.setCell ⟨bx, 0, none⟩ v).heap[bx]? = some (.cells #[v] 9 (0, 0)) := by
  simp [World.setCell, Array.getElem?_modify, h]
theorem off_box (w : World) (bx : Nat) (v : Value) : Off (fun k => k = bx) w (w.setCell ⟨bx, 0, none⟩ v) := (Off.refl (fun k => k = bx) w).setCell (a := ⟨bx, 0, none⟩) rfl v
set_option maxRecDepth 100000 in
set_option maxHeartbeats 4000000 in
theorem lines_gives (n bx : Nat) (hn : 1 ≤ n) (t : List UInt8) (hs : t.length ≤ 3000) : Gives Fence.wide n bx t := by
  intro l J hJ hY W hb h0
  have h33 : Fence.wide.fn 33 := trivial
  refine callsIn_of_wp Tryz.func32 rfl trivial ?_ rfl
  simp only [Tryz.ntmps32, List.size_toArray, List.length_cons, List.length_nil, Nat.reduceAdd, Nat.reduceSub, Array.replicate_succ, Array.replicate_zero, List.push_toArray, List.append_toArray, List.nil_append, List.cons_append]
  gi_wp2
  gi_loopw [3] (fun _ wr => ∃ pre r, lnsF t = pre ++ lnsF r ∧ r.length ≤ 3000 ∧ wr.heap[bx]? = some (.cells #[.string (str r)] 9 (0, 0)) ∧ J pre wr)
    (fun _ wr => boxLen wr bx)
  case atStart => exact ⟨[], t, rfl, hs, hb, h0⟩
  case round =>
    obtain ⟨pre, r, he, hr, hbx, hj⟩ := hrel
    have hc : wr.cell? ⟨bx, 0, none⟩ = some (.string (str r)) := by simp [World.cell?, hbx]
    have hfz : wr.frozen? ⟨bx, 0, none⟩ = false := by simp [World.frozen?, hbx]
    have hz := str_size r
    by_cases hr0 : r = []
    · subst hr0
      have h0 : (str []).size = 0 := rfl
      have hend : J (lnsF t) wr := by rw [he]; simpa [lnsF] using hj
      clear hY hJ he
      gi_wp2
      go_end0
      exact ⟨⟨_, rfl⟩, hend⟩
    · have hpos : 0 < r.length := List.length_pos_iff.2 hr0
      have HI := idx_calls (str r) wr
      rw [str_list] at HI
      have g0 : (0 : Int) < ((str r).size : Int) := by omega
      rcases lns_step r hr0 with ⟨hi, hl⟩ | ⟨i, hi, hl, hle⟩
      · rw [hi] at HI
        obtain ⟨fn, tmps, assign, body, hy, hR⟩ := hY pre r [] (wr.setCell ⟨bx, 0, none⟩ (.string ⟨#[]⟩)) (by rw [he, hl]) ⟨_, box_set hbx _⟩ (hJ _ _ _ hj (off_box wr bx _))
        have hb2 := box_set hbx (.string ⟨#[]⟩)
        have hlen := boxLen_is hbx
        clear hY hJ hbx
        generalize str r = sr at *
        gi_wp2_with (gi_at_call 33; refine (callsIn_wide.2 HI).mono ?_; rintro e w1 ⟨rfl, hw1⟩; obtain rfl := hw1.symm)
        refine hR.mono ?_
        rintro e W3 ⟨rfl, hJ3, hk3⟩
        gi_wp2
        go_roundw
        case rel => exact ⟨pre ++ [r], [], by rw [he, hl]; simp [lnsF], by simp, hk3.trans hb2, hJ3⟩
        case measure => rw [boxLen_is (hk3.trans hb2), hlen]; have h00 : (ByteArray.mk #[]).size = 0 := rfl; omega
      · rw [hi] at HI
        have e1 : ((i + 1 : Nat) : Int) = (i : Int) + 1 := by omega
        have hu := sl_upto (str r) (i + 1) (by omega) (by omega)
        have hf := sl_from (str r) (i + 1) (by omega) (by omega)
        rw [str_upto, e1] at hu
        rw [str_from, e1] at hf
        obtain ⟨fn, tmps, assign, body, hy, hR⟩ := hY pre (r.take (i + 1)) (lnsF (r.drop (i + 1))) (wr.setCell ⟨bx, 0, none⟩ (.string (str (r.drop (i + 1))))).drew (by rw [he, hl]) ⟨_, box_set hbx _⟩ (hJ _ _ _ hj (off_box wr bx _).drew)
        have hb2 : (wr.setCell ⟨bx, 0, none⟩ (.string (str (r.drop (i + 1))))).drew.heap[bx]? = _ := box_set hbx (.string (str (r.drop (i + 1))))
        have hlen := boxLen_is hbx
        have hz2 := str_size (r.drop (i + 1))
        rw [List.length_drop] at hz2
        have hd3 : (r.drop (i + 1)).length ≤ 3000 := by rw [List.length_drop]; omega
        have he2 : lnsF t = (pre ++ [r.take (i + 1)]) ++ lnsF (r.drop (i + 1)) := by rw [he, hl]; simp
        clear hY hJ hbx he hl
        generalize str r = sr at *
        generalize r.take (i + 1) = x at *
        generalize r.drop (i + 1) = rest at *
        generalize str x = xs at *
        have i0 : (0 : Int) ≤ (i : Int) := by omega
        gi_wp2_with (gi_at_call 33; refine (callsIn_wide.2 HI).mono ?_; rintro e w1 ⟨rfl, hw1⟩; obtain rfl := hw1.symm)
        have hcd : wr.drew.cell? ⟨bx, 0, none⟩ = some (.string sr) := hc
        have hfd : wr.drew.frozen? ⟨bx, 0, none⟩ = false := hfz
        gi_region
        all_goals gi_wp2
        all_goals (refine hR.mono ?_; rintro e W3 ⟨rfl, hJ3, hk3⟩; gi_wp2; go_roundw)
        case rel => exact ⟨_, rest, he2, hd3, hk3.trans hb2, hJ3⟩
        case measure => rw [boxLen_is (hk3.trans hb2), hlen]; omega
end Rn
end Go.Proofs.YtdokgalidhmbbaaGreatDoor
