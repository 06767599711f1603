/- The texts A,B,C,D of proof, at this seat. -/
import Derived.Test.YtpnblfabdioanaaDoorEO
import Derived.Maps.OwnSet
import Derived.Test.YtpnblfabdioanaaDoorChecked
import Derived.WalkKit
import Derived.WalkSpells
import Derived.WalkLawsBesides
import Derived.LoopN
import Derived.Outline
import Derived.BigQuiet
import Derived.Deep.RegionWith
import Derived.Deep.RegionHeld3
import Derived.Shelf.SlSortCmp.QuietGrown
import Derived.Maps.AppendAt
import Derived.Laws.AppendOwnNone
import Derived.Deep.LoopGhost
import Derived.Deep.DeepCutAuto
import Derived.KernelRfl
namespace Go.Proofs.YtpnblfabdioanaaDoor.Ox
open Go.RowKit Go.Lib Go.Sort
set_option linter.unusedVariables false
set_option linter.unusedSimpArgs false


abbrev T := Int × Int × Int
def tat (zs : List T) (j : Nat) : T := zs[j]?.getD (0, 0, 0)
theorem tat_get {zs : List T} {j : Nat} (h : j < zs.length) : zs[j]? = some (tat zs j) := by simp [tat, h]
theorem tat_mem {zs : List T} {j : Nat} (h : j < zs.length) : tat zs j ∈ zs := List.mem_of_getElem? (tat_get h)
theorem mem_tat {zs : List T} {x : T} (h : x ∈ zs) : ∃ j, j < zs.length ∧ tat zs j = x := by
  obtain ⟨j, hj, e⟩ := List.getElem_of_mem h
  exact ⟨j, hj, by simp [tat, hj, e]⟩
def pathB (n : Int) : Bool := decide (0 ≤ n ∧ n ≤ 3)
def numB (n : Int) : Bool := decide (0 ≤ n ∧ n ≤ 1073741823)
def timeB (n : Int) : Bool := decide (0 ≤ n ∧ n ≤ 100000)
def rightB (p n t : Int) : Bool := pathB p && numB n && timeB t
theorem right_of {p n t : Int} (h : rightB p n t = true) : (0 ≤ p ∧ p ≤ 3) ∧ (0 ≤ n ∧ n ≤ 1073741823) ∧ 0 ≤ t ∧ t ≤ 100000 := by
  simp [rightB, pathB, numB, timeB] at h
  omega
theorem right_mk {p n t : Int} (h1 : 0 ≤ p ∧ p ≤ 3) (h2 : 0 ≤ n ∧ n ≤ 1073741823) (h3 : 0 ≤ t ∧ t ≤ 100000) : rightB p n t = true := by
  simp [rightB, pathB, numB, timeB]
  omega
/-- Whether a number is open. -/
def isIn (ls : List T) (n : Int) : Bool := ls.any fun x => decide (x.2.1 = n)
theorem isIn_yes {ls : List T} {n : Int} (h : isIn ls n = true) : ∃ x ∈ ls, x.2.1 = n := by simpa [isIn] using h
theorem isIn_no {ls : List T} {n : Int} (h : isIn ls n = false) : ∀ x ∈ ls, x.2.1 ≠ n := by
  intro x hx e
  have : isIn ls n = true := by simp only [isIn, List.any_eq_true]; exact ⟨x, hx, by simp [e]⟩
  rw [h] at this; cases this
theorem isIn_of {ls : List T} {n : Int} {x : T} (h : x ∈ ls) (e : x.2.1 = n) : isIn ls n = true := by
  simp only [isIn, List.any_eq_true]; exact ⟨x, h, by simp [e]⟩
theorem isIn_not {ls : List T} {n : Int} (h : ∀ x ∈ ls, x.2.1 ≠ n) : isIn ls n = false := by
  cases e : isIn ls n with
  | false => rfl
  | true => obtain ⟨x, hx, e'⟩ := isIn_yes e; exact absurd e' (h x hx)
def askF (ls : List T) (p n t : Int) : Int := if rightB p n t = false then 1 else if isIn ls n = true then 7 else if 8 ≤ ls.length then 4 else 0
def askL (ls : List T) (p n t : Int) : List T := if askF ls p n t = 0 then ls ++ [(p, n, t)] else ls
theorem askF_range {ls : List T} {p n t : Int} (h : rightB p n t = false) : askF ls p n t = 1 := by simp [askF, h]
theorem askF_clash {ls : List T} {p n t : Int} (h : rightB p n t = true) (h2 : isIn ls n = true) : askF ls p n t = 7 := by simp [askF, h, h2]
theorem askF_full {ls : List T} {p n t : Int} (h : rightB p n t = true) (h2 : isIn ls n = false) (h3 : 8 ≤ ls.length) : askF ls p n t = 4 := by simp [askF, h, h2, h3]
theorem askF_yes {ls : List T} {p n t : Int} (h : rightB p n t = true) (h2 : isIn ls n = false) (h3 : ls.length < 8) : askF ls p n t = 0 := by
  have : ¬ 8 ≤ ls.length := by omega
  simp [askF, h, h2, this]
theorem askL_yes {ls : List T} {p n t : Int} (h : askF ls p n t = 0) : askL ls p n t = ls ++ [(p, n, t)] := if_pos h
theorem askL_no {ls : List T} {p n t : Int} (h : askF ls p n t ≠ 0) : askL ls p n t = ls := if_neg h
/-- Whether one that is open is told back so. -/
def hit (x : T) (p n t l : Int) : Bool := decide (x.2.1 = n ∧ x.1 = p ∧ x.2.2 ≤ t ∧ t - x.2.2 ≤ l)
def ansF (p n t l : Int) : Int := if rightB p n t = true ∧ timeB l = true then 0 else 1
def soB (ls : List T) (p n t l : Int) : Bool := ls.any fun x => hit x p n t l
def ansB (ls : List T) (p n t l : Int) : Bool := decide (ansF p n t l = 0) && soB ls p n t l
def gone (ls : List T) (n : Int) : List T := ls.filter fun x => !decide (x.2.1 = n)
def ansL (ls : List T) (p n t l : Int) : List T := if ansB ls p n t l = true then gone ls n else ls
structure Inv (ls : List T) : Prop where
  few : ls.length ≤ 8
  apart : ls.Pairwise fun a b => a.2.1 ≠ b.2.1
  right : ∀ x ∈ ls, rightB x.1 x.2.1 x.2.2 = true
theorem Inv.start : Inv [] := ⟨by simp, List.Pairwise.nil, fun x h => by simp at h⟩
theorem Inv.more {ls : List T} (h : Inv ls) {p n t : Int} (h1 : rightB p n t = true) (h2 : isIn ls n = false) (h3 : ls.length < 8) : Inv (ls ++ [(p, n, t)]) := by
  refine ⟨by simp; omega, ?_, fun x hx => ?_⟩
  · rw [List.pairwise_append]
    refine ⟨h.apart, by simp, ?_⟩
    intro a ha b hb
    have : b = (p, n, t) := by simpa using hb
    subst this
    exact isIn_no h2 a ha
  · rw [List.mem_append] at hx
    rcases hx with hx | hx
    · exact h.right x hx
    · have : x = (p, n, t) := by simpa using hx
      subst this
      exact h1
theorem Inv.ask {ls : List T} (h : Inv ls) (p n t : Int) : Inv (askL ls p n t) := by
  by_cases e : askF ls p n t = 0
  · rw [askL_yes e]
    unfold askF at e
    split at e
    · cases e
    · split at e
      · cases e
      · split at e
        · cases e
        · rename_i h1 h2 h3
          exact h.more (by simpa using h1) (by simpa using h2) (by omega)
  · rw [askL_no e]; exact h
theorem gone_le (ls : List T) (n : Int) : (gone ls n).length ≤ ls.length := List.length_filter_le _ _
theorem Inv.gone {ls : List T} (h : Inv ls) (n : Int) : Inv (gone ls n) :=
  ⟨Nat.le_trans (gone_le ls n) h.few, List.Pairwise.filter _ h.apart, fun x hx => h.right x (List.mem_filter.1 hx).1⟩
theorem Inv.ans {ls : List T} (h : Inv ls) (p n t l : Int) : Inv (ansL ls p n t l) := by
  unfold ansL
  split
  · exact h.gone n
  · exact h
/-- The one that is open with a number. -/
theorem Inv.only {ls : List T} (h : Inv ls) {x y : T} (hx : x ∈ ls) (hy : y ∈ ls) (e : x.2.1 = y.2.1) : x = y := by
  obtain ⟨i, hi, rfl⟩ := List.getElem_of_mem hx
  obtain ⟨j, hj, rfl⟩ := List.getElem_of_mem hy
  have hp := List.pairwise_iff_getElem.1 h.apart
  rcases Nat.lt_trichotomy i j with hlt | rfl | hlt
  · exact absurd e (hp i j hi hj hlt)
  · rfl
  · exact absurd e.symm (hp j i hj hi hlt)
theorem soB_of {ls : List T} (h : Inv ls) {x : T} (hx : x ∈ ls) (p t l : Int) : soB ls p x.2.1 t l = decide (x.1 = p ∧ x.2.2 ≤ t ∧ t - x.2.2 ≤ l) := by
  rw [Bool.eq_iff_iff]
  constructor
  · intro hs
    simp only [soB, List.any_eq_true] at hs
    obtain ⟨y, hy, hh⟩ := hs
    have hh := of_decide_eq_true hh
    have := h.only hy hx hh.1
    subst this
    exact decide_eq_true hh.2
  · intro hs
    have hs := of_decide_eq_true hs
    simp only [soB, List.any_eq_true]
    exact ⟨x, hx, decide_eq_true ⟨rfl, hs⟩⟩
theorem soB_none {ls : List T} {n : Int} (h : isIn ls n = false) (p t l : Int) : soB ls p n t l = false := by
  cases e : soB ls p n t l with
  | false => rfl
  | true =>
    simp only [soB, List.any_eq_true] at e
    obtain ⟨y, hy, hh⟩ := e
    exact absurd (of_decide_eq_true hh).1 (isIn_no h y hy)
/-- One less, if it was open. -/
theorem gone_length {ls : List T} (h : Inv ls) {x : T} (hx : x ∈ ls) : (gone ls x.2.1).length + 1 = ls.length := by
  have ap := h.apart
  clear h
  induction ls with
  | nil => simp at hx
  | cons y ys ih =>
    rw [List.pairwise_cons] at ap
    by_cases e : y.2.1 = x.2.1
    · have : gone ys x.2.1 = ys := by
        unfold gone
        rw [List.filter_eq_self]
        intro z hz
        have := ap.1 z hz
        simp; rw [← e]; exact fun e' => this e'.symm
      simp only [gone, List.filter_cons, e] at this ⊢
      simp [this]
    · have hx' : x ∈ ys := by
        rcases List.mem_cons.1 hx with rfl | hx
        · exact absurd rfl e
        · exact hx
      have := ih hx' ap.2
      simp only [gone, List.filter_cons] at this ⊢
      simp [e]
      omega
/-- What is gone is gone at its place. -/
theorem gone_at {ls : List T} (h : Inv ls) {i : Nat} (hi : i < ls.length) : gone ls (tat ls i).2.1 = ls.take i ++ ls.drop (i + 1) := by
  have hp := List.pairwise_iff_getElem.1 h.apart
  have e : ls = ls.take i ++ tat ls i :: ls.drop (i + 1) := by
    have h1 : tat ls i = ls[i] := by simp [tat, hi]
    rw [h1, List.getElem_cons_drop, List.take_append_drop]
  have h1 : gone (ls.take i) (tat ls i).2.1 = ls.take i := by
    unfold gone
    rw [List.filter_eq_self]
    intro z hz
    obtain ⟨j, hj, rfl⟩ := List.getElem_of_mem hz
    have hj2 : j < i := by simp at hj; omega
    have := hp j i (by omega) hi hj2
    have h1 : tat ls i = ls[i] := by simp [tat, hi]
    simp [h1]
    exact this
  have h2 : gone (ls.drop (i + 1)) (tat ls i).2.1 = ls.drop (i + 1) := by
    unfold gone
    rw [List.filter_eq_self]
    intro z hz
    obtain ⟨j, hj, rfl⟩ := List.getElem_of_mem hz
    simp only [List.length_drop] at hj
    have := hp i (i + 1 + j) hi (by omega) (by omega)
    have h1 : tat ls i = ls[i] := by simp [tat, hi]
    simp [h1]
    exact fun e => this e.symm
  have h3 : gone (ls.take i ++ tat ls i :: ls.drop (i + 1)) (tat ls i).2.1 = gone (ls.take i) (tat ls i).2.1 ++ gone (ls.drop (i + 1)) (tat ls i).2.1 := by
    simp [gone, List.filter_append, List.filter_cons]
  rw [← e] at h3
  rw [h3, h1, h2]
theorem ansF_no {p n t l : Int} (h : ¬ (rightB p n t = true ∧ timeB l = true)) : ansF p n t l = 1 := if_neg h
theorem ansF_yes {p n t l : Int} (h1 : rightB p n t = true) (h2 : timeB l = true) : ansF p n t l = 0 := if_pos ⟨h1, h2⟩
theorem ansB_eq {ls : List T} {p n t l : Int} (h : ansF p n t l = 0) : ansB ls p n t l = soB ls p n t l := by simp [ansB, h]
theorem ansB_no {ls : List T} {p n t l : Int} (h : ansF p n t l ≠ 0) : ansB ls p n t l = false := by simp [ansB, h]
theorem ansL_yes {ls : List T} {p n t l : Int} (h : ansB ls p n t l = true) : ansL ls p n t l = gone ls n := if_pos h
theorem ansL_no {ls : List T} {p n t l : Int} (h : ansB ls p n t l = false) : ansL ls p n t l = ls := if_neg (by rw [h]; simp)

/-- How an element of the map reads: where, and when. -/
def pairElem : Value → Option (DataW Unit × List MemPlace)
  | .agg cs => match cs.toList with
    | [.int .i64 a, .int .i64 b] => some (.agg [.lit (.int .i64 a), .lit (.int .i64 b)], [])
    | _ => none
  | _ => none
theorem pairElem_mk (a b : Int) : pairElem (.agg #[.int .i64 a, .int .i64 b]) = some (.agg [.lit (.int .i64 a), .lit (.int .i64 b)], []) := rfl
theorem pairElem_inv {v : Value} {z : DataW Unit × List MemPlace} (h : pairElem v = some z) : ∃ a b : Int, v = .agg #[.int .i64 a, .int .i64 b] ∧ z = (.agg [.lit (.int .i64 a), .lit (.int .i64 b)], []) := by
  unfold pairElem at h
  split at h
  · rename_i cs
    split at h
    · rename_i a b e
      refine ⟨a, b, ?_, (Option.some.inj h).symm⟩
      have : cs = #[.int .i64 a, .int .i64 b] := by cases cs; simp_all
      rw [this]
    · cases h
  · cases h
def zed : DataW Unit := .agg [.lit (.int .i64 0), .lit (.int .i64 0)]
/-- The map D holds just what is open, by its number. -/
structure Opn (D : DataW Unit) (ls : List T) : Prop where
  size : Maps.size D = ls.length
  has : ∀ n : Int, Maps.has D (.int .i64 n) = isIn ls n
  at_ : ∀ x ∈ ls, D.atKey (.int .i64 x.2.1) zed = .agg [.lit (.int .i64 x.1), .lit (.int .i64 x.2.2)]
theorem Opn.start : Opn (.map []) [] := ⟨rfl, fun n => by simp [Maps.has, isIn], fun x h => by simp at h⟩
theorem key_ne {m n : Int} (h : m ≠ n) : Lit.int .i64 m ≠ Lit.int .i64 n := fun e => by injection e with _ e; exact h e
theorem Opn.put {D : DataW Unit} {ls : List T} (h : Opn D ls) (hT : Maps.Tidy D) {p n t : Int} (hn : isIn ls n = false) : Opn (D.put (.int .i64 n) (.agg [.lit (.int .i64 p), .lit (.int .i64 t)])) (ls ++ [(p, n, t)]) := by
  have hk : WideAt.IsKeyLit (.int .i64 n) := by simp [WideAt.IsKeyLit]
  have h0 : Maps.has D (.int .i64 n) = false := by rw [h.has]; exact hn
  refine ⟨?_, fun m => ?_, fun x hx => ?_⟩
  · rw [Maps.size_put hT, h0, h.size]; simp
  · by_cases e : m = n
    · subst e
      rw [Maps.has_put_same hT.isMap hk]; simp [isIn]
    · rw [Maps.has_put_other (key_ne e), h.has]
      have : ¬ n = m := fun e' => e e'.symm
      simp [isIn, this]
  · rw [List.mem_append] at hx
    rcases hx with hx | hx
    · rw [Maps.atKey_put_other (key_ne (isIn_no hn x hx))]
      exact h.at_ x hx
    · have : x = (p, n, t) := by simpa using hx
      subst this
      rw [Maps.atKey_put_same hT.isMap hk]
theorem Opn.del {D : DataW Unit} {ls : List T} (h : Opn D ls) (hT : Maps.Tidy D) (hI : Inv ls) {x : T} (hx : x ∈ ls) : Opn (D.del (.int .i64 x.2.1)) (gone ls x.2.1) := by
  have h0 : Maps.has D (.int .i64 x.2.1) = true := by rw [h.has]; exact isIn_of hx rfl
  refine ⟨?_, fun m => ?_, fun y hy => ?_⟩
  · have e := Maps.size_del (k := .int .i64 x.2.1) hT
    have e2 := gone_length hI hx
    rw [h0, if_pos rfl, h.size] at e
    omega
  · by_cases e : m = x.2.1
    · subst e
      rw [Maps.has_del_same]
      refine (isIn_not fun y hy => ?_).symm
      simpa using (List.mem_filter.1 hy).2
    · rw [Maps.has_del_other (key_ne e), h.has, Bool.eq_iff_iff]
      constructor
      · intro hs
        obtain ⟨y, hy, rfl⟩ := isIn_yes hs
        exact isIn_of (x := y) (List.mem_filter.2 ⟨hy, by simpa using e⟩) rfl
      · intro hs
        obtain ⟨y, hy, rfl⟩ := isIn_yes hs
        exact isIn_of (x := y) (List.mem_filter.1 hy).1 rfl
  · have hm := List.mem_filter.1 hy
    rw [Maps.atKey_del_other (key_ne (by simpa using hm.2))]
    exact h.at_ y hm.1



theorem own_below {w w' : World} {B e size n : Nat} {v : Value} {xs : List Value} (h : w.ownsRow B e size v n xs) (hb : Below w.heap.size w w') : w'.ownsRow B e size v n xs :=
  (Off.of_below (K := fun _ => False) hb).row h (fun _ _ => id)
theorem own_mono {w : World} {B B' e size n : Nat} {v : Value} {xs : List Value} (h : w.ownsRow B e size v n xs) (hb : B' ≤ B) : w.ownsRow B' e size v n xs := by
  refine ⟨h.1, ?_⟩
  rcases h.2 with hn | ⟨g, cap, cur, rfl, hB, hr⟩
  · exact .inl hn
  · exact .inr ⟨g, cap, cur, rfl, Nat.le_trans hb hB, hr⟩
theorem map_tight {P : Program} {k : TypeId} {R : Value → Option (DataW Unit × List MemPlace)} {w : World} {b n : Nat} {D : DataW Unit} (h : w.ownsMap P k R b n D) : w.ownsMap P k R b (Maps.size D) D := by
  obtain ⟨es, clock, hb, F, hs, rfl⟩ := h
  exact ⟨es, clock, hb, F, by simp [Maps.size, length_sorted], rfl⟩
def own (sb bm : Nat) (k : Nat) : Prop := k = sb ∨ k = bm
theorem lawI : Maps.Keyed Tryd.prog 3 := Maps.int_keyed Tryd.underlying3
theorem zeroA (w : World) : (zeroValue 98).run Tryd.prog w = .ok (.agg #[.int .i64 0, .int .i64 0]) w := by kernel_rfl
/-- The block sb holds what is open: by number, in the map bm. -/
structure Obj (w : World) (B sb bm : Nat) (ls : List T) : Prop where
  inv : Inv ls
  c0 : w.cell? ⟨sb, 0, none⟩ = some (.map (some bm))
  map : ∃ D : DataW Unit, w.ownsMap Tryd.prog 3 pairElem bm ls.length D ∧ Opn D ls
  hs : B ≤ sb
  hm : B ≤ bm
  ne : bm ≠ sb
section
variable {w w' : World} {B sb bm : Nat} {ls : List T}
theorem Obj.lt (h : Obj w B sb bm ls) {k : Nat} (hk : own sb bm k) : k < w.heap.size := by
  rcases hk with rfl | rfl
  · exact World.block_lt_of_cell? w _ h.c0
  · obtain ⟨D, hD, _⟩ := h.map; exact hD.lt
theorem Obj.ge (h : Obj w B sb bm ls) {k : Nat} (hk : own sb bm k) : B ≤ k := by
  rcases hk with rfl | rfl
  · exact h.hs
  · exact h.hm
theorem Obj.off {K : Nat → Prop} (h : Obj w B sb bm ls) (ho : Off K w w') (hK : ∀ k, own sb bm k → ¬ K k) : Obj w' B sb bm ls := by
  have ks := hK sb (.inl rfl)
  have km := hK bm (.inr rfl)
  obtain ⟨D, hD, hN⟩ := h.map
  exact ⟨h.inv, ho.cell h.c0 ks, ⟨D, ho.map hD km, hN⟩, h.hs, h.hm, h.ne⟩
theorem Obj.below (h : Obj w B sb bm ls) (hb : Below w.heap.size w w') : Obj w' B sb bm ls :=
  h.off (Off.of_below (K := fun _ => False) hb) (fun _ _ => id)
theorem Obj.le (h : Obj w B sb bm ls) : B ≤ w.heap.size := by have := h.hs; have := h.lt (k := sb) (.inl rfl); omega
theorem Obj.turn {ls' : List T} {D : DataW Unit} {m : Nat} (h : Obj w B sb bm ls) (ho : Off (fun k => k = bm) w w') (hD : w'.ownsMap Tryd.prog 3 pairElem bm m D) (hN : Opn D ls') (inv : Inv ls') : Obj w' B sb bm ls' :=
  ⟨inv, ho.cell h.c0 (fun e => h.ne e.symm), ⟨D, by rw [← hN.size]; exact map_tight hD, hN⟩, h.hs, h.hm, h.ne⟩
end
/-- 'v, ok := m[k]' at an element of two integers. -/
theorem wpList_lookup_pair {P : Program} (w : World) {ops : Array Oper} {rest : List Oper} {o : Oper} {a : Act} {Q : Exit → Act → World → Prop} (hg : o.guard = none) (m x : Operand) (t : TypeId) (hop : o.op = Op.lookup t m x true)
    (k e : TypeId) (K : Maps.Keyed P k) (ht : P.underlying t = some (.map k e)) (hz : (zeroValue e).run P w = .ok (.agg #[.int .i64 0, .int .i64 0]) w) (b n : Nat) (D : DataW Unit)
    (hm : a.eval m = .map (some b)) (hown : w.ownsMap P k pairElem b n D) (key : Value) (kl : Lit) (hx : a.eval x = key) (hkey : keyOf P k key = some kl)
    (hK : ∀ c d : Int, D.atKey kl zed = .agg [.lit (.int .i64 c), .lit (.int .i64 d)] → wpList P ops Q rest (a.put o.dst (.tuple #[.agg #[.int .i64 c, .int .i64 d], .bool (Maps.has D kl)])) w) :
    wpList P ops Q (o :: rest) a w :=
  wpList_lookup_own_ok w hg m x t hop k e K ht pairElem hz zed [] (pairElem_mk 0 0) b n D hm hown key kl hx hkey (fun v ps hv => by
    obtain ⟨c, d, rfl, hc⟩ := pairElem_inv hv
    exact hK c d (congrArg Prod.fst hc))
set_option maxRecDepth 100000 in
set_option maxHeartbeats 2000000 in
theorem isPath_calls (n : Int) (w : World) : Calls Tryd.prog 58 #[.int .i64 n] w fun e w' => e = .returned (.bool (pathB n)) ∧ w' = w := by
  by_cases h1 : 0 ≤ n
  · by_cases h2 : n < 4
    · go_enter Tryd.func58, Tryd.ntmps58
      go_wp2
      go_ret
      exact ⟨by simp [pathB] <;> omega, rfl⟩
    · go_enter Tryd.func58, Tryd.ntmps58
      go_wp2
      go_ret
      exact ⟨by simp [pathB] <;> omega, rfl⟩
  · go_enter Tryd.func58, Tryd.ntmps58
    go_wp2
    go_ret
    exact ⟨by simp [pathB] <;> omega, rfl⟩

set_option maxRecDepth 100000 in
set_option maxHeartbeats 2000000 in
theorem isNumber_calls (n : Int) (w : World) : Calls Tryd.prog 59 #[.int .i64 n] w fun e w' => e = .returned (.bool (numB n)) ∧ w' = w := by
  by_cases h1 : 0 ≤ n
  · by_cases h2 : n ≤ 1073741823
    · go_enter Tryd.func59, Tryd.ntmps59
      go_wp2
      go_ret
      exact ⟨by simp [numB] <;> omega, rfl⟩
    · go_enter Tryd.func59, Tryd.ntmps59
      go_wp2
      go_ret
      exact ⟨by simp [numB] <;> omega, rfl⟩
  · go_enter Tryd.func59, Tryd.ntmps59
    go_wp2
    go_ret
    exact ⟨by simp [numB] <;> omega, rfl⟩

set_option maxRecDepth 100000 in
set_option maxHeartbeats 2000000 in
theorem isTime_calls (n : Int) (w : World) : Calls Tryd.prog 52 #[.int .i64 n] w fun e w' => e = .returned (.bool (timeB n)) ∧ w' = w := by
  by_cases h1 : 0 ≤ n
  · by_cases h2 : n ≤ 100000
    · go_enter Tryd.func52, Tryd.ntmps52
      go_wp2
      go_ret
      exact ⟨by simp [timeB] <;> omega, rfl⟩
    · go_enter Tryd.func52, Tryd.ntmps52
      go_wp2
      go_ret
      exact ⟨by simp [timeB] <;> omega, rfl⟩
  · go_enter Tryd.func52, Tryd.ntmps52
    go_wp2
    go_ret
    exact ⟨by simp [timeB] <;> omega, rfl⟩

set_option maxRecDepth 100000 in
set_option maxHeartbeats 2000000 in
theorem may_calls (n : Int) (w : World) : Calls Tryd.prog 37 #[.int .i64 n] w fun e w' => e = .returned (.bool (numB n)) ∧ w' = w := by
  by_cases h1 : 0 ≤ n
  · by_cases h2 : n ≤ 1073741823
    · go_enter Tryd.func37, Tryd.ntmps37
      go_wp2
      go_ret
      exact ⟨by simp [numB] <;> omega, rfl⟩
    · go_enter Tryd.func37, Tryd.ntmps37
      go_wp2
      go_ret
      exact ⟨by simp [numB] <;> omega, rfl⟩
  · go_enter Tryd.func37, Tryd.ntmps37
    go_wp2
    go_ret
    exact ⟨by simp [numB] <;> omega, rfl⟩

set_option maxRecDepth 100000 in
set_option maxHeartbeats 2000000 in
theorem isRight_a (p n t : Int) (w : World) (h1 : pathB p = false) : Calls Tryd.prog 49 #[.int .i64 p, .int .i64 n, .int .i64 t] w fun e w' => e = .returned (.bool false) ∧ w' = w := by
  go_enter Tryd.func49, Tryd.ntmps49
  go_wp2_with (first | (go_at_call 58; refine (isPath_calls p _).mono ?_; rintro e w1 ⟨rfl, rfl⟩; rw [h1]))
  go_ret
  exact ⟨rfl, rfl⟩

set_option maxRecDepth 100000 in
set_option maxHeartbeats 2000000 in
theorem isRight_b (p n t : Int) (w : World) (h1 : pathB p = true) (h2 : numB n = false) : Calls Tryd.prog 49 #[.int .i64 p, .int .i64 n, .int .i64 t] w fun e w' => e = .returned (.bool false) ∧ w' = w := by
  go_enter Tryd.func49, Tryd.ntmps49
  go_wp2_with (first | (go_at_call 58; refine (isPath_calls p _).mono ?_; rintro e w1 ⟨rfl, rfl⟩; rw [h1]) | (go_at_call 59; refine (isNumber_calls n _).mono ?_; rintro e w1 ⟨rfl, rfl⟩; rw [h2]))
  go_ret
  exact ⟨rfl, rfl⟩

set_option maxRecDepth 100000 in
set_option maxHeartbeats 2000000 in
theorem isRight_c (p n t : Int) (w : World) (h1 : pathB p = true) (h2 : numB n = true) (h3 : timeB t = false) : Calls Tryd.prog 49 #[.int .i64 p, .int .i64 n, .int .i64 t] w fun e w' => e = .returned (.bool false) ∧ w' = w := by
  go_enter Tryd.func49, Tryd.ntmps49
  go_wp2_with (first | (go_at_call 58; refine (isPath_calls p _).mono ?_; rintro e w1 ⟨rfl, rfl⟩; rw [h1]) | (go_at_call 59; refine (isNumber_calls n _).mono ?_; rintro e w1 ⟨rfl, rfl⟩; rw [h2]) | (go_at_call 52; refine (isTime_calls t _).mono ?_; rintro e w1 ⟨rfl, rfl⟩; rw [h3]))
  go_ret
  exact ⟨rfl, rfl⟩

set_option maxRecDepth 100000 in
set_option maxHeartbeats 2000000 in
theorem isRight_d (p n t : Int) (w : World) (h1 : pathB p = true) (h2 : numB n = true) (h3 : timeB t = true) : Calls Tryd.prog 49 #[.int .i64 p, .int .i64 n, .int .i64 t] w fun e w' => e = .returned (.bool true) ∧ w' = w := by
  go_enter Tryd.func49, Tryd.ntmps49
  go_wp2_with (first | (go_at_call 58; refine (isPath_calls p _).mono ?_; rintro e w1 ⟨rfl, rfl⟩; rw [h1]) | (go_at_call 59; refine (isNumber_calls n _).mono ?_; rintro e w1 ⟨rfl, rfl⟩; rw [h2]) | (go_at_call 52; refine (isTime_calls t _).mono ?_; rintro e w1 ⟨rfl, rfl⟩; rw [h3]))
  go_ret
  exact ⟨rfl, rfl⟩

theorem isRight_calls (p n t : Int) (w : World) : Calls Tryd.prog 49 #[.int .i64 p, .int .i64 n, .int .i64 t] w fun e w' => e = .returned (.bool (rightB p n t)) ∧ w' = w := by
  cases h1 : pathB p with
  | false => rw [show rightB p n t = false by simp [rightB, h1]]; exact isRight_a p n t w h1
  | true =>
    cases h2 : numB n with
    | false => rw [show rightB p n t = false by simp [rightB, h2]]; exact isRight_b p n t w h1 h2
    | true =>
      cases h3 : timeB t with
      | false => rw [show rightB p n t = false by simp [rightB, h3]]; exact isRight_c p n t w h1 h2 h3
      | true => rw [show rightB p n t = true by simp [rightB, h1, h2, h3]]; exact isRight_d p n t w h1 h2 h3
theorem new_obj (w : World) : Obj ((w.alloc (.map #[] 0)).alloc (.cells #[.map (some w.heap.size)] 89)) w.heap.size (w.heap.size + 1) w.heap.size [] := by
  have hm : (w.alloc (.map #[] 0)).ownsMap Tryd.prog 3 pairElem w.heap.size 0 (.map []) := World.ownsMap_made w _ _ _
  have e : (w.alloc (.map #[] 0)).heap.size = w.heap.size + 1 := by simp
  refine ⟨Inv.start, ?_, ⟨.map [], hm.alloc _, Opn.start⟩, by omega, by omega, by omega⟩
  rw [← e]; simp
set_option maxRecDepth 100000 in
set_option maxHeartbeats 2000000 in
theorem new_calls' (w : World) : Calls Tryd.prog 23 #[] w fun e w' => e = .returned (.pointer (some ⟨w.heap.size + 1, 0, none⟩)) ∧ Obj w' w.heap.size (w.heap.size + 1) w.heap.size [] ∧ Below w.heap.size w w' := by
  have hmm := @run_makeMap Tryd.prog
  go_enter Tryd.func23, Tryd.ntmps23
  go_wp2_with fail
  go_ret
  exact ⟨by simp, new_obj _, ((Below.refl _ _).alloc (Nat.le_refl _) _).alloc (by simp) _⟩
theorem new_calls (w : World) : Calls Tryd.prog 23 #[] w fun e w' => ∃ sb bm, e = .returned (.pointer (some ⟨sb, 0, none⟩)) ∧ Obj w' w.heap.size sb bm [] ∧ Below w.heap.size w w' :=
  (new_calls' w).mono fun e w' ⟨h1, h2, h3⟩ => ⟨_, _, h1, h2, h3⟩
theorem wf_num {p n t : Int} (h : rightB p n t = true) : (Lit.int .i64 n).wf = true := by
  have := right_of h
  exact WalkArith.wf_i64 (by omega)
set_option maxRecDepth 100000 in
set_option maxHeartbeats 2000000 in
theorem ask_range {w : World} {B sb bm : Nat} {ls : List T} (h : Obj w B sb bm ls) (p n t : Int) (hb : rightB p n t = false) : Calls Tryd.prog 32 #[.pointer (some ⟨sb, 0, none⟩), .int .i64 p, .int .i64 n, .int .i64 t] w fun e w' => e = .returned (.iface 72 (.int .i64 1)) ∧ Below w.heap.size w w' := by
  clear h
  go_enter Tryd.func32, Tryd.ntmps32
  go_wp2_with (go_at_call 49; refine (isRight_calls p n t _).mono ?_; rintro e w1 ⟨rfl, rfl⟩; rw [hb])
  go_ret
  exact ⟨rfl, Below.refl _ _⟩
set_option maxRecDepth 100000 in
set_option maxHeartbeats 2000000 in
theorem ask_clash {w : World} {B sb bm : Nat} {ls : List T} (h : Obj w B sb bm ls) (p n t : Int) (hb : rightB p n t = true) (hn : isIn ls n = true) : Calls Tryd.prog 32 #[.pointer (some ⟨sb, 0, none⟩), .int .i64 p, .int .i64 n, .int .i64 t] w fun e w' => e = .returned (.iface 72 (.int .i64 7)) ∧ Below w.heap.size w w' := by
  obtain ⟨inv, c0, ⟨D, hD, hN⟩, _⟩ := h
  have hh : Maps.has D (.int .i64 n) = true := by rw [hN.has]; exact hn
  have hkey := Maps.keyOf_int_mk Tryd.underlying3 (wf_num hb)
  clear hn hN inv
  go_enter Tryd.func32, Tryd.ntmps32
  go_wp2_with (first | (go_at_call 49; refine (isRight_calls p n t _).mono ?_; rintro e w1 ⟨rfl, rfl⟩; rw [hb]) | (at_lookup; refine wpList_lookup_pair _ rfl _ _ 87 rfl 3 98 lawI Tryd.underlying87 (zeroA _) bm _ D rfl hD _ _ rfl hkey ?_; intro c d hat; rw [hh]))
  go_ret
  exact ⟨rfl, by repeat (first | exact Below.refl _ _ | assumption | (refine Below.alloc ?_ (by simp <;> omega) _) | (refine Below.setCell ?_ (by simp <;> omega) _))⟩
set_option maxRecDepth 100000 in
set_option maxHeartbeats 2000000 in
theorem ask_full {w : World} {B sb bm : Nat} {ls : List T} (h : Obj w B sb bm ls) (p n t : Int) (hb : rightB p n t = true) (hn : isIn ls n = false) (hf : (8 : Int) ≤ (ls.length : Int)) : Calls Tryd.prog 32 #[.pointer (some ⟨sb, 0, none⟩), .int .i64 p, .int .i64 n, .int .i64 t] w fun e w' => e = .returned (.iface 72 (.int .i64 4)) ∧ Below w.heap.size w w' := by
  have hO := h
  obtain ⟨inv, c0, ⟨D, hD, hN⟩, _⟩ := h
  have hh : Maps.has D (.int .i64 n) = false := by rw [hN.has]; exact hn
  have hkey := Maps.keyOf_int_mk Tryd.underlying3 (wf_num hb)
  clear inv hN hn
  go_enter Tryd.func32, Tryd.ntmps32
  go_upto_region 6 with (first | (go_at_call 49; refine (isRight_calls p n t _).mono ?_; rintro e w1 ⟨rfl, rfl⟩; rw [hb]) | (at_lookup; refine wpList_lookup_pair _ rfl _ _ 87 rfl 3 98 lawI Tryd.underlying87 (zeroA _) bm _ D rfl hD _ _ rfl hkey ?_; intro c d hat; rw [hh]))
  have bel : Below w1.heap.size w1 (w1.alloc (.cells #[.int .i64 c, .int .i64 d] 98)) := (Below.refl _ _).alloc (Nat.le_refl _) _
  have hO2 := hO.below bel
  generalize w1.alloc (.cells #[.int .i64 c, .int .i64 d] 98) = W at bel hO2 ⊢
  have c2 := hO2.c0
  obtain ⟨D2, hD2, hN2⟩ := hO2.map
  clear hO hD hh hkey hat c0
  go_wp2_with (at_len; refine wpList_len_own _ rfl _ 87 rfl 3 98 Tryd.underlying87 _ bm _ D2 rfl hD2 ?_; rw [hN2.size])
  go_ret
  exact ⟨rfl, bel⟩
set_option maxRecDepth 100000 in
set_option maxHeartbeats 2000000 in
theorem ask_yes {w : World} {B sb bm : Nat} {ls : List T} (h : Obj w B sb bm ls) (p n t : Int) (hb : rightB p n t = true) (hn : isIn ls n = false) (hf : (ls.length : Int) < 8) : Calls Tryd.prog 32 #[.pointer (some ⟨sb, 0, none⟩), .int .i64 p, .int .i64 n, .int .i64 t] w fun e w' => e = .returned .nilIface ∧ Obj w' B sb bm (ls ++ [(p, n, t)]) ∧ Off (own sb bm) w w' := by
  have hO := h
  have INV : Hid (Inv (ls ++ [(p, n, t)])) := h.inv.more hb hn (by omega)
  have HN : Hid (isIn ls n = false) := hn
  obtain ⟨inv, c0, ⟨D, hD, hN⟩, _⟩ := h
  have hh : Maps.has D (.int .i64 n) = false := by rw [hN.has]; exact hn
  have hkey := Maps.keyOf_int_mk Tryd.underlying3 (wf_num hb)
  clear inv hN hn
  go_enter Tryd.func32, Tryd.ntmps32
  go_upto_region 6 with (first | (go_at_call 49; refine (isRight_calls p n t _).mono ?_; rintro e w1 ⟨rfl, rfl⟩; rw [hb]) | (at_lookup; refine wpList_lookup_pair _ rfl _ _ 87 rfl 3 98 lawI Tryd.underlying87 (zeroA _) bm _ D rfl hD _ _ rfl hkey ?_; intro c d hat; rw [hh]))
  have bel : Below w1.heap.size w1 (w1.alloc (.cells #[.int .i64 c, .int .i64 d] 98)) := (Below.refl _ _).alloc (Nat.le_refl _) _
  have hO2 := hO.below bel
  generalize w1.alloc (.cells #[.int .i64 c, .int .i64 d] 98) = W at bel hO2 ⊢
  have c2 := hO2.c0
  obtain ⟨D2, hD2, hN2⟩ := hO2.map
  clear hO hD hh hat c0
  have hfew : ls.length < maxLen := by unfold maxLen; omega
  go_wp2_with (first | (at_len; refine wpList_len_own _ rfl _ 87 rfl 3 98 Tryd.underlying87 _ bm _ D2 rfl hD2 ?_; rw [hN2.size]) | (at_mapUpdate; refine wpList_mapUpdate_in _ rfl _ _ _ 87 rfl 3 98 lawI Tryd.underlying87 pairElem bm _ D2 rfl hD2 hfew _ _ _ rfl rfl hkey _ [] (pairElem_mk p t) ?_; intro w3 hm3 ht3))
  go_ret
  have o3 : Off (fun k => k = bm) W w3 := Off.of_grown ht3.grown (fun k e => (Option.some.inj e).symm)
  exact ⟨rfl, hO2.turn o3 hm3 (hN2.put (hD2.tidy lawI) HN.out) INV.out, (Off.of_below bel).trans (o3.mono (fun k _ e => .inr e))⟩
theorem ask_calls {w : World} {B sb bm : Nat} {ls : List T} (h : Obj w B sb bm ls) (p n t : Int) : Calls Tryd.prog 32 #[.pointer (some ⟨sb, 0, none⟩), .int .i64 p, .int .i64 n, .int .i64 t] w fun e w' => e = .returned (errV (askF ls p n t)) ∧ Obj w' B sb bm (askL ls p n t) ∧ Off (own sb bm) w w' := by
  have key : ∀ f : Int, f ≠ 0 → askF ls p n t = f → (Calls Tryd.prog 32 #[.pointer (some ⟨sb, 0, none⟩), .int .i64 p, .int .i64 n, .int .i64 t] w fun e w' => e = .returned (.iface 72 (.int .i64 f)) ∧ Below w.heap.size w w') → (Calls Tryd.prog 32 #[.pointer (some ⟨sb, 0, none⟩), .int .i64 p, .int .i64 n, .int .i64 t] w fun e w' => e = .returned (errV (askF ls p n t)) ∧ Obj w' B sb bm (askL ls p n t) ∧ Off (own sb bm) w w') := fun f h0 hf hc => by
    rw [askL_no (by rw [hf]; exact h0), hf, errV_f h0]
    exact hc.mono fun e w' ⟨h1, h2⟩ => ⟨h1, h.below h2, Off.of_below h2⟩
  cases hb : rightB p n t with
  | false => exact key 1 (by decide) (askF_range hb) (ask_range h p n t hb)
  | true =>
    cases hn : isIn ls n with
    | true => exact key 7 (by decide) (askF_clash hb hn) (ask_clash h p n t hb hn)
    | false =>
      by_cases hf : ls.length < 8
      · have e := askF_yes hb hn hf
        rw [askL_yes e, e]
        exact ask_yes h p n t hb hn (by omega)
      · exact key 4 (by decide) (askF_full hb hn (by omega)) (ask_full h p n t hb hn (by omega))



/-- 'v, ok := m[k]' where it is known what stands there. -/
theorem wpList_lookup_at {P : Program} (w : World) {ops : Array Oper} {rest : List Oper} {o : Oper} {a : Act} {Q : Exit → Act → World → Prop} (hg : o.guard = none) (m x : Operand) (t : TypeId) (hop : o.op = Op.lookup t m x true)
    (k e : TypeId) (K : Maps.Keyed P k) (ht : P.underlying t = some (.map k e)) (hz : (zeroValue e).run P w = .ok (.agg #[.int .i64 0, .int .i64 0]) w) (b n : Nat) (D : DataW Unit)
    (hm : a.eval m = .map (some b)) (hown : w.ownsMap P k pairElem b n D) (key : Value) (kl : Lit) (hx : a.eval x = key) (hkey : keyOf P k key = some kl)
    {c d : Int} (hat : D.atKey kl zed = .agg [.lit (.int .i64 c), .lit (.int .i64 d)]) (hK : wpList P ops Q rest (a.put o.dst (.tuple #[.agg #[.int .i64 c, .int .i64 d], .bool (Maps.has D kl)])) w) :
    wpList P ops Q (o :: rest) a w :=
  wpList_lookup_pair w hg m x t hop k e K ht hz b n D hm hown key kl hx hkey (fun c' d' h' => by
    rw [hat] at h'
    injection h' with h'
    injection h' with h1 h2
    injection h2 with h2 _
    injection h1 with h1
    injection h2 with h2
    injection h1 with _ h1
    injection h2 with _ h2
    subst h1; subst h2
    exact hK)
set_option maxRecDepth 100000 in
set_option maxHeartbeats 2000000 in
theorem ans_range {w : World} {B sb bm : Nat} {ls : List T} (h : Obj w B sb bm ls) (p n t l : Int) (hb : rightB p n t = false) : Calls Tryd.prog 34 #[.pointer (some ⟨sb, 0, none⟩), .int .i64 p, .int .i64 n, .int .i64 t, .int .i64 l] w fun e w' => e = .returned (.tuple #[.bool false, .iface 72 (.int .i64 1)]) ∧ Below w.heap.size w w' := by
  clear h
  go_enter Tryd.func34, Tryd.ntmps34
  go_wp2_with (go_at_call 49; refine (isRight_calls p n t _).mono ?_; rintro e w1 ⟨rfl, rfl⟩; rw [hb])
  go_ret2
  exact ⟨rfl, Below.refl _ _⟩
set_option maxRecDepth 100000 in
set_option maxHeartbeats 2000000 in
theorem ans_limit {w : World} {B sb bm : Nat} {ls : List T} (h : Obj w B sb bm ls) (p n t l : Int) (hb : rightB p n t = true) (hl : timeB l = false) : Calls Tryd.prog 34 #[.pointer (some ⟨sb, 0, none⟩), .int .i64 p, .int .i64 n, .int .i64 t, .int .i64 l] w fun e w' => e = .returned (.tuple #[.bool false, .iface 72 (.int .i64 1)]) ∧ Below w.heap.size w w' := by
  clear h
  go_enter Tryd.func34, Tryd.ntmps34
  go_wp2_with (first | (go_at_call 49; refine (isRight_calls p n t _).mono ?_; rintro e w1 ⟨rfl, rfl⟩; rw [hb]) | (go_at_call 52; refine (isTime_calls l _).mono ?_; rintro e w2 ⟨rfl, rfl⟩; rw [hl]))
  go_ret2
  exact ⟨rfl, Below.refl _ _⟩
set_option maxRecDepth 100000 in
set_option maxHeartbeats 2000000 in
theorem ans_none {w : World} {B sb bm : Nat} {ls : List T} (h : Obj w B sb bm ls) (p n t l : Int) (hb : rightB p n t = true) (hl : timeB l = true) (hn : isIn ls n = false) : Calls Tryd.prog 34 #[.pointer (some ⟨sb, 0, none⟩), .int .i64 p, .int .i64 n, .int .i64 t, .int .i64 l] w fun e w' => e = .returned (.tuple #[.bool false, .nilIface]) ∧ Below w.heap.size w w' := by
  obtain ⟨inv, c0, ⟨D, hD, hN⟩, _⟩ := h
  have hh : Maps.has D (.int .i64 n) = false := by rw [hN.has]; exact hn
  have hkey := Maps.keyOf_int_mk Tryd.underlying3 (wf_num hb)
  clear inv hN hn
  go_enter Tryd.func34, Tryd.ntmps34
  go_wp2_with (first | (go_at_call 49; refine (isRight_calls p n t _).mono ?_; rintro e w1 ⟨rfl, rfl⟩; rw [hb]) | (go_at_call 52; refine (isTime_calls l _).mono ?_; rintro e w2 ⟨rfl, rfl⟩; rw [hl]) | (at_lookup; refine wpList_lookup_pair _ rfl _ _ 87 rfl 3 98 lawI Tryd.underlying87 (zeroA _) bm _ D rfl hD _ _ rfl hkey ?_; intro c d hat; rw [hh]))
  go_ret2
  exact ⟨rfl, ((Below.refl _ _).alloc (Nat.le_refl _) _)⟩

set_option maxRecDepth 100000 in
set_option maxHeartbeats 2000000 in
theorem ans_path {w : World} {B sb bm : Nat} {ls : List T} (h : Obj w B sb bm ls) (p n t l : Int) (a b : Int) (hx : (a, n, b) ∈ ls) (hb : rightB p n t = true) (hl : timeB l = true) (q : a ≠ p) : Calls Tryd.prog 34 #[.pointer (some ⟨sb, 0, none⟩), .int .i64 p, .int .i64 n, .int .i64 t, .int .i64 l] w fun e w' => e = .returned (.tuple #[.bool false, .nilIface]) ∧ Below w.heap.size w w' := by
  have hr := right_of (h.inv.right _ hx)
  have hr2 := right_of hb
  obtain ⟨inv, c0, ⟨D, hD, hN⟩, _⟩ := h
  have hh : Maps.has D (.int .i64 n) = true := by rw [hN.has]; exact isIn_of hx rfl
  have hat := hN.at_ _ hx
  have hkey := Maps.keyOf_int_mk Tryd.underlying3 (wf_num hb)
  clear inv hN hx
  go_enter Tryd.func34, Tryd.ntmps34
  go_wp2_with (first | (go_at_call 49; refine (isRight_calls p n t _).mono ?_; rintro e w1 ⟨rfl, rfl⟩; rw [hb]) | (go_at_call 52; refine (isTime_calls l _).mono ?_; rintro e w2 ⟨rfl, rfl⟩; rw [hl]) | (at_lookup; refine wpList_lookup_at _ rfl _ _ 87 rfl 3 98 lawI Tryd.underlying87 (zeroA _) bm _ D rfl hD _ _ rfl hkey hat ?_; rw [hh]))
  go_ret2
  exact ⟨rfl, ((Below.refl _ _).alloc (Nat.le_refl _) _)⟩

set_option maxRecDepth 100000 in
set_option maxHeartbeats 2000000 in
theorem ans_early {w : World} {B sb bm : Nat} {ls : List T} (h : Obj w B sb bm ls) (p n t l : Int) (b : Int) (hx : (p, n, b) ∈ ls) (hb : rightB p n t = true) (hl : timeB l = true) (q : t < b) : Calls Tryd.prog 34 #[.pointer (some ⟨sb, 0, none⟩), .int .i64 p, .int .i64 n, .int .i64 t, .int .i64 l] w fun e w' => e = .returned (.tuple #[.bool false, .nilIface]) ∧ Below w.heap.size w w' := by
  have hr := right_of (h.inv.right _ hx)
  have hr2 := right_of hb
  obtain ⟨inv, c0, ⟨D, hD, hN⟩, _⟩ := h
  have hh : Maps.has D (.int .i64 n) = true := by rw [hN.has]; exact isIn_of hx rfl
  have hat := hN.at_ _ hx
  have hkey := Maps.keyOf_int_mk Tryd.underlying3 (wf_num hb)
  clear inv hN hx
  go_enter Tryd.func34, Tryd.ntmps34
  go_wp2_with (first | (go_at_call 49; refine (isRight_calls p n t _).mono ?_; rintro e w1 ⟨rfl, rfl⟩; rw [hb]) | (go_at_call 52; refine (isTime_calls l _).mono ?_; rintro e w2 ⟨rfl, rfl⟩; rw [hl]) | (at_lookup; refine wpList_lookup_at _ rfl _ _ 87 rfl 3 98 lawI Tryd.underlying87 (zeroA _) bm _ D rfl hD _ _ rfl hkey hat ?_; rw [hh]))
  go_ret2
  exact ⟨rfl, ((Below.refl _ _).alloc (Nat.le_refl _) _)⟩

set_option maxRecDepth 100000 in
set_option maxHeartbeats 2000000 in
theorem ans_late {w : World} {B sb bm : Nat} {ls : List T} (h : Obj w B sb bm ls) (p n t l : Int) (b : Int) (hx : (p, n, b) ∈ ls) (hb : rightB p n t = true) (hl : timeB l = true) (q1 : b ≤ t) (q : l < t - b) : Calls Tryd.prog 34 #[.pointer (some ⟨sb, 0, none⟩), .int .i64 p, .int .i64 n, .int .i64 t, .int .i64 l] w fun e w' => e = .returned (.tuple #[.bool false, .nilIface]) ∧ Below w.heap.size w w' := by
  have hr := right_of (h.inv.right _ hx)
  have hr2 := right_of hb
  obtain ⟨inv, c0, ⟨D, hD, hN⟩, _⟩ := h
  have hh : Maps.has D (.int .i64 n) = true := by rw [hN.has]; exact isIn_of hx rfl
  have hat := hN.at_ _ hx
  have hkey := Maps.keyOf_int_mk Tryd.underlying3 (wf_num hb)
  clear inv hN hx
  go_enter Tryd.func34, Tryd.ntmps34
  go_wp2_with (first | (go_at_call 49; refine (isRight_calls p n t _).mono ?_; rintro e w1 ⟨rfl, rfl⟩; rw [hb]) | (go_at_call 52; refine (isTime_calls l _).mono ?_; rintro e w2 ⟨rfl, rfl⟩; rw [hl]) | (at_lookup; refine wpList_lookup_at _ rfl _ _ 87 rfl 3 98 lawI Tryd.underlying87 (zeroA _) bm _ D rfl hD _ _ rfl hkey hat ?_; rw [hh]))
  go_ret2
  exact ⟨rfl, ((Below.refl _ _).alloc (Nat.le_refl _) _)⟩

set_option maxRecDepth 100000 in
set_option maxHeartbeats 2000000 in
theorem ans_yes {w : World} {B sb bm : Nat} {ls : List T} (h : Obj w B sb bm ls) (p n t l : Int) (b : Int) (hx : (p, n, b) ∈ ls) (hb : rightB p n t = true) (hl : timeB l = true) (q1 : b ≤ t) (q : t - b ≤ l) : Calls Tryd.prog 34 #[.pointer (some ⟨sb, 0, none⟩), .int .i64 p, .int .i64 n, .int .i64 t, .int .i64 l] w fun e w' => e = .returned (.tuple #[.bool true, .nilIface]) ∧ Obj w' B sb bm (gone ls n) ∧ Off (own sb bm) w w' := by
  have hr := right_of (h.inv.right _ hx)
  have hr2 := right_of hb
  have hO := h
  have HX : Hid ((p, n, b) ∈ ls) := hx
  obtain ⟨inv, c0, ⟨D, hD, hN⟩, _⟩ := h
  have hh : Maps.has D (.int .i64 n) = true := by rw [hN.has]; exact isIn_of hx rfl
  have hat := hN.at_ _ hx
  have hkey := Maps.keyOf_int_mk Tryd.underlying3 (wf_num hb)
  clear inv hN hx
  go_enter Tryd.func34, Tryd.ntmps34
  go_upto_region 6 with (first | (go_at_call 49; refine (isRight_calls p n t _).mono ?_; rintro e w1 ⟨rfl, rfl⟩; rw [hb]) | (go_at_call 52; refine (isTime_calls l _).mono ?_; rintro e w2 ⟨rfl, rfl⟩; rw [hl]) | (at_lookup; refine wpList_lookup_at _ rfl _ _ 87 rfl 3 98 lawI Tryd.underlying87 (zeroA _) bm _ D rfl hD _ _ rfl hkey hat ?_; rw [hh]))
  have bel : Below w2.heap.size w2 (w2.alloc (.cells #[.int .i64 p, .int .i64 b] 98)) := ((Below.refl _ _).alloc (Nat.le_refl _) _)
  have hO2 := hO.below bel
  generalize w2.alloc (.cells #[.int .i64 p, .int .i64 b] 98) = W at bel hO2 ⊢
  have c2 := hO2.c0
  obtain ⟨D2, hD2, hN2⟩ := hO2.map
  clear hO hD hh hat c0
  go_wp2_with (at_delete; refine wpList_delete_own _ rfl _ _ 87 3 rfl 98 lawI Tryd.underlying87 pairElem bm _ D2 rfl hD2 _ _ rfl hkey ?_; intro w3 hm3 ht3)
  go_ret2
  have o3 : Off (fun k => k = bm) W w3 := Off.of_grown ht3.grown (fun k e => (Option.some.inj e).symm)
  exact ⟨rfl, hO2.turn o3 hm3 (hN2.del (hD2.tidy lawI) hO2.inv HX.out) (hO2.inv.gone n), (Off.of_below bel).trans (o3.mono (fun k _ e => .inr e))⟩
theorem ans_calls {w : World} {B sb bm : Nat} {ls : List T} (h : Obj w B sb bm ls) (p n t l : Int) : Calls Tryd.prog 34 #[.pointer (some ⟨sb, 0, none⟩), .int .i64 p, .int .i64 n, .int .i64 t, .int .i64 l] w fun e w' => e = .returned (.tuple #[.bool (ansB ls p n t l), errV (ansF p n t l)]) ∧ Obj w' B sb bm (ansL ls p n t l) ∧ Off (own sb bm) w w' := by
  have key : ansF p n t l = 0 → ansB ls p n t l = false → (Calls Tryd.prog 34 #[.pointer (some ⟨sb, 0, none⟩), .int .i64 p, .int .i64 n, .int .i64 t, .int .i64 l] w fun e w' => e = .returned (.tuple #[.bool false, .nilIface]) ∧ Below w.heap.size w w') → (Calls Tryd.prog 34 #[.pointer (some ⟨sb, 0, none⟩), .int .i64 p, .int .i64 n, .int .i64 t, .int .i64 l] w fun e w' => e = .returned (.tuple #[.bool (ansB ls p n t l), errV (ansF p n t l)]) ∧ Obj w' B sb bm (ansL ls p n t l) ∧ Off (own sb bm) w w') := fun h0 h1 hc => by
    rw [ansL_no h1, h1, h0, errV_0]
    exact hc.mono fun e w' ⟨h1, h2⟩ => ⟨h1, h.below h2, Off.of_below h2⟩
  have key1 : ¬ (rightB p n t = true ∧ timeB l = true) → (Calls Tryd.prog 34 #[.pointer (some ⟨sb, 0, none⟩), .int .i64 p, .int .i64 n, .int .i64 t, .int .i64 l] w fun e w' => e = .returned (.tuple #[.bool false, .iface 72 (.int .i64 1)]) ∧ Below w.heap.size w w') → (Calls Tryd.prog 34 #[.pointer (some ⟨sb, 0, none⟩), .int .i64 p, .int .i64 n, .int .i64 t, .int .i64 l] w fun e w' => e = .returned (.tuple #[.bool (ansB ls p n t l), errV (ansF p n t l)]) ∧ Obj w' B sb bm (ansL ls p n t l) ∧ Off (own sb bm) w w') := fun h0 hc => by
    have h1 := ansF_no h0
    have h2 := ansB_no (ls := ls) (show ansF p n t l ≠ 0 by rw [h1]; decide)
    rw [ansL_no h2, h2, h1, errV_f (by decide)]
    exact hc.mono fun e w' ⟨h1, h2⟩ => ⟨h1, h.below h2, Off.of_below h2⟩
  cases hb : rightB p n t with
  | false => exact key1 (fun e => by rw [hb] at e; cases e.1) (ans_range h p n t l hb)
  | true =>
    cases hl : timeB l with
    | false => exact key1 (fun e => by rw [hl] at e; cases e.2) (ans_limit h p n t l hb hl)
    | true =>
      have h0 := ansF_yes hb hl
      have h1 := ansB_eq (ls := ls) h0
      cases hn : isIn ls n with
      | false => exact key h0 (by rw [h1]; exact soB_none hn _ _ _) (ans_none h p n t l hb hl hn)
      | true =>
        obtain ⟨⟨a, m, b⟩, hx, hm⟩ := isIn_yes hn
        have hm : m = n := hm
        subst hm
        have h2 : soB ls p m t l = decide (a = p ∧ b ≤ t ∧ t - b ≤ l) := soB_of h.inv hx p t l
        by_cases e1 : a = p
        · subst e1
          by_cases e2 : t < b
          · exact key h0 (by rw [h1, h2]; exact decide_eq_false (fun e => by omega)) (ans_early h a m t l b hx hb hl e2)
          · by_cases e3 : t - b ≤ l
            · have h3 : ansB ls a m t l = true := by rw [h1, h2]; exact decide_eq_true ⟨rfl, by omega, e3⟩
              rw [ansL_yes h3, h3, h0, errV_0]
              exact ans_yes h a m t l b hx hb hl (by omega) e3
            · exact key h0 (by rw [h1, h2]; exact decide_eq_false (fun e => e3 e.2.2)) (ans_late h a m t l b hx hb hl (by omega) (by omega))
        · exact key h0 (by rw [h1, h2]; exact decide_eq_false (fun e => e1 e.1)) (ans_path h p m t l a b hx hb hl e1)
end Go.Proofs.YtpnblfabdioanaaDoor.Ox
