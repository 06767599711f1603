/- What is open, as a list of where, which and when: what is asked, and told back. -/
import Derived.Maps.OwnSet
namespace Go.Proofs.YtkfhfljoalbkkaaDoor
set_option linter.unusedVariables false
set_option linter.unusedSimpArgs false

abbrev T := Int × Int × Int
def tat (zs : List T) (j : Nat) : T := zs[j]?.getD (0, 0, 0)
theorem tat_get {zs : List T} {j : Nat} (h : j < zs.length) : zs[j]? = some (tat zs j) := by simp [tat, h]
theorem tat_mem {zs : List T} {j : Nat} (h : j < zs.length) : tat zs j ∈ zs := List.mem_of_getElem? (tat_get h)
theorem mem_tat {zs : List T} {x : T} (h : x ∈ zs) : ∃ j, j < zs.length ∧ tat zs j = x := by
  obtain ⟨j, hj, e⟩ := List.getElem_of_mem h
  exact ⟨j, hj, by simp [tat, hj, e]⟩
def pathB (n : Int) : Bool := decide (0 ≤ n ∧ n ≤ 3)
def numB (n : Int) : Bool := decide (0 ≤ n ∧ n ≤ 1073741823)
def timeB (n : Int) : Bool := decide (0 ≤ n ∧ n ≤ 100000)
def rightB (p n t : Int) : Bool := pathB p && numB n && timeB t
theorem right_of {p n t : Int} (h : rightB p n t = true) : (0 ≤ p ∧ p ≤ 3) ∧ (0 ≤ n ∧ n ≤ 1073741823) ∧ 0 ≤ t ∧ t ≤ 100000 := by
  simp [rightB, pathB, numB, timeB] at h
  omega
theorem right_mk {p n t : Int} (h1 : 0 ≤ p ∧ p ≤ 3) (h2 : 0 ≤ n ∧ n ≤ 1073741823) (h3 : 0 ≤ t ∧ t ≤ 100000) : rightB p n t = true := by
  simp [rightB, pathB, numB, timeB]
  omega
/-- Whether a number is open. -/
def isIn (ls : List T) (n : Int) : Bool := ls.any fun x => decide (x.2.1 = n)
theorem isIn_yes {ls : List T} {n : Int} (h : isIn ls n = true) : ∃ x ∈ ls, x.2.1 = n := by simpa [isIn] using h
theorem isIn_no {ls : List T} {n : Int} (h : isIn ls n = false) : ∀ x ∈ ls, x.2.1 ≠ n := by
  intro x hx e
  have : isIn ls n = true := by simp only [isIn, List.any_eq_true]; exact ⟨x, hx, by simp [e]⟩
  rw [h] at this; cases this
theorem isIn_of {ls : List T} {n : Int} {x : T} (h : x ∈ ls) (e : x.2.1 = n) : isIn ls n = true := by
  simp only [isIn, List.any_eq_true]; exact ⟨x, h, by simp [e]⟩
theorem isIn_not {ls : List T} {n : Int} (h : ∀ x ∈ ls, x.2.1 ≠ n) : isIn ls n = false := by
  cases e : isIn ls n with
  | false => rfl
  | true => obtain ⟨x, hx, e'⟩ := isIn_yes e; exact absurd e' (h x hx)
def askF (ls : List T) (p n t : Int) : Int := if rightB p n t = false then 1 else if isIn ls n = true then 7 else if 8 ≤ ls.length then 4 else 0
def askL (ls : List T) (p n t : Int) : List T := if askF ls p n t = 0 then ls ++ [(p, n, t)] else ls
theorem askF_range {ls : List T} {p n t : Int} (h : rightB p n t = false) : askF ls p n t = 1 := by simp [askF, h]
theorem askF_clash {ls : List T} {p n t : Int} (h : rightB p n t = true) (h2 : isIn ls n = true) : askF ls p n t = 7 := by simp [askF, h, h2]
theorem askF_full {ls : List T} {p n t : Int} (h : rightB p n t = true) (h2 : isIn ls n = false) (h3 : 8 ≤ ls.length) : askF ls p n t = 4 := by simp [askF, h, h2, h3]
theorem askF_yes {ls : List T} {p n t : Int} (h : rightB p n t = true) (h2 : isIn ls n = false) (h3 : ls.length < 8) : askF ls p n t = 0 := by
  have : ¬ 8 ≤ ls.length := by omega
  simp [askF, h, h2, this]
theorem askL_yes {ls : List T} {p n t : Int} (h : askF ls p n t = 0) : askL ls p n t = ls ++ [(p, n, t)] := if_pos h
theorem askL_no {ls : List T} {p n t : Int} (h : askF ls p n t ≠ 0) : askL ls p n t = ls := if_neg h
/-- Whether one that is open is told back so. -/
def hit (x : T) (p n t l : Int) : Bool := decide (x.2.1 = n ∧ x.1 = p ∧ x.2.2 ≤ t ∧ t - x.2.2 ≤ l)
def ansF (p n t l : Int) : Int := if rightB p n t = true ∧ timeB l = true then 0 else 1
def soB (ls : List T) (p n t l : Int) : Bool := ls.any fun x => hit x p n t l
def ansB (ls : List T) (p n t l : Int) : Bool := decide (ansF p n t l = 0) && soB ls p n t l
def gone (ls : List T) (n : Int) : List T := ls.filter fun x => !decide (x.2.1 = n)
def ansL (ls : List T) (p n t l : Int) : List T := if ansB ls p n t l = true then gone ls n else ls
structure Inv (ls : List T) : Prop where
  few : ls.length ≤ 8
  apart : ls.Pairwise fun a b => a.2.1 ≠ b.2.1
  right : ∀ x ∈ ls, rightB x.1 x.2.1 x.2.2 = true
theorem Inv.start : Inv [] := ⟨by simp, List.Pairwise.nil, fun x h => by simp at h⟩
theorem Inv.more {ls : List T} (h : Inv ls) {p n t : Int} (h1 : rightB p n t = true) (h2 : isIn ls n = false) (h3 : ls.length < 8) : Inv (ls ++ [(p, n, t)]) := by
  refine ⟨by simp; omega, ?_, fun x hx => ?_⟩
  · rw [List.pairwise_append]
    refine ⟨h.apart, by simp, ?_⟩
    intro a ha b hb
    have : b = (p, n, t) := by simpa using hb
    subst this
    exact isIn_no h2 a ha
  · rw [List.mem_append] at hx
    rcases hx with hx | hx
    · exact h.right x hx
    · have : x = (p, n, t) := by simpa using hx
      subst this
      exact h1
theorem Inv.ask {ls : List T} (h : Inv ls) (p n t : Int) : Inv (askL ls p n t) := by
  by_cases e : askF ls p n t = 0
  · rw [askL_yes e]
    unfold askF at e
    split at e
    · cases e
    · split at e
      · cases e
      · split at e
        · cases e
        · rename_i h1 h2 h3
          exact h.more (by simpa using h1) (by simpa using h2) (by omega)
  · rw [askL_no e]; exact h
theorem gone_le (ls : List T) (n : Int) : (gone ls n).length ≤ ls.length := List.length_filter_le _ _
theorem Inv.gone {ls : List T} (h : Inv ls) (n : Int) : Inv (gone ls n) :=
  ⟨Nat.le_trans (gone_le ls n) h.few, List.Pairwise.filter _ h.apart, fun x hx => h.right x (List.mem_filter.1 hx).1⟩
theorem Inv.ans {ls : List T} (h : Inv ls) (p n t l : Int) : Inv (ansL ls p n t l) := by
  unfold ansL
  split
  · exact h.gone n
  · exact h
/-- The one that is open with a number. -/
theorem Inv.only {ls : List T} (h : Inv ls) {x y : T} (hx : x ∈ ls) (hy : y ∈ ls) (e : x.2.1 = y.2.1) : x = y := by
  obtain ⟨i, hi, rfl⟩ := List.getElem_of_mem hx
  obtain ⟨j, hj, rfl⟩ := List.getElem_of_mem hy
  have hp := List.pairwise_iff_getElem.1 h.apart
  rcases Nat.lt_trichotomy i j with hlt | rfl | hlt
  · exact absurd e (hp i j hi hj hlt)
  · rfl
  · exact absurd e.symm (hp j i hj hi hlt)
theorem soB_of {ls : List T} (h : Inv ls) {x : T} (hx : x ∈ ls) (p t l : Int) : soB ls p x.2.1 t l = decide (x.1 = p ∧ x.2.2 ≤ t ∧ t - x.2.2 ≤ l) := by
  rw [Bool.eq_iff_iff]
  constructor
  · intro hs
    simp only [soB, List.any_eq_true] at hs
    obtain ⟨y, hy, hh⟩ := hs
    have hh := of_decide_eq_true hh
    have := h.only hy hx hh.1
    subst this
    exact decide_eq_true hh.2
  · intro hs
    have hs := of_decide_eq_true hs
    simp only [soB, List.any_eq_true]
    exact ⟨x, hx, decide_eq_true ⟨rfl, hs⟩⟩
theorem soB_none {ls : List T} {n : Int} (h : isIn ls n = false) (p t l : Int) : soB ls p n t l = false := by
  cases e : soB ls p n t l with
  | false => rfl
  | true =>
    simp only [soB, List.any_eq_true] at e
    obtain ⟨y, hy, hh⟩ := e
    exact absurd (of_decide_eq_true hh).1 (isIn_no h y hy)
/-- One less, if it was open. -/
theorem gone_length {ls : List T} (h : Inv ls) {x : T} (hx : x ∈ ls) : (gone ls x.2.1).length + 1 = ls.length := by
  have ap := h.apart
  clear h
  induction ls with
  | nil => simp at hx
  | cons y ys ih =>
    rw [List.pairwise_cons] at ap
    by_cases e : y.2.1 = x.2.1
    · have : gone ys x.2.1 = ys := by
        unfold gone
        rw [List.filter_eq_self]
        intro z hz
        have := ap.1 z hz
        simp; rw [← e]; exact fun e' => this e'.symm
      simp only [gone, List.filter_cons, e] at this ⊢
      simp [this]
    · have hx' : x ∈ ys := by
        rcases List.mem_cons.1 hx with rfl | hx
        · exact absurd rfl e
        · exact hx
      have := ih hx' ap.2
      simp only [gone, List.filter_cons] at this ⊢
      simp [e]
      omega
/-- What is gone is gone at its place. -/
theorem gone_at {ls : List T} (h : Inv ls) {i : Nat} (hi : i < ls.length) : gone ls (tat ls i).2.1 = ls.take i ++ ls.drop (i + 1) := by
  have hp := List.pairwise_iff_getElem.1 h.apart
  have e : ls = ls.take i ++ tat ls i :: ls.drop (i + 1) := by
    have h1 : tat ls i = ls[i] := by simp [tat, hi]
    rw [h1, List.getElem_cons_drop, List.take_append_drop]
  have h1 : gone (ls.take i) (tat ls i).2.1 = ls.take i := by
    unfold gone
    rw [List.filter_eq_self]
    intro z hz
    obtain ⟨j, hj, rfl⟩ := List.getElem_of_mem hz
    have hj2 : j < i := by simp at hj; omega
    have := hp j i (by omega) hi hj2
    have h1 : tat ls i = ls[i] := by simp [tat, hi]
    simp [h1]
    exact this
  have h2 : gone (ls.drop (i + 1)) (tat ls i).2.1 = ls.drop (i + 1) := by
    unfold gone
    rw [List.filter_eq_self]
    intro z hz
    obtain ⟨j, hj, rfl⟩ := List.getElem_of_mem hz
    simp only [List.length_drop] at hj
    have := hp i (i + 1 + j) hi (by omega) (by omega)
    have h1 : tat ls i = ls[i] := by simp [tat, hi]
    simp [h1]
    exact fun e => this e.symm
  have h3 : gone (ls.take i ++ tat ls i :: ls.drop (i + 1)) (tat ls i).2.1 = gone (ls.take i) (tat ls i).2.1 ++ gone (ls.drop (i + 1)) (tat ls i).2.1 := by
    simp [gone, List.filter_append, List.filter_cons]
  rw [← e] at h3
  rw [h3, h1, h2]
theorem ansF_no {p n t l : Int} (h : ¬ (rightB p n t = true ∧ timeB l = true)) : ansF p n t l = 1 := if_neg h
theorem ansF_yes {p n t l : Int} (h1 : rightB p n t = true) (h2 : timeB l = true) : ansF p n t l = 0 := if_pos ⟨h1, h2⟩
theorem ansB_eq {ls : List T} {p n t l : Int} (h : ansF p n t l = 0) : ansB ls p n t l = soB ls p n t l := by simp [ansB, h]
theorem ansB_no {ls : List T} {p n t l : Int} (h : ansF p n t l ≠ 0) : ansB ls p n t l = false := by simp [ansB, h]
theorem ansL_yes {ls : List T} {p n t l : Int} (h : ansB ls p n t l = true) : ansL ls p n t l = gone ls n := if_pos h
theorem ansL_no {ls : List T} {p n t l : Int} (h : ansB ls p n t l = false) : ansL ls p n t l = ls := if_neg (by rw [h]; simp)

/-- How an element of the map reads: where, and when. -/
def pairElem : Value → Option (DataW Unit × List MemPlace)
  | .agg cs => match cs.toList with
    | [.int .i64 a, .int .i64 b] => some (.agg [.lit (.int .i64 a), .lit (.int .i64 b)], [])
    | _ => none
  | _ => none
theorem pairElem_mk (a b : Int) : pairElem (.agg #[.int .i64 a, .int .i64 b]) = some (.agg [.lit (.int .i64 a), .lit (.int .i64 b)], []) := rfl
theorem pairElem_inv {v : Value} {z : DataW Unit × List MemPlace} (h : pairElem v = some z) : ∃ a b : Int, v = .agg #[.int .i64 a, .int .i64 b] ∧ z = (.agg [.lit (.int .i64 a), .lit (.int .i64 b)], []) := by
  unfold pairElem at h
  split at h
  · rename_i cs
    split at h
    · rename_i a b e
      refine ⟨a, b, ?_, (Option.some.inj h).symm⟩
      have : cs = #[.int .i64 a, .int .i64 b] := by cases cs; simp_all
      rw [this]
    · cases h
  · cases h
def zed : DataW Unit := .agg [.lit (.int .i64 0), .lit (.int .i64 0)]
/-- The map D holds just what is open, by its number. -/
structure Opn (D : DataW Unit) (ls : List T) : Prop where
  size : Maps.size D = ls.length
  has : ∀ n : Int, Maps.has D (.int .i64 n) = isIn ls n
  at_ : ∀ x ∈ ls, D.atKey (.int .i64 x.2.1) zed = .agg [.lit (.int .i64 x.1), .lit (.int .i64 x.2.2)]
theorem Opn.start : Opn (.map []) [] := ⟨rfl, fun n => by simp [Maps.has, isIn], fun x h => by simp at h⟩
theorem key_ne {m n : Int} (h : m ≠ n) : Lit.int .i64 m ≠ Lit.int .i64 n := fun e => by injection e with _ e; exact h e
theorem Opn.put {D : DataW Unit} {ls : List T} (h : Opn D ls) (hT : Maps.Tidy D) {p n t : Int} (hn : isIn ls n = false) : Opn (D.put (.int .i64 n) (.agg [.lit (.int .i64 p), .lit (.int .i64 t)])) (ls ++ [(p, n, t)]) := by
  have hk : WideAt.IsKeyLit (.int .i64 n) := by simp [WideAt.IsKeyLit]
  have h0 : Maps.has D (.int .i64 n) = false := by rw [h.has]; exact hn
  refine ⟨?_, fun m => ?_, fun x hx => ?_⟩
  · rw [Maps.size_put hT, h0, h.size]; simp
  · by_cases e : m = n
    · subst e
      rw [Maps.has_put_same hT.isMap hk]; simp [isIn]
    · rw [Maps.has_put_other (key_ne e), h.has]
      have : ¬ n = m := fun e' => e e'.symm
      simp [isIn, this]
  · rw [List.mem_append] at hx
    rcases hx with hx | hx
    · rw [Maps.atKey_put_other (key_ne (isIn_no hn x hx))]
      exact h.at_ x hx
    · have : x = (p, n, t) := by simpa using hx
      subst this
      rw [Maps.atKey_put_same hT.isMap hk]
theorem Opn.del {D : DataW Unit} {ls : List T} (h : Opn D ls) (hT : Maps.Tidy D) (hI : Inv ls) {x : T} (hx : x ∈ ls) : Opn (D.del (.int .i64 x.2.1)) (gone ls x.2.1) := by
  have h0 : Maps.has D (.int .i64 x.2.1) = true := by rw [h.has]; exact isIn_of hx rfl
  refine ⟨?_, fun m => ?_, fun y hy => ?_⟩
  · have e := Maps.size_del (k := .int .i64 x.2.1) hT
    have e2 := gone_length hI hx
    rw [h0, if_pos rfl, h.size] at e
    omega
  · by_cases e : m = x.2.1
    · subst e
      rw [Maps.has_del_same]
      refine (isIn_not fun y hy => ?_).symm
      simpa using (List.mem_filter.1 hy).2
    · rw [Maps.has_del_other (key_ne e), h.has, Bool.eq_iff_iff]
      constructor
      · intro hs
        obtain ⟨y, hy, rfl⟩ := isIn_yes hs
        exact isIn_of (x := y) (List.mem_filter.2 ⟨hy, by simpa using e⟩) rfl
      · intro hs
        obtain ⟨y, hy, rfl⟩ := isIn_yes hs
        exact isIn_of (x := y) (List.mem_filter.1 hy).1 rfl
  · have hm := List.mem_filter.1 hy
    rw [Maps.atKey_del_other (key_ne (by simpa using hm.2))]
    exact h.at_ y hm.1
end Go.Proofs.YtkfhfljoalbkkaaDoor
