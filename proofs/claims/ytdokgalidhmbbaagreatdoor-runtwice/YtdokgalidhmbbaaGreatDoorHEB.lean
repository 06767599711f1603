/- What the laws of package run need. -/
import Derived.Test.YtdokgalidhmbbaaGreatDoorHEA
import Derived.Deep.MidRow
set_option linter.unusedVariables false
set_option linter.unusedSimpArgs false
set_option maxRecDepth 100000
set_option maxHeartbeats 8000000
namespace Go.Proofs.YtdokgalidhmbbaaGreatDoor
open Go.RowKit Go.Lib Go.Sort


open Sx (bat)
theorem Off.row {K : Nat → Prop} {w w' : World} (h : Off K w w') {B e size n : Nat} {v : Value} {xs : List Value} (ho : w.ownsRow B e size v n xs) (hn : ∀ k, v.ownBlock = some k → ¬ K k) : w'.ownsRow B e size v n xs := by
  refine ⟨ho.1, ?_⟩
  rcases ho.2 with h0 | ⟨g, cap, cur, rfl, hB, hgg, hr⟩
  · exact .inl h0
  · exact .inr ⟨g, cap, cur, rfl, hB, (h.block g (Array.getElem?_eq_some_iff.1 hgg).1 (hn g rfl)).trans hgg, hr⟩

def row (n : Nat) (f : Nat → Value) : List Value := (List.range n).map f
theorem row_length (n : Nat) (f : Nat → Value) : (row n f).length = n := by simp [row]
theorem row_get {n : Nat} {f : Nat → Value} {i : Nat} (h : i < n) : (row n f)[i]? = some (f i) := by simp [row, h]
theorem row_out {n : Nat} {f : Nat → Value} {i : Nat} {v : Value} (h : (row n f)[i]? = some v) : i < n ∧ v = f i := by
  have hi : i < n := by
    have := (List.getElem?_eq_some_iff.1 h).1
    rwa [row_length] at this
  rw [row_get hi] at h
  exact ⟨hi, (Option.some.inj h).symm⟩
theorem row_one {n : Nat} {f : Nat → Value} (h : ∀ i, i < n → (f i).oneCell' = true) : (row n f).toArray.all (·.oneCell') = true :=
  all_oneCell_toArray fun v hv => by
    obtain ⟨i, hi, rfl⟩ := List.mem_map.1 hv
    exact h i (by simpa using hi)
def scell (s : Sx.St) (i : Nat) : Value := if i < 60 then .int .u8 (s.byt i) else if i < 120 then .bool (s.cm (i - 60)) else .int .i64 s.tk
def ccell (c : Cx.St) (i : Nat) : Value := if i = 0 then .int .i64 c.win else if i = 1 then .int .i64 c.lim else if i = 2 then .int .i64 c.came else .int .i64 c.read
/-- The cells of an End. -/
def ecell (e : En) (vl vc : Value) (i : Nat) : Value :=
  if i < 60 then .int .u8 (bat e.d i) else if i = 60 then .int .i64 e.d.size else if i < 121 then .bool (decide (i - 61 < e.t)) else if i = 121 then .int .i64 e.l else if i = 122 then .int .i64 e.m
  else if i = 123 then .int .i64 e.k else if i = 124 then vl else if i < 246 then scell e.s (i - 125) else if i < 250 then ccell e.c (i - 246) else vc
section
variable {e : En} {vl vc : Value}
theorem ecell_out {i : Nat} (h : i < 60) : ecell e vl vc i = .int .u8 (bat e.d i) := if_pos h
theorem ecell_wr : ecell e vl vc 60 = .int .i64 e.d.size := rfl
theorem ecell_told {i : Nat} (h : i < 60) : ecell e vl vc (61 + i) = .bool (decide (i < e.t)) := by
  unfold ecell
  rw [if_neg (by omega), if_neg (by omega), if_pos (by omega), show 61 + i - 61 = i by omega]
theorem ecell_let : ecell e vl vc 121 = .int .i64 e.l := rfl
theorem ecell_made : ecell e vl vc 122 = .int .i64 e.m := rfl
theorem ecell_known : ecell e vl vc 123 = .int .i64 e.k := rfl
theorem ecell_loads : ecell e vl vc 124 = vl := rfl
theorem ecell_in {i : Nat} (h : i < 121) : ecell e vl vc (125 + i) = scell e.s i := by
  unfold ecell
  rw [if_neg (by omega), if_neg (by omega), if_neg (by omega), if_neg (by omega), if_neg (by omega), if_neg (by omega), if_neg (by omega), if_pos (by omega), show 125 + i - 125 = i by omega]
theorem ecell_room {i : Nat} (h : i < 4) : ecell e vl vc (246 + i) = ccell e.c i := by
  unfold ecell
  rw [if_neg (by omega), if_neg (by omega), if_neg (by omega), if_neg (by omega), if_neg (by omega), if_neg (by omega), if_neg (by omega), if_neg (by omega), if_pos (by omega), show 246 + i - 246 = i by omega]
theorem ecell_came : ecell e vl vc 250 = vc := rfl
end
theorem scell_b {s : Sx.St} {i : Nat} (h : i < 60) : scell s i = .int .u8 (s.byt i) := if_pos h
theorem scell_c {s : Sx.St} {i : Nat} (h : i < 60) : scell s (60 + i) = .bool (s.cm i) := by
  unfold scell
  rw [if_neg (by omega), if_pos (by omega), show 60 + i - 60 = i by omega]
theorem scell_t {s : Sx.St} : scell s 120 = .int .i64 s.tk := rfl
theorem scell_one (s : Sx.St) (i : Nat) : (scell s i).oneCell' = true := by
  unfold scell
  split
  · rfl
  · split <;> rfl
theorem ccell_one (c : Cx.St) (i : Nat) : (ccell c i).oneCell' = true := by
  unfold ccell
  split
  · rfl
  · split
    · rfl
    · split <;> rfl
theorem ecell_one {e : En} {vl vc : Value} (h1 : vl.oneCell' = true) (h2 : vc.oneCell' = true) (i : Nat) : (ecell e vl vc i).oneCell' = true := by
  unfold ecell
  split
  · rfl
  split
  · rfl
  split
  · rfl
  split
  · rfl
  split
  · rfl
  split
  · rfl
  split
  · exact h1
  split
  · exact scell_one _ _
  split
  · exact ccell_one _ _
  · exact h2
/-- One load: the numbers of its packets, and which bytes they had. -/
def lds1 (x : Ld) : List Value := .int .i64 x.lo :: .int .i64 x.hi :: row 60 (fun i => .bool (decide (x.a ≤ i ∧ i < x.b)))
theorem lds1_length (x : Ld) : (lds1 x).length = 62 := by simp [lds1, row_length]
def lds (ls : List Ld) : List Value := ls.flatMap lds1
theorem lds_length : ∀ ls : List Ld, (lds ls).length = ls.length * 62
  | [] => rfl
  | x :: ls => by
    show (lds1 x ++ lds ls).length = _
    rw [List.length_append, lds1_length, lds_length ls, List.length_cons]
    omega
theorem lds_append (a b : List Ld) : lds (a ++ b) = lds a ++ lds b := by simp [lds]
theorem lds_at : ∀ (ls : List Ld) (j i : Nat) (hj : j < ls.length), i < 62 → (lds ls)[j * 62 + i]? = (lds1 ls[j])[i]?
  | [], j, i, h, _ => by simp at h
  | x :: ls, 0, i, _, hi => by
    show (lds1 x ++ lds ls)[0 * 62 + i]? = _
    rw [List.getElem?_append_left (by rw [lds1_length]; omega)]
    simp
  | x :: ls, j + 1, i, hj, hi => by
    show (lds1 x ++ lds ls)[(j + 1) * 62 + i]? = _
    rw [List.getElem?_append_right (by rw [lds1_length]; omega), lds1_length, show (j + 1) * 62 + i - 62 = j * 62 + i by omega, lds_at ls j i (by simpa using hj) hi]
    rfl
/-- The blocks of an End. -/
def OwnE (eb : Nat) (vl vc : Value) (k : Nat) : Prop := k = eb ∨ vl.ownBlock = some k ∨ vc.ownBlock = some k
/-- An End in the block eb, its loads in vl, what came in vc; none of them below the block B. -/
structure EO (w : World) (B eb : Nat) (vl vc : Value) (e : En) : Prop where
  inv : EInv e
  cl : ∀ i, i < 251 → w.cell? ⟨eb, i, none⟩ = some (ecell e vl vc i)
  fz : ∀ i, w.frozen? ⟨eb, i, none⟩ = false
  hs : B ≤ eb
  ld : w.ownsRow B 241 62 vl e.ls.length (lds e.ls)
  cm : w.ownsRow B 143 2 vc e.cm.length (flat e.cm)
  ap : vl.ownBlock ≠ some eb ∧ vc.ownBlock ≠ some eb
section
variable {w w' : World} {B eb : Nat} {vl vc : Value} {e : En}
theorem EO.lt (h : EO w B eb vl vc e) : eb < w.heap.size := World.block_lt_of_cell? w _ (h.cl 60 (by omega))
theorem EO.own_lt (h : EO w B eb vl vc e) {k : Nat} (hk : OwnE eb vl vc k) : B ≤ k ∧ k < w.heap.size := by
  rcases hk with rfl | hk | hk
  · exact ⟨h.hs, h.lt⟩
  · exact h.ld.lt k hk
  · exact h.cm.lt k hk
theorem EO.off {K : Nat → Prop} (h : EO w B eb vl vc e) (ho : Off K w w') (hK : ∀ k, OwnE eb vl vc k → ¬ K k) : EO w' B eb vl vc e :=
  ⟨h.inv, fun i hi => ho.cell (h.cl i hi) (hK eb (.inl rfl)), fun i => (ho.frozen (p := ⟨eb, i, none⟩) h.lt (hK eb (.inl rfl))).trans (h.fz i), h.hs,
    ho.row h.ld fun k hk => hK k (.inr (.inl hk)), ho.row h.cm fun k hk => hK k (.inr (.inr hk)), h.ap⟩
theorem EO.below (h : EO w B eb vl vc e) (hb : Below w.heap.size w w') : EO w' B eb vl vc e := h.off (Off.of_below (K := fun _ => False) hb) fun _ _ => id
theorem EO.told (h : EO w B eb vl vc e) (i : Nat) (hi : i < 60) : w.cell? ⟨eb, 61 + i, none⟩ = some (.bool (decide (i < e.t))) := by rw [h.cl _ (by omega), ecell_told hi]
theorem EO.sy (h : EO w B eb vl vc e) : Sy.Obj w eb e.s :=
  ⟨h.inv.s, fun i hi => by rw [h.cl _ (by omega), ecell_in (by omega), scell_b hi], fun i hi => by rw [h.cl _ (by omega), show 185 + i = 125 + (60 + i) by omega, ecell_in (by omega), scell_c hi], h.cl 245 (by omega), fun i _ => h.fz _, fun i _ => h.fz _⟩
theorem EO.cy (h : EO w B eb vl vc e) : Cy.Obj w eb e.c :=
  ⟨h.inv.c, h.cl 246 (by omega), h.cl 247 (by omega), h.cl 248 (by omega), h.cl 249 (by omega), h.fz _⟩
theorem EO.ones (h : EO w B eb vl vc e) : vl.oneCell' = true ∧ vc.oneCell' = true := by
  constructor
  · rcases h.ld.2 with ⟨e, _⟩ | ⟨g, cap, cur, e, _⟩ <;> rw [e] <;> rfl
  · rcases h.cm.2 with ⟨e, _⟩ | ⟨g, cap, cur, e, _⟩ <;> rw [e] <;> rfl
end
/-- What a call leaves of an End, and all else. -/
def Turn (w w' : World) (B eb : Nat) (vl vc : Value) (e : En) : Prop :=
  ∃ vl' vc', EO w' B eb vl' vc' e ∧ Off (OwnE eb vl vc) w w' ∧ ∀ k, OwnE eb vl' vc' k → OwnE eb vl vc k ∨ w.heap.size ≤ k
theorem EO.new {n : Int} (hn : Cx.winB n = true) (w : World) {B : Nat} (hB : B ≤ w.heap.size) : EO (w.alloc (.cells (row 251 (ecell (newE n) (.slice none 0 0) (.slice none 0 0))).toArray 104)) B w.heap.size (.slice none 0 0) (.slice none 0 0) (newE n) :=
  ⟨EInv.new hn, fun i hi => by simp [row, hi], fun i => by simp, hB, World.ownsRow_nil _ _ _ _, World.ownsRow_nil _ _ _ _, by simp [Value.ownBlock]⟩
theorem range_new (w : World) (t : TypeId) (n : Nat) (f : Nat → Value) : (w.alloc (.cells (row n f).toArray t)).rangeAt w.heap.size 0 (row n f) := fun j v hv => by
  obtain ⟨hj, rfl⟩ := row_out hv
  simp [row, hj]
end Go.Proofs.YtdokgalidhmbbaaGreatDoor
