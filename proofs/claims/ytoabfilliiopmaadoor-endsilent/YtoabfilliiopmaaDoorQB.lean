/- Slices of frames as they lie in memory, what came and what a call made itself; the law's comparison of two lists of frames, where they are the same. -/
import Derived.Test.YtoabfilliiopmaaDoorQA
import Derived.Test.YtoabfilliiopmaaDoorFE
import Derived.Test.YtoabfilliiopmaaDoorFK
import Derived.Test.YtoabfilliiopmaaDoorFS
import Derived.Maps.AppendAt
import Derived.Deep.RegionHeld3
namespace Go.Proofs.YtoabfilliiopmaaDoor
open Go.RowKit Go.Lib Go.Sort
set_option linter.unusedVariables false
set_option linter.unusedSimpArgs false


def FCells (w : World) (b off : Nat) (fs : List F) : Prop := ∀ j, j < fs.length → ∃ u, w.cell? ⟨b, off + j * 3, none⟩ = some (.int .i64 (fat fs j).1) ∧ w.cell? ⟨b, off + j * 3 + 1, none⟩ = some u ∧ w.cell? ⟨b, off + j * 3 + 2, none⟩ = some (.string (fat fs j).2.2) ∧ IRow w u (fat fs j).2.1 ∧ (fat fs j).2.2.size ≤ maxLen
/-- The slice's value v holds the frames fs in the world w. -/
def FRow (w : World) (v : Value) (fs : List F) : Prop := ∃ ao c, v = .slice ao fs.length c ∧ fs.length ≤ 9223372036854775807 ∧ fs.length ≤ c ∧ (fs = [] ∨ ∃ b off, ao = some ⟨b, off, none⟩ ∧ b < w.heap.size ∧ FCells w b off fs)
theorem FCells.below {w w' : World} {b off : Nat} {fs : List F} (h : FCells w b off fs) (hb : b < w.heap.size) (bel : Below w.heap.size w w') : FCells w' b off fs := fun j hj => by
  obtain ⟨u, h0, h1, h2, h3, h4⟩ := h j hj
  exact ⟨u, (bel.cell (p := ⟨b, off + j * 3, none⟩) hb).trans h0, (bel.cell (p := ⟨b, off + j * 3 + 1, none⟩) hb).trans h1, (bel.cell (p := ⟨b, off + j * 3 + 2, none⟩) hb).trans h2, h3.below bel, h4⟩
theorem FRow.below {w w' : World} {v : Value} {fs : List F} (h : FRow w v fs) (bel : Below w.heap.size w w') : FRow w' v fs := by
  obtain ⟨ao, c, rfl, hl, hn, h⟩ := h
  refine ⟨ao, c, rfl, hl, hn, ?_⟩
  rcases h with h | ⟨b, off, rfl, hb, hc⟩
  · exact .inl h
  · exact .inr ⟨b, off, rfl, Nat.lt_of_lt_of_le hb bel.size, hc.below hb bel⟩
theorem FRow.nil (w : World) : FRow w (.slice none 0 0) [] := ⟨none, 0, rfl, by simp, by simp, .inl rfl⟩
theorem FRow.shape {w : World} {v : Value} {fs : List F} (h : FRow w v fs) : ∃ ao c, v = .slice ao fs.length c := by
  obtain ⟨ao, c, e, _⟩ := h
  exact ⟨ao, c, e⟩

def uat (us : List Value) (j : Nat) : Value := us[j]?.getD .nilIface
def fcs : List Value → List F → List Value
  | u :: us, f :: fs => .int .i64 f.1 :: u :: .string f.2.2 :: fcs us fs
  | _, _ => []
theorem fcs_length : ∀ (us : List Value) (fs : List F), us.length = fs.length → (fcs us fs).length = fs.length * 3
  | [], [], _ => rfl
  | [], f :: fs, h => by simp at h
  | u :: us, [], h => by simp at h
  | u :: us, f :: fs, h => by
    simp only [fcs, List.length_cons, fcs_length us fs (by simpa using h)]
    omega
theorem fcs_get : ∀ (us : List Value) (fs : List F) (j : Nat), us.length = fs.length → j < fs.length → (fcs us fs)[j * 3]? = some (.int .i64 (fat fs j).1) ∧ (fcs us fs)[j * 3 + 1]? = some (uat us j) ∧ (fcs us fs)[j * 3 + 2]? = some (.string (fat fs j).2.2)
  | [], [], j, _, h => by simp at h
  | [], f :: fs, j, h, _ => by simp at h
  | u :: us, [], j, h, _ => by simp at h
  | u :: us, f :: fs, 0, _, _ => by simp [fcs, fat, uat]
  | u :: us, f :: fs, j + 1, h, h1 => by
    have i := fcs_get us fs j (by simpa using h) (by simpa using h1)
    have e1 : (j + 1) * 3 = j * 3 + 1 + 1 + 1 := by omega
    have e2 : uat (u :: us) (j + 1) = uat us j := by simp [uat]
    rw [e1, fat_cons, e2]
    simpa [fcs] using i
theorem fcs_snoc : ∀ (us : List Value) (fs : List F) (u : Value) (f : F), us.length = fs.length → fcs (us ++ [u]) (fs ++ [f]) = fcs us fs ++ [.int .i64 f.1, u, .string f.2.2]
  | [], [], u, f, _ => rfl
  | [], g :: fs, u, f, h => by simp at h
  | v :: us, [], u, f, h => by simp at h
  | v :: us, g :: fs, u, f, h => by simp only [List.cons_append, fcs, fcs_snoc us fs u f (by simpa using h)]
/-- The frames fs lie in a slice that the call made itself, the numbers of each in another such slice; each is right. -/
structure FOwn (w : World) (B : Nat) (v : Value) (us : List Value) (fs : List F) : Prop where
  len : us.length = fs.length
  own : w.ownsRow B 33 3 v fs.length (fcs us fs)
  rows : ∀ j, j < fs.length → OwnI w B (uat us j) (fat fs j).2.1
  good : ∀ j, j < fs.length → fF (fat fs j) = 0
theorem FOwn.nil (w : World) (B : Nat) : FOwn w B (.slice none 0 0) [] [] := ⟨rfl, World.ownsRow_nil _ _ _ _, fun j h => by simp at h, fun j h => by simp at h⟩
theorem FOwn.below {w w' : World} {B : Nat} {v : Value} {us : List Value} {fs : List F} (h : FOwn w B v us fs) (bel : Below w.heap.size w w') : FOwn w' B v us fs :=
  ⟨h.len, own_below h.own bel, fun j hj => (h.rows j hj).below bel, h.good⟩
theorem own_apart {w : World} {B B' n m : Nat} {u v : Value} {xs ys : List Value} (h : w.ownsRow B 3 1 u n xs) (h' : w.ownsRow B' 33 3 v m ys) : u.ownBlock = none ∨ u.ownBlock ≠ v.ownBlock := by
  rcases h.2 with ⟨rfl, _⟩ | ⟨g, cap, cur, rfl, _, hg, _⟩
  · exact .inl rfl
  · right
    intro e
    rcases h'.2 with ⟨rfl, _⟩ | ⟨g', cap', cur', rfl, _, hg', _⟩
    · cases e
    · have : g = g' := by simpa [Value.ownBlock] using e
      subst this
      rw [hg] at hg'
      cases hg'
theorem uat_old {us : List Value} {u : Value} {j : Nat} (h : j < us.length) : uat (us ++ [u]) j = uat us j := by simp [uat, List.getElem?_append_left h]
theorem uat_new {us : List Value} {u : Value} : uat (us ++ [u]) us.length = u := by simp [uat]
theorem fat_old {fs : List F} {f : F} {j : Nat} (h : j < fs.length) : fat (fs ++ [f]) j = fat fs j := by simp [fat, List.getElem?_append_left h]
theorem fat_new {fs : List F} {f : F} : fat (fs ++ [f]) fs.length = f := by simp [fat]
theorem FOwn.app {w w' : World} {B : Nat} {v v' u : Value} {us : List Value} {fs : List F} {f : F} (h : FOwn w B v us fs) (hu : OwnI w B u f.2.1) (hf : fF f = 0)
    (ho : w'.ownsRow B 33 3 v' (fs.length + 1) (fcs us fs ++ [.int .i64 f.1, u, .string f.2.2])) (hg : w.grownBy w' v.ownBlock) : FOwn w' B v' (us ++ [u]) (fs ++ [f]) := by
  refine ⟨by simp [h.len], by rw [fcs_snoc _ _ _ _ h.len, List.length_append]; exact ho, fun j hj => ?_, fun j hj => ?_⟩
  · rw [List.length_append, List.length_cons, List.length_nil] at hj
    by_cases e : j = fs.length
    · rw [e, fat_new, ← h.len, uat_new]
      exact hu.kept hg (own_apart hu h.own)
    · have hj' : j < fs.length := by omega
      rw [fat_old hj', uat_old (by rw [h.len]; exact hj')]
      exact (h.rows j hj').kept hg (own_apart (h.rows j hj') h.own)
  · rw [List.length_append, List.length_cons, List.length_nil] at hj
    by_cases e : j = fs.length
    · rw [e, fat_new]; exact hf
    · rw [fat_old (by omega)]; exact h.good j (by omega)
theorem fF_small {f : F} (h : fF f = 0) : f.2.1.length ≤ 24 ∧ f.2.2.size ≤ 20 := by
  obtain ⟨_, h2, _, _, h5, _⟩ := frF_ok h
  refine ⟨?_, h5⟩
  unfold cntB at h2
  split at h2
  · have := of_decide_eq_true h2; omega
  · have := of_decide_eq_true h2
    rw [this]; unfold cntK; split
    · omega
    · split <;> omega
theorem FOwn.row {w : World} {B : Nat} {v : Value} {us : List Value} {fs : List F} (h : FOwn w B v us fs) (hl : fs.length ≤ 1000000) : FRow w v fs := by
  rcases h.own.2 with ⟨e, h0⟩ | ⟨g, cap, cur, e, hb, hg, hcap, _⟩
  · exact ⟨none, 0, by rw [e, h0], by omega, by omega, .inl (List.eq_nil_of_length_eq_zero h0)⟩
  · refine ⟨some ⟨g, 0, none⟩, cap, e, by omega, hcap, .inr ⟨g, 0, rfl, (Array.getElem?_eq_some_iff.1 hg).1, fun j hj => ?_⟩⟩
    have ho := h.own
    rw [e] at ho
    have f := fcs_get us fs j h.len hj
    have c0 := ho.cells (g := g) rfl _ _ f.1
    have c1 := ho.cells (g := g) rfl _ _ f.2.1
    have c2 := ho.cells (g := g) rfl _ _ f.2.2
    rw [Addr.add_lit] at c0 c1 c2
    have hs := fF_small (h.good j hj)
    exact ⟨_, c0, by rw [← Nat.add_assoc] at c1; exact c1, by rw [← Nat.add_assoc] at c2; exact c2, irow_of_own (h.rows j hj) (by omega), by unfold maxLen; omega⟩
theorem infoF : (Tryd.prog.info? 33).map (fun i => (i.zero, i.size, i.bytes)) = some (some (.agg #[.int .i64 0, .slice none 0 0, .string { data := #[] }]), 3, 48) := by kernel_rfl
theorem cells_frame_new (w : World) (k : Int) (u : Value) (d : ByteArray) (t : TypeId) : ∀ (j : Nat) (u' : Value), [Value.int .i64 k, u, .string d][j]? = some u' → (w.alloc (.cells #[.int .i64 k, u, .string d] t)).cell? ((⟨w.heap.size, 0, none⟩ : Addr).add j) = some u' := by
  intro j u' h
  rw [Addr.add_lit]
  match j, h with
  | 0, h => simp at h; subst h; simp
  | 1, h => simp at h; subst h; simp
  | 2, h => simp at h; subst h; simp
  | j + 3, h => simp at h
theorem frame_one (k : Int) (a : Option Addr) (n c : Nat) (d : ByteArray) : ∀ u' ∈ [Value.int .i64 k, .slice a n c, .string d], u'.oneCell' = true := by
  intro u' h
  simp at h
  rcases h with rfl | rfl | rfl <;> rfl
theorem frS_size {k : Int} {ns : List Int} {d : ByteArray} (h : frF k ns d = 0) : (frS k ns d).size ≤ 121 := by
  have h1 := mid_size h
  have h2 := (frF_ok h).2.2.2.2.1
  unfold frS
  rw [ByteArray.size_append, ByteArray.size_append, strOfNums_size [k]]
  simp only [List.length_cons, List.length_nil]
  omega
theorem fsS_size {l : List F} (h : ∀ j, j < l.length → fF (fat l j) = 0) : ∀ k, k ≤ l.length → (fsS (l.take k)).size ≤ 121 * k := by
  intro k
  induction k with
  | zero => intro _; simp [fsS]; rfl
  | succ k ih =>
    intro hk
    have i := ih (by omega)
    have s : (fS (fat l k)).size ≤ 121 := frS_size (h k (by omega))
    rw [fsS_next (by omega), ByteArray.size_append]
    omega

end Go.Proofs.YtoabfilliiopmaaDoor
