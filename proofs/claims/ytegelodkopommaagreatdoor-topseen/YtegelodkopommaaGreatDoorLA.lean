/- A Log: the numbers of its records, what is there of one more, how many bytes are safe; as it lies in memory. -/
import Derived.Test.YtegelodkopommaaGreatDoorEU
import Derived.Test.YtegelodkopommaaGreatDoorGV
import Derived.Laws.ResultCell
import Derived.Laws.OwnMore
namespace Go.Proofs.YtegelodkopommaaGreatDoor.Lo
open Go.RowKit Go.Lib Go.Sort
set_option linter.unusedVariables false
set_option linter.unusedSimpArgs false

def nth (ns : List Int) (k : Nat) : Int := ns[k]?.getD 0
/-- A number's record. -/
def recF (n : Int) : List Int := [n / 16777216 % 256, n / 65536 % 256, n / 256 % 256, n % 256]
def recs (ns : List Int) : List Int := ns.flatMap recF
def bvs (bs : List Int) : List Value := bs.map (Value.int .u8)
theorem recs_length (ns : List Int) : (recs ns).length = 4 * ns.length := by
  induction ns with
  | nil => rfl
  | cons n ns ih => simp only [recs, List.flatMap_cons, List.length_append] at *; rw [ih]; simp [recF]; omega
theorem recs_snoc (ns : List Int) (n : Int) : recs (ns ++ [n]) = recs ns ++ recF n := by simp [recs]
theorem recs_cons (n : Int) (ns : List Int) : recs (n :: ns) = recF n ++ recs ns := by simp [recs]
theorem recs_take : ∀ (ns : List Int) (m : Nat) (x : List Int), m ≤ ns.length → (recs ns ++ x).take (4 * m) = recs (ns.take m)
  | [], m, x, h => by
    have : m = 0 := by simpa using h
    subst this
    simp [recs]
  | n :: ns, 0, x, _ => by simp [recs]
  | n :: ns, m + 1, x, h => by
    have i := recs_take ns m x (by simpa using h)
    have e1 : 4 * (m + 1) = 4 * m + 1 + 1 + 1 + 1 := by omega
    rw [e1, List.take_succ_cons, recs_cons, recs_cons]
    simp only [recF, List.cons_append, List.nil_append, List.take_succ_cons]
    rw [i]
theorem recs_get : ∀ (ns : List Int) (k : Nat), k < ns.length → (recs ns)[4 * k]?.getD 0 = nth ns k / 16777216 % 256 ∧ (recs ns)[4 * k + 1]?.getD 0 = nth ns k / 65536 % 256 ∧ (recs ns)[4 * k + 2]?.getD 0 = nth ns k / 256 % 256 ∧ (recs ns)[4 * k + 3]?.getD 0 = nth ns k % 256
  | [], k, h => by simp at h
  | n :: ns, 0, _ => by simp [recs, recF, nth]
  | n :: ns, k + 1, h => by
    have i := recs_get ns k (by simpa using h)
    have e0 : 4 * (k + 1) = 4 * k + 1 + 1 + 1 + 1 := by omega
    have e1 : 4 * (k + 1) + 1 = 4 * k + 1 + 1 + 1 + 1 + 1 := by omega
    have e2 : 4 * (k + 1) + 2 = 4 * k + 2 + 1 + 1 + 1 + 1 := by omega
    have e3 : 4 * (k + 1) + 3 = 4 * k + 3 + 1 + 1 + 1 + 1 := by omega
    have en : nth (n :: ns) (k + 1) = nth ns k := by simp [nth]
    rw [e1, e2, e3, e0, en, recs_cons]
    simp only [recF, List.cons_append, List.nil_append, List.getElem?_cons_succ]
    exact i
theorem bvs_length (bs : List Int) : (bvs bs).length = bs.length := by simp [bvs]
theorem bvs_append (a b : List Int) : bvs (a ++ b) = bvs a ++ bvs b := by simp [bvs]
theorem bvs_get (bs : List Int) (j : Nat) (h : j < bs.length) : (bvs bs)[j]? = some (.int .u8 (bs[j]?.getD 0)) := by simp [bvs, h]
theorem bvs_one {bs : List Int} : ∀ u, u ∈ bvs bs → u.oneCell' = true := by
  intro u hu
  simp only [bvs, List.mem_map] at hu
  obtain ⟨z, _, rfl⟩ := hu
  rfl
theorem nth_mem {ns : List Int} {k : Nat} (h : k < ns.length) : nth ns k ∈ ns := by simp [nth, h]
theorem take_snoc {ns : List Int} {k : Nat} (h : k < ns.length) : ns.take (k + 1) = ns.take k ++ [nth ns k] := by
  rw [List.take_succ_eq_append_getElem h]; simp [nth, h]
/-- The ranges of numbers, added one by one. -/
def rgN (ns : List Int) : List R := ns.foldl addL []
theorem rgN_snoc (ns : List Int) (n : Int) : rgN (ns ++ [n]) = addL (rgN ns) n := by simp [rgN]
/-- Each could be added, and was new. -/
def Fit (ns : List Int) : Prop := ∀ k, k < ns.length → isN (nth ns k) = true ∧ memB (rgN (ns.take k)) (nth ns k) = false ∧ (addL (rgN (ns.take k)) (nth ns k)).length ≤ 12
theorem Fit.nil : Fit [] := fun k hk => by simp at hk
theorem nth_take {ns : List Int} {m k : Nat} (h : k < m) : nth (ns.take m) k = nth ns k := by simp [nth, List.getElem?_take, h]
theorem Fit.take {ns : List Int} (h : Fit ns) (m : Nat) : Fit (ns.take m) := fun k hk => by
  rw [List.length_take] at hk
  have h1 : k < m := by omega
  have := h k (by omega)
  rw [nth_take h1, List.take_take, Nat.min_eq_left (by omega)]
  exact this
theorem Fit.snoc {ns : List Int} {n : Int} (h : Fit ns) (h1 : isN n = true) (h2 : memB (rgN ns) n = false) (h3 : (addL (rgN ns) n).length ≤ 12) : Fit (ns ++ [n]) := fun k hk => by
  rw [List.length_append] at hk
  by_cases e : k < ns.length
  · have e1 : nth (ns ++ [n]) k = nth ns k := by unfold nth; rw [List.getElem?_append_left e]
    have e2 : (ns ++ [n]).take k = ns.take k := by rw [List.take_append_of_le_length (by omega)]
    rw [e1, e2]
    exact h k e
  · have e0 : k = ns.length := by simp at hk; omega
    subst e0
    have e1 : nth (ns ++ [n]) ns.length = n := by simp [nth]
    have e2 : (ns ++ [n]).take ns.length = ns := by simp
    rw [e1, e2]
    exact ⟨h1, h2, h3⟩
theorem Fit.chks {ns : List Int} (h : Fit ns) : ∀ k, k ≤ ns.length → chk (rgN (ns.take k)) = 0
  | 0, _ => by simp only [List.take_zero]; decide
  | k + 1, hk => by
    have i := Fit.chks h k (by omega)
    obtain ⟨a, _, c⟩ := h k (by omega)
    rw [take_snoc (by omega), rgN_snoc]
    exact addL_chk i a c
theorem Fit.chk {ns : List Int} (h : Fit ns) : chk (rgN ns) = 0 := by
  have := h.chks ns.length (Nat.le_refl _)
  rwa [List.take_length] at this
theorem Fit.len {ns : List Int} (h : Fit ns) : (rgN ns).length ≤ 12 := ((chk_ok _).1 h.chk).1
theorem Fit.may {ns : List Int} (h : Fit ns) {k : Nat} (hk : k < ns.length) : 0 ≤ nth ns k ∧ nth ns k ≤ 1073741823 := (isN_iff _).1 (h k hk).1

/-- A Log. -/
structure Lg where
  ns : List Int
  x : List Int
  sf : Nat
  ah : Int
  st : Bool
def Lg.new : Lg := ⟨[], [], 0, -1, false⟩
def Lg.bs (s : Lg) : List Int := recs s.ns ++ s.x
theorem Lg.bs_length (s : Lg) : s.bs.length = 4 * s.ns.length + s.x.length := by unfold Lg.bs; rw [List.length_append, recs_length]
def dn (a : Int) : Int := if 0 < a then a - 1 else a
/-- What holds whatever is done. -/
structure LInv (s : Lg) : Prop where
  fit : Fit s.ns
  few : s.ns.length ≤ 100000
  xl : s.x.length ≤ 2
  xn : s.st = false → s.x = []
  sl : s.sf ≤ 4 * s.ns.length
  sm : s.sf % 4 = 0
  a0 : -9223372036854775808 ≤ s.ah
  a1 : s.ah ≤ 9223372036854775807
theorem LInv.new : LInv Lg.new := ⟨Fit.nil, Nat.zero_le _, Nat.zero_le _, fun _ => rfl, Nat.zero_le _, rfl, by decide, by decide⟩
theorem LInv.bl {s : Lg} (h : LInv s) : s.bs.length ≤ 400002 := by rw [s.bs_length]; have := h.few; have := h.xl; omega
theorem dn_bd {a : Int} (h0 : -9223372036854775808 ≤ a) (h1 : a ≤ 9223372036854775807) : -9223372036854775808 ≤ dn a ∧ dn a ≤ 9223372036854775807 := by unfold dn; split <;> omega
theorem LInv.down {s : Lg} (h : LInv s) : LInv { s with ah := dn s.ah } := ⟨h.fit, h.few, h.xl, h.xn, h.sl, h.sm, (dn_bd h.a0 h.a1).1, (dn_bd h.a0 h.a1).2⟩
theorem LInv.stop {s : Lg} (h : LInv s) : LInv { s with st := true } := ⟨h.fit, h.few, h.xl, fun e => Bool.noConfusion e, h.sl, h.sm, h.a0, h.a1⟩

def own (lb : Nat) (vb vc : Value) (k : Nat) : Prop := k = lb ∨ vb.ownBlock = some k ∨ vc.ownBlock = some k
/-- The block lb holds a Log; vb are its bytes, vc its ranges. -/
structure LO (w : World) (B lb : Nat) (vb vc : Value) (s : Lg) : Prop where
  inv : LInv s
  c0 : w.cell? ⟨lb, 0, none⟩ = some vb
  c1 : w.cell? ⟨lb, 1, none⟩ = some (.int .i64 (s.sf : Int))
  c2 : w.cell? ⟨lb, 2, none⟩ = some vc
  c3 : w.cell? ⟨lb, 3, none⟩ = some (.int .i64 s.ah)
  c4 : w.cell? ⟨lb, 4, none⟩ = some (.bool s.st)
  fr : ∀ j, w.frozen? ⟨lb, j, none⟩ = false
  hb : B ≤ lb
  rb : w.ownsRow B 5 1 vb s.bs.length (bvs s.bs)
  rc : w.ownsRow B 66 2 vc (rgN s.ns).length (flat (rgN s.ns))
  nb : vb.ownBlock ≠ some lb
  nc : vc.ownBlock ≠ some lb
theorem apart {w : World} {B1 B2 n1 n2 : Nat} {v1 v2 : Value} {xs ys : List Value} (h1 : w.ownsRow B1 5 1 v1 n1 xs) (h2 : w.ownsRow B2 66 2 v2 n2 ys) {k : Nat} (e1 : v1.ownBlock = some k) (e2 : v2.ownBlock = some k) : False := by
  rcases h1.2 with ⟨rfl, _⟩ | ⟨g, cap, cur, rfl, _, hg, _⟩
  · cases e1
  · rcases h2.2 with ⟨rfl, _⟩ | ⟨g', cap', cur', rfl, _, hg', _⟩
    · cases e2
    · have e1 : g = k := Option.some.inj e1
      have e2 : g' = k := Option.some.inj e2
      rw [e1] at hg
      rw [e2, hg] at hg'
      injection hg' with hg'
      injection hg' with _ he _
      exact absurd he (by decide)
end Go.Proofs.YtegelodkopommaaGreatDoor.Lo
namespace Go.Proofs.YtegelodkopommaaGreatDoor
set_option linter.unusedVariables false
theorem Off.own {K : Nat → Prop} {w w' : World} {B e size n : Nat} {v : Value} {xs : List Value} (h : Off K w w') (hr : w.ownsRow B e size v n xs) (hK : ∀ k, v.ownBlock = some k → ¬ K k) : w'.ownsRow B e size v n xs := by
  refine ⟨hr.1, ?_⟩
  rcases hr.2 with hn | ⟨g, cap, cur, rfl, hb, hg, rest⟩
  · exact .inl hn
  · exact .inr ⟨g, cap, cur, rfl, hb, (h.block g (Array.getElem?_eq_some_iff.1 hg).1 (hK g rfl)).trans hg, rest⟩
end Go.Proofs.YtegelodkopommaaGreatDoor
namespace Go.Proofs.YtegelodkopommaaGreatDoor.Lo
open Go.RowKit Go.Lib Go.Sort
set_option linter.unusedVariables false
set_option linter.unusedSimpArgs false
section
variable {w w' : World} {B lb : Nat} {vb vc : Value} {s : Lg}
theorem LO.ltl (h : LO w B lb vb vc s) : lb < w.heap.size := World.block_lt_of_cell? w _ h.c0
theorem LO.lt (h : LO w B lb vb vc s) {k : Nat} (hk : own lb vb vc k) : k < w.heap.size := by
  rcases hk with rfl | hk | hk
  · exact h.ltl
  · exact (h.rb.lt k hk).2
  · exact (h.rc.lt k hk).2
theorem LO.ge (h : LO w B lb vb vc s) {k : Nat} (hk : own lb vb vc k) : B ≤ k := by
  rcases hk with rfl | hk | hk
  · exact h.hb
  · exact (h.rb.lt k hk).1
  · exact (h.rc.lt k hk).1
theorem LO.le (h : LO w B lb vb vc s) : B ≤ w.heap.size := Nat.le_trans h.hb (Nat.le_of_lt h.ltl)
theorem LO.off {K : Nat → Prop} (h : LO w B lb vb vc s) (ho : Off K w w') (hK : ∀ k, own lb vb vc k → ¬ K k) : LO w' B lb vb vc s := by
  have km := hK lb (.inl rfl)
  exact ⟨h.inv, ho.cell h.c0 km, ho.cell h.c1 km, ho.cell h.c2 km, ho.cell h.c3 km, ho.cell h.c4 km, fun j => (ho.frozen (p := ⟨lb, j, none⟩) h.ltl km).trans (h.fr j), h.hb, ho.own h.rb (fun k e => hK k (.inr (.inl e))), ho.own h.rc (fun k e => hK k (.inr (.inr e))), h.nb, h.nc⟩
theorem LO.below (h : LO w B lb vb vc s) (hb : Below w.heap.size w w') : LO w' B lb vb vc s := h.off (Off.of_below (K := fun _ => False) hb) (fun _ _ => id)
theorem LO.drew (h : LO w B lb vb vc s) : LO w.drew B lb vb vc s := h.below ⟨rfl, rfl, rfl, Nat.le_refl _, fun _ _ => rfl⟩
theorem LO.base {B' : Nat} (h : LO w B lb vb vc s) (hB : B' ≤ B) : LO w B' lb vb vc s := ⟨h.inv, h.c0, h.c1, h.c2, h.c3, h.c4, h.fr, Nat.le_trans hB h.hb, own_mono h.rb hB, own_mono h.rc hB, h.nb, h.nc⟩
theorem LO.shB (h : LO w B lb vb vc s) : ∃ a c, vb = .slice a s.bs.length c := by
  rcases h.rb.2 with ⟨e, e0⟩ | ⟨g, cap, cur, e, _⟩
  · exact ⟨none, 0, by rw [e, e0]⟩
  · exact ⟨_, _, e⟩
theorem LO.shC (h : LO w B lb vb vc s) : ∃ a c, vc = .slice a (rgN s.ns).length c := by
  rcases h.rc.2 with ⟨e, e0⟩ | ⟨g, cap, cur, e, _⟩
  · exact ⟨none, 0, by rw [e, e0]⟩
  · exact ⟨_, _, e⟩
theorem LO.row (h : LO w B lb vb vc s) : Row w vc (rgN s.ns) := row_of_own h.rc (by have := h.inv.fit.len; omega)
/-- One of its five cells is stored. -/
theorem LO.offL (lb : Nat) (w : World) (j : Nat) (u : Value) : Off (fun k => k = lb) w (w.setCell ⟨lb, j, none⟩ u) := (Off.refl _ _).setCell (K := fun k => k = lb) (a := ⟨lb, j, none⟩) rfl _
theorem LO.rest (h : LO w B lb vb vc s) (j : Nat) (u : Value) : (w.setCell ⟨lb, j, none⟩ u).ownsRow B 5 1 vb s.bs.length (bvs s.bs) ∧ (w.setCell ⟨lb, j, none⟩ u).ownsRow B 66 2 vc (rgN s.ns).length (flat (rgN s.ns)) :=
  ⟨(LO.offL lb w j u).own h.rb (fun k e e' => by subst e'; exact h.nb e), (LO.offL lb w j u).own h.rc (fun k e e' => by subst e'; exact h.nc e)⟩
theorem far {i j : Nat} (hij : j ≠ i) (u : Value) {v : Value} (h : w.cell? ⟨lb, i, none⟩ = some v) : (w.setCell ⟨lb, j, none⟩ u).cell? ⟨lb, i, none⟩ = some v := by
  rw [World.cell?_setCell_other _ _ _ _ (fun e => by injection e with _ e _; exact hij e)]; exact h
theorem LO.setA (h : LO w B lb vb vc s) (a : Int) (hi : LInv { s with ah := a }) : LO (w.setCell ⟨lb, 3, none⟩ (.int .i64 a)) B lb vb vc { s with ah := a } :=
  ⟨hi, far (by decide) _ h.c0, far (by decide) _ h.c1, far (by decide) _ h.c2, World.cell?_setCell_same _ _ _ h.c3, far (by decide) _ h.c4, fun j => by simpa using h.fr j, h.hb, (h.rest 3 _).1, (h.rest 3 _).2, h.nb, h.nc⟩
theorem LO.setT (h : LO w B lb vb vc s) : LO (w.setCell ⟨lb, 4, none⟩ (.bool true)) B lb vb vc { s with st := true } :=
  ⟨h.inv.stop, far (by decide) _ h.c0, far (by decide) _ h.c1, far (by decide) _ h.c2, far (by decide) _ h.c3, World.cell?_setCell_same _ _ _ h.c4, fun j => by simpa using h.fr j, h.hb, (h.rest 4 _).1, (h.rest 4 _).2, h.nb, h.nc⟩
theorem LO.setS (h : LO w B lb vb vc s) (n : Nat) (hi : LInv { s with sf := n }) : LO (w.setCell ⟨lb, 1, none⟩ (.int .i64 (n : Int))) B lb vb vc { s with sf := n } :=
  ⟨hi, far (by decide) _ h.c0, World.cell?_setCell_same _ _ _ h.c1, far (by decide) _ h.c2, far (by decide) _ h.c3, far (by decide) _ h.c4, fun j => by simpa using h.fr j, h.hb, (h.rest 1 _).1, (h.rest 1 _).2, h.nb, h.nc⟩
/-- More bytes are stored. -/
theorem LO.setB {w3 : World} {vb' : Value} {s' : Lg} (h : LO w B lb vb vc s) (ho : Off (fun k => vb.ownBlock = some k) w w3) (hr : w3.ownsRow B 5 1 vb' s'.bs.length (bvs s'.bs)) (hn : ∀ k, vb'.ownBlock = some k → vb.ownBlock = some k ∨ w.heap.size ≤ k)
    (hi : LInv s') (e1 : s'.sf = s.sf) (e2 : rgN s'.ns = rgN s.ns) (e3 : s'.ah = s.ah) (e4 : s'.st = s.st) : LO (w3.setCell ⟨lb, 0, none⟩ vb') B lb vb' vc s' := by
  have kl : ¬ vb.ownBlock = some lb := h.nb
  have kc : ∀ k, vc.ownBlock = some k → ¬ vb.ownBlock = some k := fun k e e' => apart h.rb h.rc e' e
  have nb' : vb'.ownBlock ≠ some lb := fun e => by
    rcases hn lb e with e' | e'
    · exact h.nb e'
    · have := h.ltl; omega
  have o1 := LO.offL lb w3 0 vb'
  refine ⟨hi, World.cell?_setCell_same _ _ _ (ho.cell h.c0 kl), far (by decide) _ (by rw [e1]; exact ho.cell h.c1 kl), far (by decide) _ (ho.cell h.c2 kl), far (by decide) _ (by rw [e3]; exact ho.cell h.c3 kl), far (by decide) _ (by rw [e4]; exact ho.cell h.c4 kl), fun j => ?_, h.hb, o1.own hr (fun k e e' => by subst e'; exact nb' e), ?_, nb', h.nc⟩
  · have := (ho.frozen (p := ⟨lb, j, none⟩) h.ltl kl).trans (h.fr j)
    simpa using this
  · rw [e2]
    exact o1.own (ho.own h.rc kc) (fun k e e' => by subst e'; exact h.nc e)
/-- And the ranges. -/
theorem LO.setBC {w3 : World} {vb' vc' : Value} {s' : Lg} (h : LO w B lb vb vc s) (ho : Off (fun k => vb.ownBlock = some k) w w3) (hr : w3.ownsRow B 5 1 vb' s'.bs.length (bvs s'.bs)) (hn : ∀ k, vb'.ownBlock = some k → vb.ownBlock = some k ∨ w.heap.size ≤ k)
    (hc : w3.ownsRow B 66 2 vc' (rgN s'.ns).length (flat (rgN s'.ns))) (hcn : vc'.ownBlock ≠ some lb)
    (hi : LInv s') (e1 : s'.sf = s.sf) (e3 : s'.ah = s.ah) (e4 : s'.st = s.st) : LO ((w3.setCell ⟨lb, 0, none⟩ vb').setCell ⟨lb, 2, none⟩ vc') B lb vb' vc' s' := by
  have kl : ¬ vb.ownBlock = some lb := h.nb
  have nb' : vb'.ownBlock ≠ some lb := fun e => by
    rcases hn lb e with e' | e'
    · exact h.nb e'
    · have := h.ltl; omega
  have o1 : Off (fun k => k = lb) w3 ((w3.setCell ⟨lb, 0, none⟩ vb').setCell ⟨lb, 2, none⟩ vc') := (LO.offL lb w3 0 vb').trans (LO.offL lb _ 2 vc')
  refine ⟨hi, far (by decide) _ (World.cell?_setCell_same _ _ _ (ho.cell h.c0 kl)), far (by decide) _ (far (by decide) _ (by rw [e1]; exact ho.cell h.c1 kl)), World.cell?_setCell_same _ _ _ (far (by decide) _ (ho.cell h.c2 kl)), far (by decide) _ (far (by decide) _ (by rw [e3]; exact ho.cell h.c3 kl)), far (by decide) _ (far (by decide) _ (by rw [e4]; exact ho.cell h.c4 kl)), fun j => ?_, h.hb, o1.own hr (fun k e e' => by subst e'; exact nb' e), o1.own hc (fun k e e' => by subst e'; exact hcn e), nb', hcn⟩
  have := (ho.frozen (p := ⟨lb, j, none⟩) h.ltl kl).trans (h.fr j)
  simpa using this
/-- It alone has turned, to s. -/
def Tu (w w' : World) (B lb : Nat) (vb vc : Value) (s : Lg) : Prop := ∃ vb' vc', LO w' B lb vb' vc' s ∧ Off (own lb vb vc) w w' ∧ ∀ k, own lb vb' vc' k → own lb vb vc k ∨ w.heap.size ≤ k
theorem Tu.same (h : LO w' B lb vb vc s) (ho : Off (fun k => k = lb) w w') : Tu w w' B lb vb vc s := ⟨vb, vc, h, ho.mono (fun k _ e => .inl e), fun k hk => .inl hk⟩
theorem Tu.below (h : LO w B lb vb vc s) (hb : Below w.heap.size w w') : Tu w w' B lb vb vc s := Tu.same (h.below hb) (Off.of_below hb)
end
end Go.Proofs.YtegelodkopommaaGreatDoor.Lo
