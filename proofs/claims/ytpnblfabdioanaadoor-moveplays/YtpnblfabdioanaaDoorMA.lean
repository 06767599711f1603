/- A Mover: what its calls answer and leave, by numbers; and as it lies in memory. -/
import Derived.Test.YtpnblfabdioanaaDoorIY
import Derived.Test.YtpnblfabdioanaaDoorPX
import Derived.Test.YtpnblfabdioanaaDoorOX
import Derived.Laws.ResultCell
namespace Go.Proofs.YtpnblfabdioanaaDoor
open Go.RowKit Go.Lib Go.Sort
set_option linter.unusedVariables false
set_option linter.unusedSimpArgs false

/-- A Mover: its paths, where it is, its IDs, what is open. -/
structure Mv where
  pi : Nat → Int
  po : Nat → Int
  pk : Nat → Bool
  wh : Int
  L : Int
  ns : List Int
  ls : List Ix.R
  os : List Ox.T
def Mv.start (L : Int) : Mv := ⟨fun _ => 0, fun _ => 0, fun k => decide (k = 0), 0, L, [], [], []⟩
def Mv.setP (s : Mv) (j : Nat) (a b : Int) (c : Bool) : Mv := { s with pi := fun k => if k = j then a else s.pi k, po := fun k => if k = j then b else s.po k, pk := fun k => if k = j then c else s.pk k }
abbrev ptB (i : Int) : Bool := Ox.pathB i
theorem ptB_yes {i : Int} (h : ptB i = true) : ∃ j : Nat, i = (j : Int) ∧ j < 4 := by
  have : 0 ≤ i ∧ i ≤ 3 := of_decide_eq_true h
  exact ⟨i.toNat, by omega, by omega⟩
theorem ptB_of {j : Nat} (h : j < 4) : ptB (j : Int) = true := decide_eq_true (by omega)
theorem ptB_no {i : Int} (h : ptB i = false) : i < 0 ∨ 3 < i := by have := of_decide_eq_false h; omega
def issF (s : Mv) (n : Int) : Int := if Ix.nameB n = true then (if n ∈ s.ns then 7 else if Ix.fullB s.L s.ns s.ls = true then 4 else 0) else 1
def offS (s : Mv) (n : Int) : Mv := if issF s n = 0 then { s with ns := s.ns ++ [n], ls := s.ls ++ [((s.ns.length : Int), n)] } else s
def cmF (s : Mv) (i n : Int) : Int := if ptB i = true then Px.cameF (s.pi i.toNat) (s.po i.toNat) (s.pk i.toNat) n else 1
def cmS (s : Mv) (i n : Int) : Mv := if cmF s i n = 0 then s.setP i.toNat (s.pi i.toNat + n) (s.po i.toNat) (s.pk i.toNat) else s
def sdF (s : Mv) (i n : Int) : Int := if ptB i = true then Px.sendF (s.pi i.toNat) (s.po i.toNat) (s.pk i.toNat) n else 1
def sdS (s : Mv) (i n : Int) : Mv := if sdF s i n = 0 then s.setP i.toNat (s.pi i.toNat) (s.po i.toNat + n) (s.pk i.toNat) else s
def heardB (i : Int) (k : Bool) : Bool := k || decide (0 < i)
def akF (s : Mv) (i n t : Int) : Int := if ptB i = true then (if heardB (s.pi i.toNat) (s.pk i.toNat) = true then Ox.askF s.os i n t else 5) else 1
def akS (s : Mv) (i n t : Int) : Mv := if akF s i n t = 0 then { s with os := Ox.askL s.os i n t } else s
def anS (s : Mv) (i n t l : Int) : Mv := if Ox.ansB s.os i n t l = true then { s with os := Ox.ansL s.os i n t l, pk := fun k => if k = i.toNat ∧ s.pi k ≠ 0 then true else s.pk k } else s
def mvF (s : Mv) (i : Int) : Int := if ptB i = true then (if s.pk i.toNat = true then (if i = s.wh then 7 else if s.ls.length < 2 then 5 else 0) else 6) else 1
def mvS (s : Mv) (i : Int) : Mv := if mvF s i = 0 then { s with wh := i, ls := s.ls.tail } else s
def whF (s : Mv) : Int := if s.ls.length = 0 then 5 else 0
def whI (s : Mv) : Int := if s.ls.length = 0 then 0 else s.wh
def whQ (s : Mv) : Int := if s.ls.length = 0 then 0 else (Ix.at' s.ls 0).1

/-- What holds of paths whatever is done. -/
def Pok (s : Mv) : Prop := ∀ j, j < 4 → Px.flt (s.pi j) (s.po j) (s.pk j) = 0
theorem Pok.start (L : Int) : Pok (Mv.start L) := fun j hj => by
  match j, hj with
  | 0, _ => show Px.flt 0 0 true = 0; decide
  | 1, _ => show Px.flt 0 0 false = 0; decide
  | 2, _ => show Px.flt 0 0 false = 0; decide
  | 3, _ => show Px.flt 0 0 false = 0; decide
theorem Pok.setP {s : Mv} (h : Pok s) (j : Nat) {a b : Int} {c : Bool} (hf : Px.flt a b c = 0) : Pok (s.setP j a b c) := fun k hk => by
  by_cases e : k = j
  · simp only [Mv.setP, e, if_true]; exact hf
  · simp only [Mv.setP, if_neg e]; exact h k hk
theorem came_flt {i o : Int} {k : Bool} {n : Int} (h : Px.cameF i o k n = 0) : Px.flt (i + n) o k = 0 := by
  unfold Px.cameF at h
  split at h
  · rename_i h0
    split at h
    · rename_i hn
      obtain ⟨hi, ho, hb⟩ := Px.flt_zero h0
      have n0 := (Px.pkB_yes hn.1).1
      have hb2 : ¬ Px.bnd (i + n) k < o := by
        cases k <;> simp only [Px.bnd] at hb ⊢ <;> omega
      unfold Px.flt
      rw [if_pos ⟨hn.2, ho⟩, if_neg hb2]
    · omega
  · contradiction
theorem send_flt {i o : Int} {k : Bool} {n : Int} (h : Px.sendF i o k n = 0) : Px.flt i (o + n) k = 0 := by
  unfold Px.sendF at h
  split at h
  · rename_i h0
    obtain ⟨hi, ho, hb⟩ := Px.flt_zero h0
    split at h
    · rename_i hn
      split at h
      · omega
      · rename_i h2
        unfold Px.flt
        rw [if_pos ⟨hi, hn.2⟩, if_neg h2]
    · omega
  · contradiction
theorem prove_flt {i o : Int} {k : Bool} (h : Px.flt i o k = 0) : Px.flt i o true = 0 := by
  obtain ⟨hi, ho, hb⟩ := Px.flt_zero h
  have := Px.byB_yes ho
  unfold Px.flt
  rw [if_pos ⟨hi, ho⟩, if_neg (by simp only [Px.bnd]; omega)]

def mown (mb ib im : Nat) (iv : Value) (pb pm : Nat) (k : Nat) : Prop := k = mb ∨ Ix.own ib im iv k ∨ Ox.own pb pm k
/-- The block mb holds a Mover; its IDs lie behind ib, what is open behind pb. -/
structure MO (w : World) (B mb ib im : Nat) (iv : Value) (pb pm : Nat) (s : Mv) : Prop where
  ok : Pok s
  ci : ∀ j, j < 4 → w.cell? ⟨mb, j * 3, none⟩ = some (.int .i64 (s.pi j))
  co : ∀ j, j < 4 → w.cell? ⟨mb, j * 3 + 1, none⟩ = some (.int .i64 (s.po j))
  ck : ∀ j, j < 4 → w.cell? ⟨mb, j * 3 + 2, none⟩ = some (.bool (s.pk j))
  ca : w.cell? ⟨mb, 12, none⟩ = some (.int .i64 s.wh)
  cn : w.cell? ⟨mb, 13, none⟩ = some (.pointer (some ⟨ib, 0, none⟩))
  cp : w.cell? ⟨mb, 14, none⟩ = some (.pointer (some ⟨pb, 0, none⟩))
  fr : ∀ j, j < 13 → w.frozen? ⟨mb, j, none⟩ = false
  ids : Ix.Obj w B ib im iv s.L s.ns s.ls
  prf : Ox.Obj w B pb pm s.os
  hm : B ≤ mb
  a1 : ∀ k, Ix.own ib im iv k → k ≠ mb ∧ ¬ Ox.own pb pm k
  a2 : ∀ k, Ox.own pb pm k → k ≠ mb
section
variable {w w' : World} {B mb ib im pb pm : Nat} {iv : Value} {s : Mv}
theorem MO.ltm (h : MO w B mb ib im iv pb pm s) : mb < w.heap.size := World.block_lt_of_cell? w _ h.ca
theorem MO.lt (h : MO w B mb ib im iv pb pm s) {k : Nat} (hk : mown mb ib im iv pb pm k) : k < w.heap.size := by
  rcases hk with rfl | hk | hk
  · exact h.ltm
  · exact h.ids.lt hk
  · exact h.prf.lt hk
theorem MO.ge (h : MO w B mb ib im iv pb pm s) {k : Nat} (hk : mown mb ib im iv pb pm k) : B ≤ k := by
  rcases hk with rfl | hk | hk
  · exact h.hm
  · exact h.ids.ge hk
  · exact h.prf.ge hk
theorem MO.off {K : Nat → Prop} (h : MO w B mb ib im iv pb pm s) (ho : Off K w w') (hK : ∀ k, mown mb ib im iv pb pm k → ¬ K k) : MO w' B mb ib im iv pb pm s := by
  have km := hK mb (.inl rfl)
  have hl := h.ltm
  exact ⟨h.ok, fun j hj => ho.cell (h.ci j hj) km, fun j hj => ho.cell (h.co j hj) km, fun j hj => ho.cell (h.ck j hj) km, ho.cell h.ca km, ho.cell h.cn km, ho.cell h.cp km, fun j hj => (ho.frozen (p := ⟨mb, j, none⟩) hl km).trans (h.fr j hj),
    h.ids.off ho (fun k hk => hK k (.inr (.inl hk))), h.prf.off ho (fun k hk => hK k (.inr (.inr hk))), h.hm, h.a1, h.a2⟩
theorem MO.below (h : MO w B mb ib im iv pb pm s) (hb : Below w.heap.size w w') : MO w' B mb ib im iv pb pm s := h.off (Off.of_below (K := fun _ => False) hb) (fun _ _ => id)
/-- Its IDs alone have turned. -/
theorem MO.turnI {iv' : Value} {ns : List Int} {ls : List Ix.R} (h : MO w B mb ib im iv pb pm s) (hI : Ix.Obj w' B ib im iv' s.L ns ls) (ho : Off (Ix.own ib im iv) w w') (hv : iv'.ownBlock = iv.ownBlock ∨ ∃ k, iv'.ownBlock = some k ∧ w.heap.size ≤ k) :
    MO w' B mb ib im iv' pb pm { s with ns := ns, ls := ls } := by
  have km : ¬ Ix.own ib im iv mb := fun e => (h.a1 mb e).1 rfl
  have kp : ∀ k, Ox.own pb pm k → ¬ Ix.own ib im iv k := fun k hk e => (h.a1 k e).2 hk
  have hl := h.ltm
  refine ⟨h.ok, fun j hj => ho.cell (h.ci j hj) km, fun j hj => ho.cell (h.co j hj) km, fun j hj => ho.cell (h.ck j hj) km, ho.cell h.ca km, ho.cell h.cn km, ho.cell h.cp km, fun j hj => (ho.frozen (p := ⟨mb, j, none⟩) hl km).trans (h.fr j hj),
    hI, h.prf.off ho kp, h.hm, fun k hk => ?_, h.a2⟩
  rcases hk with rfl | rfl | hk
  · exact h.a1 _ (.inl rfl)
  · exact h.a1 _ (.inr (.inl rfl))
  · rcases hv with e | ⟨q, e, hq⟩
    · exact h.a1 k (.inr (.inr (e ▸ hk)))
    · have hkq : k = q := Option.some.inj (hk.symm.trans e)
      exact ⟨by omega, fun hp => by have := h.prf.lt hp; omega⟩
/-- What is open alone has turned. -/
theorem MO.turnP {os : List Ox.T} (h : MO w B mb ib im iv pb pm s) (hP : Ox.Obj w' B pb pm os) (ho : Off (Ox.own pb pm) w w') : MO w' B mb ib im iv pb pm { s with os := os } := by
  have km : ¬ Ox.own pb pm mb := fun e => h.a2 mb e rfl
  have kp : ∀ k, Ix.own ib im iv k → ¬ Ox.own pb pm k := fun k hk => (h.a1 k hk).2
  have hl := h.ltm
  exact ⟨h.ok, fun j hj => ho.cell (h.ci j hj) km, fun j hj => ho.cell (h.co j hj) km, fun j hj => ho.cell (h.ck j hj) km, ho.cell h.ca km, ho.cell h.cn km, ho.cell h.cp km, fun j hj => (ho.frozen (p := ⟨mb, j, none⟩) hl km).trans (h.fr j hj),
    h.ids.off ho kp, hP, h.hm, h.a1, h.a2⟩
/-- A path is stored. -/
theorem MO.set (h : MO w B mb ib im iv pb pm s) (j : Nat) (hj : j < 4) {a b : Int} {c : Bool} (hf : Px.flt a b c = 0) :
    MO (((w.setCell ⟨mb, j * 3, none⟩ (.int .i64 a)).setCell ⟨mb, j * 3 + 1, none⟩ (.int .i64 b)).setCell ⟨mb, j * 3 + 2, none⟩ (.bool c)) B mb ib im iv pb pm (s.setP j a b c) := by
  have hl := h.ltm
  have o1 : Off (fun k => k = mb) w (((w.setCell ⟨mb, j * 3, none⟩ (.int .i64 a)).setCell ⟨mb, j * 3 + 1, none⟩ (.int .i64 b)).setCell ⟨mb, j * 3 + 2, none⟩ (.bool c)) :=
    (((Off.refl _ _).setCell (K := fun k => k = mb) rfl _).setCell (K := fun k => k = mb) rfl _).setCell (K := fun k => k = mb) rfl _
  have far : ∀ q, q ≠ j * 3 → q ≠ j * 3 + 1 → q ≠ j * 3 + 2 → (((w.setCell ⟨mb, j * 3, none⟩ (.int .i64 a)).setCell ⟨mb, j * 3 + 1, none⟩ (.int .i64 b)).setCell ⟨mb, j * 3 + 2, none⟩ (.bool c)).cell? ⟨mb, q, none⟩ = w.cell? ⟨mb, q, none⟩ := fun q h0 h1 h2 => by
    rw [World.cell?_setCell_other _ _ _ _ (by simp <;> omega), World.cell?_setCell_other _ _ _ _ (by simp <;> omega), World.cell?_setCell_other _ _ _ _ (by simp <;> omega)]
  have b0 : (w.setCell ⟨mb, j * 3, none⟩ (.int .i64 a)).cell? ⟨mb, j * 3 + 1, none⟩ = some (.int .i64 (s.po j)) := by rw [World.cell?_setCell_other _ _ _ _ (by simp)]; exact h.co j hj
  have b1 : ((w.setCell ⟨mb, j * 3, none⟩ (.int .i64 a)).setCell ⟨mb, j * 3 + 1, none⟩ (.int .i64 b)).cell? ⟨mb, j * 3 + 2, none⟩ = some (.bool (s.pk j)) := by
    rw [World.cell?_setCell_other _ _ _ _ (by simp), World.cell?_setCell_other _ _ _ _ (by simp)]; exact h.ck j hj
  refine ⟨h.ok.setP j hf, fun k hk => ?_, fun k hk => ?_, fun k hk => ?_, ?_, ?_, ?_, fun k hk => by simpa using h.fr k hk, h.ids.off o1 (fun k hk => (h.a1 k hk).1), h.prf.off o1 (fun k hk => h.a2 k hk), h.hm, h.a1, h.a2⟩
  · by_cases e : k = j
    · subst e
      simp only [Mv.setP, if_true]
      rw [World.cell?_setCell_other _ _ _ _ (by simp), World.cell?_setCell_other _ _ _ _ (by simp)]
      exact World.cell?_setCell_same _ _ _ (h.ci k hk)
    · simp only [Mv.setP, if_neg e]
      rw [far _ (by omega) (by omega) (by omega)]; exact h.ci k hk
  · by_cases e : k = j
    · subst e
      simp only [Mv.setP, if_true]
      rw [World.cell?_setCell_other _ _ _ _ (by simp)]
      exact World.cell?_setCell_same _ _ _ b0
    · simp only [Mv.setP, if_neg e]
      rw [far _ (by omega) (by omega) (by omega)]; exact h.co k hk
  · by_cases e : k = j
    · subst e
      simp only [Mv.setP, if_true]
      exact World.cell?_setCell_same _ _ _ b1
    · simp only [Mv.setP, if_neg e]
      rw [far _ (by omega) (by omega) (by omega)]; exact h.ck k hk
  · rw [far _ (by omega) (by omega) (by omega)]; exact h.ca
  · rw [far _ (by omega) (by omega) (by omega)]; exact h.cn
  · rw [far _ (by omega) (by omega) (by omega)]; exact h.cp
theorem MO.drew (h : MO w B mb ib im iv pb pm s) : MO w.drew B mb ib im iv pb pm s := h.below ⟨rfl, rfl, rfl, Nat.le_refl _, fun _ _ => rfl⟩
/-- Where it is, is stored. -/
theorem MO.go (h : MO w B mb ib im iv pb pm s) (i : Int) : MO (w.setCell ⟨mb, 12, none⟩ (.int .i64 i)) B mb ib im iv pb pm { s with wh := i } := by
  have o1 : Off (fun k => k = mb) w (w.setCell ⟨mb, 12, none⟩ (.int .i64 i)) := (Off.refl _ _).setCell (K := fun k => k = mb) rfl _
  have far : ∀ q, q ≠ 12 → (w.setCell ⟨mb, 12, none⟩ (.int .i64 i)).cell? ⟨mb, q, none⟩ = w.cell? ⟨mb, q, none⟩ := fun q h0 => by rw [World.cell?_setCell_other _ _ _ _ (by simp <;> omega)]
  refine ⟨h.ok, fun k hk => ?_, fun k hk => ?_, fun k hk => ?_, World.cell?_setCell_same _ _ _ h.ca, ?_, ?_, fun k hk => by simpa using h.fr k hk, h.ids.off o1 (fun k hk => (h.a1 k hk).1), h.prf.off o1 (fun k hk => h.a2 k hk), h.hm, h.a1, h.a2⟩
  · rw [far _ (by omega)]; exact h.ci k hk
  · rw [far _ (by omega)]; exact h.co k hk
  · rw [far _ (by omega)]; exact h.ck k hk
  · rw [far _ (by omega)]; exact h.cn
  · rw [far _ (by omega)]; exact h.cp
end
end Go.Proofs.YtpnblfabdioanaaDoor
