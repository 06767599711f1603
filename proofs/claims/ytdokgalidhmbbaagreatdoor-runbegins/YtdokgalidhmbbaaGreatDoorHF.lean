/- What the laws of package run need. -/
import Derived.Test.YtdokgalidhmbbaaGreatDoorHA
import Derived.Deep.LoopGhost
import Derived.Lib.UnsafeStr
import Derived.Lib.BufferWrite
import Derived.Laws.MakeOwn
import Derived.OrdersHeld
import Derived.Deep.RegionHeld
import Derived.Maps.AppendAt
import Derived.Deep.Cut
set_option linter.unusedVariables false
set_option linter.unusedSimpArgs false
set_option maxRecDepth 100000
set_option maxHeartbeats 8000000
namespace Go.Proofs.YtdokgalidhmbbaaGreatDoor
open Go.RowKit Go.Lib Go.Sort


/-- So many numbers that bytes begin with, and how many bytes these are. -/
def tk : Nat → List Int → Option (List Int × Nat)
  | 0, _ => some ([], 0)
  | k + 1, l => match V.getI l with
    | none => none
    | some x => (tk k (l.drop x.2.toNat)).map fun y => (x.1 :: y.1, x.2.toNat + y.2)
/-- So many more, behind A bytes of which ns were read. -/
def tkA (k : Nat) (ns : List Int) (A : Nat) (l : List Int) : Option (List Int × Nat) := (tk k (l.drop A)).map fun y => (ns ++ y.1, A + y.2)
theorem tkA_start (k : Nat) (l : List Int) : tkA k [] 0 l = tk k l := by
  unfold tkA
  rw [List.drop_zero]
  cases tk k l with
  | none => rfl
  | some y => simp
theorem tkA_zero (ns : List Int) (A : Nat) (l : List Int) : tkA 0 ns A l = some (ns, A) := by simp [tkA, tk]
theorem tkA_none {k : Nat} {ns : List Int} {A : Nat} {l : List Int} (h : V.getI (l.drop A) = none) : tkA (k + 1) ns A l = none := by simp [tkA, tk, h]
theorem tkA_some {k : Nat} {ns : List Int} {A : Nat} {l : List Int} {n c : Int} (h : V.getI (l.drop A) = some (n, c)) : tkA (k + 1) ns A l = tkA k (ns ++ [n]) (A + c.toNat) l := by
  unfold tkA
  simp only [tk, h, List.drop_drop, Option.map_map]
  cases tk k (l.drop (A + c.toNat)) with
  | none => rfl
  | some y => simp [Nat.add_assoc]
theorem tk_inv : ∀ (k : Nat) (l ns : List Int) (c : Nat), Bytes l → tk k l = some (ns, c) → ns.length = k ∧ Mays ns ∧ l = ns.flatMap V.nums ++ l.drop c ∧ c = (ns.flatMap V.nums).length := by
  intro k
  induction k with
  | zero =>
    intro l ns c _ h
    simp [tk] at h
    obtain ⟨rfl, rfl⟩ := h
    exact ⟨rfl, fun z hz => by simp at hz, by simp, rfl⟩
  | succ k ih =>
    intro l ns c hl h
    cases hg : V.getI l with
    | none => simp [tk, hg] at h
    | some x =>
      obtain ⟨n, d⟩ := x
      obtain ⟨hm, hd, he⟩ := getI_inv hl hg
      cases hr : tk k (l.drop d.toNat) with
      | none => simp [tk, hg, hr] at h
      | some y =>
        obtain ⟨ms, e⟩ := y
        simp [tk, hg, hr] at h
        obtain ⟨rfl, rfl⟩ := h
        obtain ⟨i1, i2, i3, i4⟩ := ih _ _ _ (bytes_drop hl _) hr
        have hdl : d.toNat = (V.nums n).length := by have := nums_lng n; omega
        refine ⟨by simp [i1], fun z hz => ?_, ?_, by simp only [List.flatMap_cons, List.length_append]; omega⟩
        · rcases List.mem_cons.1 hz with rfl | hz
          · exact (mayB_iff _).1 hm
          · exact i2 z hz
        · rw [List.flatMap_cons, List.append_assoc, ← List.drop_drop, ← i3]
          exact he
theorem tk_le {k : Nat} {l ns : List Int} {c : Nat} (hl : Bytes l) (h : tk k l = some (ns, c)) : c ≤ l.length := by
  obtain ⟨_, _, h3, h4⟩ := tk_inv k l ns c hl h
  have := congrArg List.length h3
  simp only [List.length_append, ← h4] at this
  omega
theorem tk_take {k : Nat} {l ns : List Int} {c : Nat} (hl : Bytes l) (h : tk k l = some (ns, c)) : l.take c = ns.flatMap V.nums := by
  obtain ⟨_, _, h3, h4⟩ := tk_inv k l ns c hl h
  rw [h3, h4]; simp
/-- The ranges of an Ack's numbers, Hi and Lo each; the numbers of ranges. -/
def rgs : List Int → List R
  | hi :: lo :: rest => (lo, hi) :: rgs rest
  | _ => []
def unr : List R → List Int
  | [] => []
  | r :: rs => r.2 :: r.1 :: unr rs
theorem rgs_unr : ∀ zs : List R, rgs (unr zs) = zs
  | [] => rfl
  | r :: rs => by simp [unr, rgs, rgs_unr rs]
theorem unr_length : ∀ zs : List R, (unr zs).length = 2 * zs.length
  | [] => rfl
  | r :: rs => by simp only [unr, List.length_cons, unr_length rs]; omega
theorem unr_rgs : ∀ (k : Nat) (l : List Int), l.length = 2 * k → unr (rgs l) = l := by
  intro k
  induction k with
  | zero =>
    intro l hl
    obtain rfl : l = [] := List.eq_nil_of_length_eq_zero (by omega)
    rfl
  | succ k ih =>
    intro l hl
    match l, hl with
    | [], hl => simp at hl
    | [a], hl => simp at hl; omega
    | a :: b :: l, hl => simp only [rgs, unr, ih l (by simp at hl; omega)]
theorem unr_append : ∀ (a b : List R), unr (a ++ b) = unr a ++ unr b
  | [], b => rfl
  | r :: rs, b => by simp [unr, unr_append rs b]
theorem rgs_length : ∀ (k : Nat) (l : List Int), l.length = 2 * k → (rgs l).length = k := by
  intro k l hl
  have := unr_length (rgs l)
  rw [unr_rgs k l hl] at this
  omega
theorem unr_mays {zs : List R} (h : Good zs) : Mays (unr zs) := by
  obtain ⟨h1, h2, h3⟩ := h
  have hle : ∀ r, r ∈ zs → r.1 ≤ r.2 := norm_le h3
  clear h3 h1
  induction zs with
  | nil => intro z hz; simp [unr] at hz
  | cons r rs ih =>
    intro z hz
    have b := h2 r (by simp)
    have c := hle r (by simp)
    simp only [unr, List.mem_cons] at hz
    rcases hz with rfl | rfl | hz
    · omega
    · omega
    · exact ih (fun s hs => h2 s (by simp [hs])) (fun s hs => hle s (by simp [hs])) z hz

/-- How many numbers a frame of a kind other than an Ack has. -/
def cntK (k : Int) : Nat := if k = 1 then 0 else if k = 7 then 2 else 1
def kindB (k : Int) : Bool := decide (1 ≤ k ∧ k ≤ 8)
def cntB (k : Int) (n : Nat) : Bool := if k = 2 then decide (0 < n ∧ n % 2 = 0 ∧ n ≤ 24) else decide (n = cntK k)
def anyB (ns : List Int) : Bool := ns.any fun n => !V.mayB n
/-- What is wrong with a frame. -/
def frF (k : Int) (ns : List Int) (d : ByteArray) : Int :=
  if kindB k = false then 1 else if cntB k ns.length = false then 3 else if k ≠ 3 ∧ d.size ≠ 0 then 3 else if anyB ns = true then 1 else if 20 < d.size then 4 else if k = 2 ∧ chk (rgs ns) ≠ 0 then 3 else 0
/-- The bytes between a frame's kind and its data. -/
def mid (k : Int) (ns : List Int) (d : ByteArray) : List Int := if k = 2 then enc (rgs ns) else if k = 3 then (ns ++ [(d.size : Int)]).flatMap V.nums else ns.flatMap V.nums
def frB (k : Int) (ns : List Int) (d : ByteArray) : List Int := k :: mid k ns d ++ V.ints d
def frS (k : Int) (ns : List Int) (d : ByteArray) : ByteArray := strOfNums [k] ++ strOfNums (mid k ns d) ++ d
/-- The ranges that bytes begin with, and how many bytes these are. -/
def rdAck (l : List Int) : Option (List R × Nat) := (tk 3 l).bind fun x => match x.1 with
  | [a, m, d] => if 12 ≤ m then none else (tk (2 * m.toNat) (l.drop x.2)).bind fun y => if 0 ≤ lastLo (a - d) y.1 then some ((a - d, a) :: pairs (a - d) y.1, x.2 + y.2) else none
  | _ => none
def rdNums (k : Int) (l : List Int) : Option (List Int × Nat) := if k = 2 then (rdAck l).map fun x => (unr x.1, x.2) else tk (cntK k) l
/-- How many bytes a Stream has, and how many bytes tell it. -/
def rdPiece (l : List Int) : Option (Nat × Nat) := match V.getI l with
  | none => none
  | some x => if 20 < x.1 ∨ (l.length : Int) < x.2 + x.1 then none else some (x.1.toNat, x.2.toNat)
/-- The frame that bytes begin with, and how many these are. -/
def rdF (s : ByteArray) : Option ((Int × List Int × ByteArray) × Nat) := match V.ints s with
  | [] => none
  | k :: l => if kindB k = false then none else (rdNums k l).bind fun x =>
    if k = 3 then (rdPiece (l.drop x.2)).map fun y => ((k, x.1, s.extract (1 + x.2 + y.2) (1 + x.2 + y.2 + y.1)), 1 + x.2 + y.2 + y.1)
    else some ((k, x.1, { data := #[] }), 1 + x.2)

theorem anyB_no {ns : List Int} : anyB ns = false ↔ Mays ns := by
  unfold anyB Mays
  rw [List.any_eq_false]
  constructor
  · intro h z hz
    have := h z hz
    simp at this
    exact (mayB_iff z).1 this
  · intro h z hz
    simp [(mayB_iff z).2 (h z hz)]
theorem frF_ok {k : Int} {ns : List Int} {d : ByteArray} (h : frF k ns d = 0) : kindB k = true ∧ cntB k ns.length = true ∧ (k ≠ 3 → d.size = 0) ∧ Mays ns ∧ d.size ≤ 20 ∧ (k = 2 → Good (rgs ns)) := by
  unfold frF at h
  split at h
  · cases h
  · rename_i h1
    split at h
    · cases h
    · rename_i h2
      split at h
      · cases h
      · rename_i h3
        split at h
        · cases h
        · rename_i h4
          split at h
          · cases h
          · rename_i h5
            split at h
            · cases h
            · rename_i h6
              refine ⟨by simpa using h1, by simpa using h2, fun e => ?_, anyB_no.1 (by simpa using h4), by omega, fun e => ?_⟩
              · by_cases z : d.size = 0
                · exact z
                · exact absurd ⟨e, z⟩ h3
              · by_cases z : chk (rgs ns) = 0
                · exact (chk_ok _).1 z
                · exact absurd ⟨e, z⟩ h6
theorem frF_zero {k : Int} {ns : List Int} {d : ByteArray} (h1 : kindB k = true) (h2 : cntB k ns.length = true) (h3 : k ≠ 3 → d.size = 0) (h4 : Mays ns) (h5 : d.size ≤ 20) (h6 : k = 2 → Good (rgs ns)) : frF k ns d = 0 := by
  unfold frF
  rw [if_neg (by simp [h1]), if_neg (by simp [h2]), if_neg (by rintro ⟨a, b⟩; exact b (h3 a)), if_neg (by rw [anyB_no.2 h4]; simp), if_neg (by omega), if_neg (by rintro ⟨a, b⟩; exact b ((chk_ok _).2 (h6 a)))]
theorem kindB_iff (k : Int) : kindB k = true ↔ 1 ≤ k ∧ k ≤ 8 := by simp [kindB]

theorem rdAck_inv {l : List Int} {zs : List R} {c : Nat} (hl : Bytes l) (h : rdAck l = some (zs, c)) : zs ≠ [] ∧ Good zs ∧ l.take c = enc zs ∧ c ≤ l.length := by
  unfold rdAck at h
  cases h1 : tk 3 l with
  | none => rw [h1] at h; cases h
  | some x =>
    obtain ⟨ns, c1⟩ := x
    rw [h1] at h
    obtain ⟨i1, i2, i3, i4⟩ := tk_inv 3 l ns c1 hl h1
    match ns, i1, h with
    | [a, m, d], i1, h =>
      simp only [Option.bind_some] at h
      split at h
      · cases h
      · rename_i hm
        have m0 := (i2 m (by simp)).1
        cases h2 : tk (2 * m.toNat) (l.drop c1) with
        | none => rw [h2] at h; cases h
        | some y =>
          obtain ⟨ms, c2⟩ := y
          rw [h2] at h
          simp only [Option.bind_some] at h
          obtain ⟨j1, j2, j3, j4⟩ := tk_inv _ _ _ _ (bytes_drop hl _) h2
          split at h
          · rename_i hlo
            cases h
            have hp : parseN (a :: m :: d :: ms) = some ((a - d, a) :: pairs (a - d) ms) := by
              simp only [parseN]; rw [if_pos ⟨by omega, hlo⟩]
            have hmm : Mays (a :: m :: d :: ms) := by
              intro z hz
              rcases List.mem_cons.1 hz with rfl | hz
              · exact i2 _ (by simp)
              rcases List.mem_cons.1 hz with rfl | hz
              · exact i2 _ (by simp)
              rcases List.mem_cons.1 hz with rfl | hz
              · exact i2 _ (by simp)
              · exact j2 z hz
            obtain ⟨k1, k2, k3⟩ := parseN_inv hmm (by simp; omega) hp
            have t2 := tk_le (bytes_drop hl _) h2
            have t1 := tk_le hl h1
            rw [List.length_drop] at t2
            refine ⟨k1, k2, ?_, by omega⟩
            unfold enc
            rw [← k3, List.take_add, tk_take hl h1, tk_take (bytes_drop hl _) h2]
            simp only [List.flatMap_cons, List.flatMap_nil, List.append_nil, List.append_assoc]
          · cases h
theorem cntB_ack {n : Nat} (h : cntB 2 n = true) : ∃ j, n = 2 * j ∧ 1 ≤ j ∧ j ≤ 12 := by
  simp [cntB] at h
  exact ⟨n / 2, by omega, by omega, by omega⟩
theorem rdNums_inv {k : Int} {l ns : List Int} {c : Nat} (hl : Bytes l) (h : rdNums k l = some (ns, c)) : cntB k ns.length = true ∧ Mays ns ∧ (k = 2 → Good (rgs ns)) ∧ l.take c = (if k = 2 then enc (rgs ns) else ns.flatMap V.nums) ∧ c ≤ l.length := by
  unfold rdNums at h
  split at h
  · rename_i hk
    cases h1 : rdAck l with
    | none => rw [h1] at h; cases h
    | some x =>
      obtain ⟨zs, e⟩ := x
      rw [h1] at h
      simp only [Option.map_some, Option.some.injEq, Prod.mk.injEq] at h
      obtain ⟨rfl, rfl⟩ := h
      obtain ⟨i1, i2, i3, i4⟩ := rdAck_inv hl h1
      have hz : zs.length ≠ 0 := fun e => i1 (List.eq_nil_of_length_eq_zero e)
      refine ⟨?_, unr_mays i2, fun _ => by rw [rgs_unr]; exact i2, by rw [if_pos hk, rgs_unr]; exact i3, i4⟩
      have := i2.1
      simp only [cntB, if_pos hk, unr_length]
      exact decide_eq_true (by omega)
  · rename_i hk
    obtain ⟨i1, i2, i3, i4⟩ := tk_inv _ _ _ _ hl h
    exact ⟨by simp [cntB, hk, i1], i2, fun e => absurd e hk, by rw [if_neg hk]; exact tk_take hl h, tk_le hl h⟩
theorem ints_size (s : ByteArray) : (V.ints s).length = s.size := ints_length s
theorem ints_extract (s : ByteArray) (a b : Nat) : V.ints (s.extract a b) = ((V.ints s).drop a).take (b - a) := by
  obtain ⟨⟨l⟩⟩ := s
  simp only [V.ints, ByteArray.extract, ByteArray.copySlice, ByteArray.empty]
  simp [List.map_drop, List.map_take, List.take_drop]
  try (by_cases h : a ≤ b
       · rw [show a + (b - a) = b by omega]
       · rw [show a + (b - a) = a by omega]; simp; try omega)
theorem bytes_mid {k : Int} {ns : List Int} {d : ByteArray} (h : frF k ns d = 0) : Bytes (mid k ns d) := by
  obtain ⟨h1, h2, h3, h4, h5, h6⟩ := frF_ok h
  unfold mid
  split
  · rename_i hk; exact bytes_enc (h6 hk)
  · split
    · refine bytes_nums fun z hz => ?_
      rcases List.mem_append.1 hz with hz | hz
      · exact h4 z hz
      · simp at hz; subst hz; omega
    · exact bytes_nums h4
theorem ints_frS {k : Int} {ns : List Int} {d : ByteArray} (h : frF k ns d = 0) : V.ints (frS k ns d) = frB k ns d := by
  have hk := (kindB_iff k).1 (frF_ok h).1
  unfold frS frB
  rw [V.ints_app, V.ints_app, V.ints_nums [k] (by intro z hz; simp at hz; subst hz; omega), V.ints_nums _ (bytes_mid h)]
  simp

/-- What is read is right, and is just the bytes that it was read of. -/
theorem rdF_inv {s : ByteArray} {k : Int} {ns : List Int} {d : ByteArray} {n : Nat} (h : rdF s = some ((k, ns, d), n)) : frF k ns d = 0 ∧ 1 ≤ n ∧ n ≤ s.size ∧ s.extract 0 n = frS k ns d := by
  have hby := bytes_ints s
  have hsz := ints_size s
  unfold rdF at h
  split at h
  · cases h
  · rename_i j l hs
    rw [hs] at hby hsz
    have hl : Bytes l := fun z hz => hby z (by simp [hz])
    simp only [List.length_cons] at hsz
    split at h
    · cases h
    · rename_i hkb
      have hkb' : kindB j = true := by simpa using hkb
      cases h1 : rdNums j l with
      | none => rw [h1] at h; cases h
      | some x =>
        obtain ⟨ms, c⟩ := x
        rw [h1] at h
        simp only [Option.bind_some] at h
        obtain ⟨i1, i2, i3, i4, i5⟩ := rdNums_inv hl h1
        split at h
        · rename_i hj
          unfold rdPiece at h
          cases hg : V.getI (l.drop c) with
          | none => rw [hg] at h; cases h
          | some y =>
            obtain ⟨q, e⟩ := y
            rw [hg] at h
            obtain ⟨g1, g2, g3⟩ := getI_inv (bytes_drop hl _) hg
            have gm := (mayB_iff _).1 g1
            have gl := V.lng_bd q
            simp only at h
            split at h
            · cases h
            · rename_i hq
              simp only [Option.map_some, Option.some.injEq, Prod.mk.injEq] at h
              obtain ⟨⟨rfl, rfl, rfl⟩, rfl⟩ := h
              rw [List.length_drop] at hq
              have hds : (s.extract (1 + c + e.toNat) (1 + c + e.toNat + q.toNat)).size = q.toNat := by
                rw [ByteArray.size_extract]; omega
              have hf : frF j ms (s.extract (1 + c + e.toNat) (1 + c + e.toNat + q.toNat)) = 0 :=
                frF_zero hkb' i1 (fun e => absurd hj e) i2 (by omega) i3
              refine ⟨hf, by omega, by omega, ?_⟩
              apply ints_inj
              rw [ints_frS hf, ints_extract, hs]
              simp only [frB, mid, hds]
              rw [if_neg (by omega), if_pos hj, ints_extract, hs]
              rw [if_neg (by omega)] at i4
              have e1 : e.toNat = (V.nums q).length := by have := nums_lng q; omega
              have e2 : ((q.toNat : Nat) : Int) = q := by omega
              have l1 : l = ms.flatMap V.nums ++ l.drop c := by rw [← i4, List.take_append_drop]
              have l2 : l.drop c = V.nums q ++ l.drop (c + e.toNat) := by rw [← List.drop_drop]; exact g3
              have hc : c = (ms.flatMap V.nums).length := by rw [← i4, List.length_take]; omega
              have d1 : (j :: l).drop (1 + c + e.toNat) = l.drop (c + e.toNat) := by
                rw [show 1 + c + e.toNat = (c + e.toNat) + 1 by omega]; rfl
              rw [d1, e2, show 1 + c + e.toNat + q.toNat - (1 + c + e.toNat) = q.toNat by omega, show 1 + c + e.toNat + q.toNat - 0 = (c + e.toNat + q.toNat) + 1 by omega]
              simp only [List.drop_zero, List.take_succ_cons, List.flatMap_append, List.flatMap_cons, List.flatMap_nil, List.append_nil, List.cons_append, List.cons.injEq, true_and]
              conv => lhs; rw [l1, l2, ← List.append_assoc]
              rw [show c + e.toNat + q.toNat = (ms.flatMap V.nums ++ V.nums q).length + q.toNat by rw [List.length_append]; omega, List.take_length_add_append]
        · rename_i hj
          simp only [Option.some.injEq, Prod.mk.injEq] at h
          obtain ⟨⟨rfl, rfl, rfl⟩, rfl⟩ := h
          have hf : frF j ms { data := #[] } = 0 := frF_zero hkb' i1 (fun _ => rfl) i2 (by decide) i3
          refine ⟨hf, by omega, by omega, ?_⟩
          apply ints_inj
          rw [ints_frS hf, ints_extract, hs]
          simp only [frB, mid]
          rw [show 1 + c - 0 = c + 1 by omega]
          simp only [List.drop_zero, List.take_succ_cons]
          have e0 : V.ints { data := #[] } = [] := rfl
          rw [i4, e0]
          by_cases h2 : j = 2
          · rw [if_pos h2, if_pos h2]; simp
          · rw [if_neg h2, if_neg h2, if_neg hj]; simp


/-- The table of counts, as the program's text lays it. -/
structure Cnts (w : World) : Prop where
  c0 : w.cell? ⟨9, 0, none⟩ = some (.int .i64 0)
  c1 : w.cell? ⟨9, 1, none⟩ = some (.int .i64 0)
  c2 : w.cell? ⟨9, 2, none⟩ = some (.int .i64 0)
  c3 : w.cell? ⟨9, 3, none⟩ = some (.int .i64 1)
  c4 : w.cell? ⟨9, 4, none⟩ = some (.int .i64 1)
  c5 : w.cell? ⟨9, 5, none⟩ = some (.int .i64 1)
  c6 : w.cell? ⟨9, 6, none⟩ = some (.int .i64 1)
  c7 : w.cell? ⟨9, 7, none⟩ = some (.int .i64 2)
  c8 : w.cell? ⟨9, 8, none⟩ = some (.int .i64 1)
  pos : 9 < w.heap.size
theorem Cnts.below {w w' : World} (h : Cnts w) (hb : Below w.heap.size w w') : Cnts w' :=
  ⟨(hb.cell (p := ⟨9, 0, none⟩) h.pos).trans h.c0, (hb.cell (p := ⟨9, 1, none⟩) h.pos).trans h.c1, (hb.cell (p := ⟨9, 2, none⟩) h.pos).trans h.c2, (hb.cell (p := ⟨9, 3, none⟩) h.pos).trans h.c3, (hb.cell (p := ⟨9, 4, none⟩) h.pos).trans h.c4, (hb.cell (p := ⟨9, 5, none⟩) h.pos).trans h.c5, (hb.cell (p := ⟨9, 6, none⟩) h.pos).trans h.c6, (hb.cell (p := ⟨9, 7, none⟩) h.pos).trans h.c7, (hb.cell (p := ⟨9, 8, none⟩) h.pos).trans h.c8, Nat.lt_of_lt_of_le h.pos hb.size⟩

def ICells (w : World) (b off : Nat) (zs : List Int) : Prop := ∀ j, j < zs.length → w.cell? ⟨b, off + j, none⟩ = some (.int .i64 (zs[j]?.getD 0))
/-- The slice's value v holds the integers zs in the world w. -/
def IRow (w : World) (v : Value) (zs : List Int) : Prop := ∃ ao c, v = .slice ao zs.length c ∧ zs.length ≤ 9223372036854775807 ∧ zs.length ≤ c ∧ (zs = [] ∨ ∃ b off, ao = some ⟨b, off, none⟩ ∧ b < w.heap.size ∧ ICells w b off zs)
theorem ICells.below {w w' : World} {b off : Nat} {zs : List Int} (h : ICells w b off zs) (hb : b < w.heap.size) (bel : Below w.heap.size w w') : ICells w' b off zs := fun j hj =>
  (bel.cell (p := ⟨b, off + j, none⟩) hb).trans (h j hj)
theorem IRow.below {w w' : World} {v : Value} {zs : List Int} (h : IRow w v zs) (bel : Below w.heap.size w w') : IRow w' v zs := by
  obtain ⟨ao, c, rfl, hl, hn, h⟩ := h
  refine ⟨ao, c, rfl, hl, hn, ?_⟩
  rcases h with h | ⟨b, off, rfl, hb, hc⟩
  · exact .inl h
  · exact .inr ⟨b, off, rfl, Nat.lt_of_lt_of_le hb bel.size, hc.below hb bel⟩
theorem IRow.nil (w : World) : IRow w (.slice none 0 0) [] := ⟨none, 0, rfl, by simp, by simp, .inl rfl⟩
theorem irow_of_own {w : World} {base : Nat} {v : Value} {zs : List Int} (h : OwnI w base v zs) (hl : zs.length ≤ 1000000) : IRow w v zs := by
  by_cases h0 : zs = []
  · subst h0
    rcases h.2 with ⟨rfl, _⟩ | ⟨g, cap, cur, rfl, _⟩
    · exact IRow.nil w
    · exact ⟨_, cap, rfl, by simp, by simp, .inl rfl⟩
  · obtain ⟨g, cap, rfl, hc, _, hg⟩ := h.form h0
    exact ⟨_, cap, rfl, by omega, hc, .inr ⟨g, 0, rfl, hg, fun j hj => by rw [Nat.zero_add]; exact h.cell j hj⟩⟩
theorem str_ne {d : ByteArray} (h : d.size ≠ 0) : (d.toList == []) = false := by
  rw [ByteArray.toList_eq]
  obtain ⟨⟨l⟩⟩ := d
  cases l with
  | nil => exact absurd rfl h
  | cons b l => rfl
theorem str_nil {d : ByteArray} (h : d.size = 0) : d = { data := #[] } := by
  obtain ⟨⟨l⟩⟩ := d
  cases l with
  | nil => rfl
  | cons b l => exact absurd h (by show l.length + 1 ≠ 0; omega)

set_option maxRecDepth 100000 in
set_option maxHeartbeats 4000000 in
theorem isKind_calls (k : Int) (w : World) : Calls Tryz.prog 207 #[.int .i64 k] w fun e w' => e = .returned (.bool (kindB k)) ∧ w' = w := by
  by_cases h1 : 1 ≤ k
  · by_cases h2 : k ≤ 8
    · have e : kindB k = true := (kindB_iff k).2 ⟨h1, h2⟩
      rw [e]
      go_enter Tryz.func207, Tryz.ntmps207
      go_wp2
      go_ret
      exact ⟨by simp [h2], rfl⟩
    · have e : kindB k = false := by simp [kindB]; omega
      rw [e]
      go_enter Tryz.func207, Tryz.ntmps207
      go_wp2
      go_ret
      exact ⟨by simp [h2], rfl⟩
  · have e : kindB k = false := by simp [kindB]; omega
    rw [e]
    go_enter Tryz.func207, Tryz.ntmps207
    go_wp2
    go_ret
    exact ⟨rfl, rfl⟩

set_option maxRecDepth 100000 in
set_option maxHeartbeats 4000000 in
theorem isCount_ack (n : Nat) (w : World) (hl : n ≤ 9223372036854775807) : Calls Tryz.prog 220 #[.int .i64 2, .int .i64 (n : Int)] w fun e w' => e = .returned (.bool (cntB 2 n)) ∧ w' = w := by
  have e : Hid (cntB 2 n = decide (0 < n ∧ n % 2 = 0 ∧ n ≤ 24)) := by show _ = _; simp [cntB]
  have em : (n : Int).tmod 2 = (n : Int) % 2 := Int.tmod_eq_emod_of_nonneg (by omega)
  by_cases h0 : 0 < n
  · have g0 : (0 : Int) < (n : Int) := by omega
    by_cases h1 : n % 2 = 0
    · have g1 : (n : Int).tmod 2 = 0 := by rw [em]; omega
      clear em
      go_enter Tryz.func220, Tryz.ntmps220
      go_wp2
      go_ret
      exact ⟨by rw [e.out]; by_cases h2 : n ≤ 24 <;> simp [h0, h1, h2] <;> omega, rfl⟩
    · have g1 : ¬ (n : Int).tmod 2 = 0 := by rw [em]; omega
      clear em
      go_enter Tryz.func220, Tryz.ntmps220
      go_wp2
      go_ret
      exact ⟨by rw [e.out]; simp [h1], rfl⟩
  · have g0 : ¬ (0 : Int) < (n : Int) := by omega
    go_enter Tryz.func220, Tryz.ntmps220
    go_wp2
    go_ret
    exact ⟨by rw [e.out]; simp [h0], rfl⟩

set_option maxRecDepth 100000 in
set_option maxHeartbeats 4000000 in
theorem isCount_1 (n : Nat) (w : World) (hC : Cnts w) (hl : n ≤ 9223372036854775807) : Calls Tryz.prog 220 #[.int .i64 1, .int .i64 (n : Int)] w fun e w' => e = .returned (.bool (cntB 1 n)) ∧ w' = w := by
  have e : cntB 1 n = decide (n = 0) := by simp [cntB, cntK]
  have hc := hC.c1
  go_enter Tryz.func220, Tryz.ntmps220
  go_wp2
  go_ret
  exact ⟨by rw [e]; by_cases h : n = 0 <;> simp [h] <;> omega, rfl⟩

set_option maxRecDepth 100000 in
set_option maxHeartbeats 4000000 in
theorem isCount_3 (n : Nat) (w : World) (hC : Cnts w) (hl : n ≤ 9223372036854775807) : Calls Tryz.prog 220 #[.int .i64 3, .int .i64 (n : Int)] w fun e w' => e = .returned (.bool (cntB 3 n)) ∧ w' = w := by
  have e : cntB 3 n = decide (n = 1) := by simp [cntB, cntK]
  have hc := hC.c3
  go_enter Tryz.func220, Tryz.ntmps220
  go_wp2
  go_ret
  exact ⟨by rw [e]; by_cases h : n = 1 <;> simp [h] <;> omega, rfl⟩

set_option maxRecDepth 100000 in
set_option maxHeartbeats 4000000 in
theorem isCount_4 (n : Nat) (w : World) (hC : Cnts w) (hl : n ≤ 9223372036854775807) : Calls Tryz.prog 220 #[.int .i64 4, .int .i64 (n : Int)] w fun e w' => e = .returned (.bool (cntB 4 n)) ∧ w' = w := by
  have e : cntB 4 n = decide (n = 1) := by simp [cntB, cntK]
  have hc := hC.c4
  go_enter Tryz.func220, Tryz.ntmps220
  go_wp2
  go_ret
  exact ⟨by rw [e]; by_cases h : n = 1 <;> simp [h] <;> omega, rfl⟩

set_option maxRecDepth 100000 in
set_option maxHeartbeats 4000000 in
theorem isCount_5 (n : Nat) (w : World) (hC : Cnts w) (hl : n ≤ 9223372036854775807) : Calls Tryz.prog 220 #[.int .i64 5, .int .i64 (n : Int)] w fun e w' => e = .returned (.bool (cntB 5 n)) ∧ w' = w := by
  have e : cntB 5 n = decide (n = 1) := by simp [cntB, cntK]
  have hc := hC.c5
  go_enter Tryz.func220, Tryz.ntmps220
  go_wp2
  go_ret
  exact ⟨by rw [e]; by_cases h : n = 1 <;> simp [h] <;> omega, rfl⟩

set_option maxRecDepth 100000 in
set_option maxHeartbeats 4000000 in
theorem isCount_6 (n : Nat) (w : World) (hC : Cnts w) (hl : n ≤ 9223372036854775807) : Calls Tryz.prog 220 #[.int .i64 6, .int .i64 (n : Int)] w fun e w' => e = .returned (.bool (cntB 6 n)) ∧ w' = w := by
  have e : cntB 6 n = decide (n = 1) := by simp [cntB, cntK]
  have hc := hC.c6
  go_enter Tryz.func220, Tryz.ntmps220
  go_wp2
  go_ret
  exact ⟨by rw [e]; by_cases h : n = 1 <;> simp [h] <;> omega, rfl⟩

set_option maxRecDepth 100000 in
set_option maxHeartbeats 4000000 in
theorem isCount_7 (n : Nat) (w : World) (hC : Cnts w) (hl : n ≤ 9223372036854775807) : Calls Tryz.prog 220 #[.int .i64 7, .int .i64 (n : Int)] w fun e w' => e = .returned (.bool (cntB 7 n)) ∧ w' = w := by
  have e : cntB 7 n = decide (n = 2) := by simp [cntB, cntK]
  have hc := hC.c7
  go_enter Tryz.func220, Tryz.ntmps220
  go_wp2
  go_ret
  exact ⟨by rw [e]; by_cases h : n = 2 <;> simp [h] <;> omega, rfl⟩

set_option maxRecDepth 100000 in
set_option maxHeartbeats 4000000 in
theorem isCount_8 (n : Nat) (w : World) (hC : Cnts w) (hl : n ≤ 9223372036854775807) : Calls Tryz.prog 220 #[.int .i64 8, .int .i64 (n : Int)] w fun e w' => e = .returned (.bool (cntB 8 n)) ∧ w' = w := by
  have e : cntB 8 n = decide (n = 1) := by simp [cntB, cntK]
  have hc := hC.c8
  go_enter Tryz.func220, Tryz.ntmps220
  go_wp2
  go_ret
  exact ⟨by rw [e]; by_cases h : n = 1 <;> simp [h] <;> omega, rfl⟩

theorem isCount_calls (k : Int) (n : Nat) (w : World) (hC : Cnts w) (hk : kindB k = true) (hl : n ≤ 9223372036854775807) : Calls Tryz.prog 220 #[.int .i64 k, .int .i64 (n : Int)] w fun e w' => e = .returned (.bool (cntB k n)) ∧ w' = w := by
  have h := (kindB_iff k).1 hk
  have hs : k = 1 ∨ k = 2 ∨ k = 3 ∨ k = 4 ∨ k = 5 ∨ k = 6 ∨ k = 7 ∨ k = 8 := by omega
  rcases hs with rfl | rfl | rfl | rfl | rfl | rfl | rfl | rfl
  · exact isCount_1 n w hC hl
  · exact isCount_ack n w hl
  · exact isCount_3 n w hC hl
  · exact isCount_4 n w hC hl
  · exact isCount_5 n w hC hl
  · exact isCount_6 n w hC hl
  · exact isCount_7 n w hC hl
  · exact isCount_8 n w hC hl

set_option maxRecDepth 100000 in
set_option maxHeartbeats 4000000 in
theorem clos_calls (n : Int) (w : World) : Calls Tryz.prog 222 #[.int .i64 n] w fun e w' => e = .returned (.bool (!V.mayB n)) ∧ Below w.heap.size w w' := by
  by_cases h1 : n < 0
  · have e : V.mayB n = false := by simp [V.mayB]; omega
    rw [e]
    go_enter Tryz.func222, Tryz.ntmps222
    go_wp2
    go_ret
    exact ⟨rfl, Below.refl _ _⟩
  · by_cases h2 : 1073741823 < n
    · have e : V.mayB n = false := by simp [V.mayB]; omega
      rw [e]
      go_enter Tryz.func222, Tryz.ntmps222
      go_wp2
      go_ret
      exact ⟨by simp [h2], Below.refl _ _⟩
    · have e : V.mayB n = true := (mayB_iff n).2 (by omega)
      rw [e]
      go_enter Tryz.func222, Tryz.ntmps222
      go_wp2
      go_ret
      exact ⟨by simp [h2], Below.refl _ _⟩

set_option maxRecDepth 100000 in
set_option maxHeartbeats 4000000 in
theorem idx_near (ao : Option Addr) (len cap : Nat) (zs : List Int) (w : World) (hlen : zs.length = len) (hl : len ≤ 9223372036854775807) (hz : zs = [] ∨ ∃ b off, ao = some ⟨b, off, none⟩ ∧ b < w.heap.size ∧ ICells w b off zs) :
    Calls Tryz.prog 238 #[.slice ao len cap, .func (.func 222) #[] #[]] w fun e w' => ∃ i, e = .returned (.int .i64 i) ∧ ((i = -1 ∧ ∀ j, j < len → V.mayB (zs[j]?.getD 0) = true) ∨ ∃ k : Nat, i = (k : Int) ∧ k < len ∧ V.mayB (zs[k]?.getD 0) = false) ∧ Below w.heap.size w w' := by
  have HL : Hid (zs.length = len) := hlen
  have HZ : Hid (zs = [] ∨ ∃ b off, ao = some ⟨b, off, none⟩ ∧ b < w.heap.size ∧ ICells w b off zs) := hz
  clear hlen hz
  go_enter Tryz.func238, Tryz.ntmps238
  go_wp2_with fail
  go_loopg [5, 8] len (fun gg _ s8 wr => ∃ kk : Nat, kk ≤ len ∧ len - kk ≤ gg ∧ s8 = .int .i64 kk ∧ Hid (Below w.heap.size w wr) ∧ Hid (∀ j, j < kk → V.mayB (zs[j]?.getD 0) = true))
  case atStart => exact ⟨0, Nat.zero_le _, by omega, rfl, Below.refl _ w, fun j hj => absurd hj (Nat.not_lt_zero _)⟩
  case round =>
    obtain ⟨kk, hkk, hg, rfl, BW, HA⟩ := hrel
    by_cases hlt : kk < len
    · have hltz : (kk : Int) < (len : Int) := by omega
      have hkl : kk < zs.length := by have := HL.out; omega
      obtain ⟨b, off, rfl, hb, hC⟩ : ∃ b off, ao = some ⟨b, off, none⟩ ∧ b < w.heap.size ∧ ICells w b off zs := by
        rcases HZ.out with h | h
        · rw [h] at hkl; simp at hkl
        · exact h
      have c0 := hC.below hb BW.out kk hkl
      have hcall := clos_calls (zs[kk]?.getD 0) wr
      clear hC hkl
      generalize hy : zs[kk]?.getD 0 = y at c0 hcall
      have B : Hid (zs[kk]?.getD 0 = y) := hy
      clear hy
      cases hq : V.mayB y with
      | false =>
        rw [hq] at hcall
        simp only [Bool.not_false] at hcall
        go_wp2_with (go_at_call 222; refine hcall.mono ?_; rintro e w' ⟨rfl, hb'⟩)
        go_ret
        exact ⟨_, rfl, .inr ⟨kk, by go_num, hlt, by rw [B.out]; exact hq⟩, BW.out.trans (hb'.mono BW.out.size)⟩
      | true =>
        rw [hq] at hcall
        simp only [Bool.not_true] at hcall
        go_wp2_with (go_at_call 222; refine hcall.mono ?_; rintro e w' ⟨rfl, hb'⟩)
        go_roundg (len - (kk + 1))
        case measure => omega
        case rel =>
          refine ⟨kk + 1, by omega, by omega, by go_num, BW.out.trans (hb'.mono BW.out.size), (show Hid _ from fun j hj => ?_)⟩
          by_cases e : j = kk
          · subst e
            rw [B.out]; exact hq
          · exact HA.out j (by omega)
    · have hltz : ¬ (kk : Int) < (len : Int) := by omega
      obtain rfl : kk = len := by omega
      go_wp2_with fail
      go_ret
      exact ⟨-1, rfl, .inl ⟨rfl, HA.out⟩, BW.out⟩

theorem any_ints {zs : List Int} : anyB zs = true ↔ ∃ j, j < zs.length ∧ V.mayB (zs[j]?.getD 0) = false := by
  unfold anyB
  rw [List.any_eq_true]
  constructor
  · rintro ⟨r, hr, h⟩
    obtain ⟨j, hj, e⟩ := List.getElem_of_mem hr
    exact ⟨j, hj, by simp [hj, e]; simpa using h⟩
  · rintro ⟨j, hj, h⟩
    rw [List.getElem?_eq_getElem hj] at h
    exact ⟨_, List.getElem_mem hj, by simpa using h⟩
set_option maxRecDepth 100000 in
set_option maxHeartbeats 4000000 in
theorem cont_calls (v : Value) (zs : List Int) (w : World) (hR : IRow w v zs) :
    Calls Tryz.prog 221 #[v, .func (.func 222) #[] #[]] w fun e w' => e = .returned (.bool (anyB zs)) ∧ Below w.heap.size w w' := by
  obtain ⟨ao, c, rfl, hl, hn, hz⟩ := hR
  have hcon' : Calls Tryz.prog 238 #[.slice ao zs.length c, .func (.func 222) #[] #[]] w fun e w' => ∃ i : Int, e = .returned (.int .i64 i) ∧ (decide (0 ≤ i) = anyB zs) ∧ Below w.heap.size w w' := by
    refine (idx_near ao zs.length c zs w rfl hl hz).mono fun e w' ⟨i, he, hi, hb⟩ => ⟨i, he, ?_, hb⟩
    rcases hi with ⟨rfl, h⟩ | ⟨k, rfl, hk, h⟩
    · have : anyB zs = false := by
        cases e : anyB zs with
        | false => rfl
        | true => obtain ⟨j, hj, hh⟩ := any_ints.1 e; rw [h j hj] at hh; cases hh
      rw [this]; rfl
    · rw [any_ints.2 ⟨k, hk, h⟩]; simp
  clear hz hn
  generalize anyB zs = res at hcon' ⊢
  generalize zs.length = len at *
  go_enter Tryz.func221, Tryz.ntmps221
  go_wp2_with (go_at_call 238; refine hcon'.mono ?_; rintro e w' ⟨i, rfl, hi, hb1⟩)
  go_ret
  exact ⟨by rw [← hi]; rfl, hb1⟩

theorem infoB : (Tryz.prog.info? 5).map (fun i => (i.zero, i.size, i.bytes)) = some (some (.int .u8 0), 1, 1) := by kernel_rfl
set_option maxRecDepth 100000 in
set_option maxHeartbeats 4000000 in
theorem clonel_calls (s : ByteArray) (w : World) (hs : s.size ≤ 20) : Calls Tryz.prog 149 #[.string s] w fun e w' => e = .returned (.string s) ∧ Below w.heap.size w w' := by
  by_cases h0 : s.size = 0
  · obtain rfl := str_nil h0
    go_enter Tryz.func149, Tryz.ntmps149
    go_wp2
    go_ret
    exact ⟨rfl, Below.refl _ _⟩
  · obtain ⟨i0, hi, hz0, hz1, hz2⟩ := info_parts infoB
    have hinfo : (Tryz.prog.info? 5).map (·.size) = some 1 := by rw [hi]; simp [hz1]
    have hco : Tryz.prog.cellsOf 5 = 1 := by simp [Program.cellsOf, hi, hz1]
    -- the row that make lays, by a name of its own
    obtain ⟨M, hM⟩ : ∃ M, M = madeCells (Value.int .u8 0).cells (((s.size : Nat) : Int).toNat * i0.size) := ⟨_, rfl⟩
    have hMs : M.size = s.size := by rw [hM, size_madeCells, hz1]; simp
    have hmk : ∀ W : World, (Instr.makeSlice 37 (.int .i64 (s.size : Int)) (.int .i64 (s.size : Int))).run Tryz.prog W = .ok (.slice (some ⟨W.heap.size, 0, none⟩) s.size s.size) (W.alloc (.cells M 5)) := fun W => by
      have h := run_make (P := Tryz.prog) W 37 5 i0 (.int .u8 0) Tryz.underlying37 hi hz0 .i64 .i64 (s.size : Int) (s.size : Int) (by omega) (by omega) (by rw [hz2]; omega) (by omega)
      rw [← hM] at h
      simpa using h
    clear hM
    have hcp := Lib.run_copy_row_string (P := Tryz.prog) (w.alloc (.cells M 5)) 37 9 3 5 w.heap.size 0 s.size s.size s M 5 Tryz.underlying37 hinfo (heap_alloc_new w _) (Nat.le_refl _) (by omega)
    obtain ⟨Y, hY⟩ : ∃ Y, Y = (M.toList.take 0 ++ Lib.byteCells s.data.toList ++ M.toList.drop (0 + s.size)).toArray := ⟨_, rfl⟩
    rw [← hY] at hcp
    have hYl : Y.toList = Lib.byteCells s.data.toList := by
      rw [hY, List.toList_toArray, List.take_zero, List.nil_append, List.drop_of_length_le (by rw [Array.length_toList]; omega), List.append_nil]
    have hgY : ((w.alloc (.cells M 5)).setRow w.heap.size Y).heap[w.heap.size]? = some (.cells Y 5 (0, 0)) := setRow_heap _ _ M _ 5 (0, 0) (heap_alloc_new w _)
    have hne : s.data.toList ≠ [] := fun e => h0 (by rw [Lib.size_eq, e]; rfl)
    have hYs : Y.size = s.size := by rw [← Array.length_toList, hYl, Lib.byteCells_length, ← Lib.size_eq]
    have hUS := Lib.run_unsafeString_row (P := Tryz.prog) ((w.alloc (.cells M 5)).setRow w.heap.size Y) 80 3 9 5 Tryz.underlying80 hco w.heap.size Y.size (by unfold World.shape?; rw [hgY]) s.data.toList hne (by rw [← Lib.size_eq]; omega) (by rw [← Lib.size_eq]; omega)
      (fun j x hx => Lib.cells_of_row hgY Y.size j _ (by rw [List.take_of_length_le (by rw [Array.length_toList]; exact Nat.le_refl _), hYl]; simp [Lib.byteCells, hx]))
    rw [← Lib.size_eq] at hUS
    clear hY
    go_enter Tryz.func149, Tryz.ntmps149
    go_wp2
    go_ret
    have hb1 : Below w.heap.size w (w.alloc (.cells M 5)) := (Below.refl _ w).alloc (Nat.le_refl _) _
    have hb2 : Below w.heap.size (w.alloc (.cells M 5)) ((w.alloc (.cells M 5)).setRow w.heap.size Y) := ⟨rfl, rfl, rfl, by simp, fun k hk => setRow_other _ _ _ _ (by omega)⟩
    exact ⟨rfl, Lib.below_freeze (hb1.trans hb2) (p := ⟨w.heap.size, 0, none⟩) (Nat.le_refl _) _⟩
set_option maxRecDepth 100000 in
set_option maxHeartbeats 4000000 in
theorem clone_calls (s : ByteArray) (w : World) (hs : s.size ≤ 20) : Calls Tryz.prog 123 #[.string s] w fun e w' => e = .returned (.string s) ∧ Below w.heap.size w w' := by
  have HC := clonel_calls s w hs
  clear hs
  go_enter Tryz.func123, Tryz.ntmps123
  go_wp2_with (go_at_call 149; refine HC.mono ?_; rintro e w' ⟨rfl, hb1⟩)
  go_ret
  exact ⟨rfl, hb1⟩
end Go.Proofs.YtdokgalidhmbbaaGreatDoor
namespace Go.Proofs.YtdokgalidhmbbaaGreatDoor
open Go

/-- Q at a quiet end, nothing else. -/
def Quiet (Q : Exit → Act → World → Prop) : Exit → Act → World → Prop := fun x a w => x = .normal ∧ Q x a w
theorem Quiet.panic {Q : Exit → Act → World → Prop} {d : Option Tmp} {v : Value} : ∀ c a w, Quiet Q (.panic c) (a.put d v) w → Quiet Q (.panic c) a w := fun _ _ _ h => by have e := h.1; cases e
theorem Quiet.normal {Q : Exit → Act → World → Prop} {a : Act} {w : World} (h : Q .normal a w) : Quiet Q .normal a w := ⟨rfl, h⟩
theorem Quiet.lets {Q : Exit → Act → World → Prop} (h : LetsOut (Quiet Q)) : False := by
  obtain ⟨a, w, e, _⟩ := h
  cases e
theorem oper_quiet {n : Nat} {P : Program} {l : Nat} {o : Oper} {a : Act} {w : World} {K K' : Act → World → Prop} {Q : Exit → Act → World → Prop} (hd : ∀ c, o.op ≠ .defer c) (hK : ∀ a w, K a w → K' a w)
    (h : o.wp P a w K (Quiet Q)) : o.wpIn (Fence.wide.inRound l) n P a w K' Q := by
  refine ⟨fun _ _ => trivial, ?_⟩
  rw [Oper.semAt_eq _ _ _ hd]
  unfold Oper.wp at h
  generalize (execOp a.eval o).run P w = r at *
  cases r with
  | ok x w' =>
    cases x with
    | value v => exact hK _ _ h
    | skip => exact hK _ _ h
    | defer d => exact hK _ _ h
    | enter f args =>
      refine ⟨(fun e => by simp [Fence.inRound, Fence.wide] at e), CallsIn.inRound l (callsIn_wide.2 ?_)⟩
      refine Calls.mono (show Calls P f args w' _ from h) ?_
      intro e w'' he
      cases e with
      | returned v => exact hK _ _ he
      | panicked c => (have e := he.1; cases e)
      | outgrown => exact (Quiet.lets he).elim
    | row r args =>
      refine ⟨(fun e => by simp [Fence.inRound, Fence.wide] at e), fun c cs _ => ?_⟩
      obtain ⟨v, w'', hr, hs⟩ := (show Rows P r args w' _ from h) c cs
      exact ⟨v, w'', hK _ _ hr, stepsIn_wide.2 hs⟩
    | _ => exact h.elim
  | halt x w' =>
    cases x with
    | panic v => (have e := h.1; cases e)
    | _ => exact h.elim
theorem wpAny_quiet {n : Nat} {P : Program} {md : Region.Mode} {ops : Array Oper} {l : Nat} {Q : Exit → Act → World → Prop} (hd : ∀ (i : Nat) (o : Oper), ops[i]? = some o → ∀ c, o.op ≠ .defer c) :
    ∀ (fuel : Nat) (listed : Array Bool) (a : Act) (w : World), wpAny P md ops (Quiet Q) fuel listed a w → wpAnyIn (Fence.wide.inRound l) n P md ops Q fuel listed a w
  | 0, _, _, _, h => ⟨h.1, h.2.2⟩
  | fuel + 1, listed, a, w, h => ⟨fun e => (h.1 e).2, fun i hi => by
      have h2 := h.2 i hi
      unfold wpOp at h2
      unfold wpOpIn
      cases ho : ops[i]? with
      | none => simp only [ho] at h2; exact wpAny_quiet hd fuel _ a w h2
      | some o =>
        simp only [ho] at h2
        dsimp only
        by_cases hw : Region.wanted o (yielded ops a.tmps)
        · simp only [hw, if_true] at h2 ⊢
          rcases h2 with h2 | ⟨_, h2⟩
          · exact oper_quiet (hd i o ho) (fun a' w' h' => wpAny_quiet hd fuel _ a' w' h') h2
          · exact (Quiet.lets h2).elim
        · simp only [hw] at h2 ⊢
          exact ⟨fun _ _ => trivial, wpAny_quiet hd fuel _ _ _ h2⟩⟩
/-- The beginning. -/
theorem region_round_held {n : Nat} {P : Program} {l id : Nat} {Q : Exit → Act → World → Prop} {a : Act} {w : World} {ops : List Oper} (S : World → Prop) (hm : P.follows .mixedOrders = true) (hd : (ops.all fun o => !defers o.op) = true) (hS : S w.drew)
    (h : S w.drew → wpAnyH P .any ops.toArray (Quiet Q) S ops.toArray.size (Array.replicate ops.toArray.size false) a w.drew) : (Code.region id ops.toArray true).wpIn (Fence.wide.inRound l) n P Q a w := by
  refine wpIn_region_any hm (wpAny_quiet (fun i o ho c e => ?_) _ _ _ _ (wpAny_of_held _ _ _ _ (h hS)))
  have hmem : o ∈ ops := by
    have := Array.mem_of_getElem? ho
    simpa using this
  have := List.all_eq_true.1 hd o hmem
  rw [e] at this
  simp [defers] at this

theorem step_append_own {P : Program} {ops : Array Oper} {o : Oper} {a : Act} {w : World} {K : Act → World → Prop} {Q : Exit → Act → World → Prop} {E : Prop}
    (hg : o.guard = none) (s x : Operand) (t : TypeId) (hop : o.op = Op.call { callee := Callee.builtin Builtin.append, args := #[s, x], argTypes := #[t, t] })
    (base : Nat) (e : TypeId) (i : TypeInfo) (z : Value) (size bytes : Nat) (h1 : P.underlying t = some (.slice e)) (h2 : P.info? e = some i) (h3 : i.zero = some z) (h4 : i.size = size) (h5 : i.bytes = bytes) (h6 : z.cells.size = size) (h7 : 0 < size)
    (v : Value) (n : Nat) (xs : List Value) (hs : a.eval s = v) (hown : w.ownsRow base e size v n xs)
    (ad : Addr) (m c : Nat) (news : List Value) (hx : a.eval x = .slice (some ad) m c) (hn : news.length = m * size) (hc : ∀ j u, news[j]? = some u → w.cell? (ad.add j) = some u) (h1c : ∀ u ∈ news, u.oneCell' = true)
    (b1 : n + m ≤ maxLen) (b2 : (n + m) * bytes ≤ 140737488355328) (hbase : base ≤ w.heap.size)
    (hK : ∀ v' w', w'.ownsRow base e size v' (n + m) (xs ++ news) → w.grownBy w' v.ownBlock → K (a.put o.dst v') w') :
    if Region.wanted o (yielded ops a.tmps) = true then Oper.wp P o a w K Q else E := by
  have hw : Region.wanted o (yielded ops a.tmps) = true := by simp [Region.wanted, hg]
  rw [if_pos hw]
  obtain ⟨v', w', hrun, r1, r2, _, r4⟩ := run_append_own_at (P := P) w base t o.type e i z size bytes h1 h2 h3 h4 h5 h6 h7 v n xs hown ad m c news hn hc h1c b1 b2 hbase
  unfold Oper.wp
  simp [execOp, hop, resolve, invoke, builtin, hs, hx, hrun, Result.andThen]
  exact hK v' w' r1 r2
end Go.Proofs.YtdokgalidhmbbaaGreatDoor
namespace Go.Proofs.YtdokgalidhmbbaaGreatDoor
open Go.RowKit Go.Shelf Go.Lib
attribute [local go_sem] Oper.semAt_some


theorem cell_grown_ne {W W' : World} {row : Option Nat} {b o : Nat} {v : Value} (h : W.cell? ⟨b, o, none⟩ = some v) (hg : W.grownBy W' row) (hlt : b < W.heap.size) (hne : some b ≠ row) : W'.cell? ⟨b, o, none⟩ = some v := by
  rw [← h]; unfold World.cell?; rw [hg.block b hlt hne]
def rgAt (ns : List Int) (x : Nat) : R := (ns[2 * x + 1]?.getD 0, ns[2 * x]?.getD 0)
theorem rgs_range : ∀ (M : Nat) (ns : List Int), ns.length = 2 * M → (List.range M).map (rgAt ns) = rgs ns := by
  intro M
  induction M with
  | zero =>
    intro ns h
    obtain rfl : ns = [] := List.eq_nil_of_length_eq_zero (by omega)
    rfl
  | succ M ih =>
    intro ns h
    match ns, h with
    | [], h => simp at h
    | [a], h => simp at h; omega
    | a :: b :: ns, h =>
      rw [List.range_succ_eq_map, List.map_cons, List.map_map]
      simp only [rgs]
      rw [← ih ns (by simp at h; omega)]
      congr 1

set_option maxRecDepth 100000 in
set_option maxHeartbeats 4000000 in
theorem rangesOf_some (g off M L C : Nat) (ns : List Int) (w : World) (hLM : L = 2 * M) (hM12 : M ≤ 12) (hLC : L ≤ C) (hlen : ns.length = L) (hg : g < w.heap.size) (hcc : ICells w g off ns) :
    Calls Tryz.prog 223 #[.slice (some ⟨g, off, none⟩) L C] w fun e w' => ∃ v, e = .returned v ∧ Row w' v (rgs ns) ∧ Fits v ∧ Below w.heap.size w w' := by
  refine (callsIn_wide (n := 5)).1 ?_
  have hfc : Fence.wide.fn 183 := trivial
  have HLM : Hid (L = 2 * M) := hLM
  have HLC : Hid (L ≤ C) := hLC
  have HM12 : Hid (M ≤ 12) := hM12
  have HLen : Hid (ns.length = L) := hlen
  have Hg : Hid (g < w.heap.size) := hg
  have CC : Hid (ICells w g off ns) := hcc
  clear hlen hg hcc hLM hLC hM12
  refine callsIn_of_wp_marks Tryz.func223 rfl trivial ?_ rfl
  simp only [Tryz.ntmps223, List.size_toArray, List.length_cons, List.length_nil, Nat.reduceAdd, Nat.reduceSub, Array.replicate_succ, Array.replicate_zero, List.push_toArray, List.append_toArray, List.nil_append, List.cons_append]
  gi_wp2_with (gi_at_call 183; refine (chunk_in 4 _ _ _ _).mono ?_; rintro e w' ⟨rfl, rfl⟩)
  have kO0 : Boxed (((w.alloc (.cells #[.slice none 0 0] 88)).alloc (.cells #[.slice (some ⟨g, off, none⟩) L C] 54)).alloc (.cells #[.int .i64 2] 3)) w.heap.size 88 (.slice none 0 0) := ((Boxed.new w 88 _).alloc _).alloc _
  have bS : Boxed (((w.alloc (.cells #[.slice none 0 0] 88)).alloc (.cells #[.slice (some ⟨g, off, none⟩) L C] 54)).alloc (.cells #[.int .i64 2] 3)) (w.heap.size + 1) 54 (.slice (some ⟨g, off, none⟩) L C) := by
    have := (Boxed.new (w.alloc (.cells #[.slice none 0 0] 88)) 54 (.slice (some ⟨g, off, none⟩) L C)).alloc (.cells #[.int .i64 2] 3)
    rwa [World.size_alloc] at this
  have bN : Boxed (((w.alloc (.cells #[.slice none 0 0] 88)).alloc (.cells #[.slice (some ⟨g, off, none⟩) L C] 54)).alloc (.cells #[.int .i64 2] 3)) (w.heap.size + 2) 3 (.int .i64 2) := by
    have := Boxed.new ((w.alloc (.cells #[.slice none 0 0] 88)).alloc (.cells #[.slice (some ⟨g, off, none⟩) L C] 54)) 3 (.int .i64 2)
    rwa [World.size_alloc, World.size_alloc] at this
  have hB30 : Below w.heap.size w (((w.alloc (.cells #[.slice none 0 0] 88)).alloc (.cells #[.slice (some ⟨g, off, none⟩) L C] 54)).alloc (.cells #[.int .i64 2] 3)) := (((Below.refl _ w).alloc (Nat.le_refl _) _).alloc (by simp) _).alloc (by simp; omega) _
  have sz3 : (((w.alloc (.cells #[.slice none 0 0] 88)).alloc (.cells #[.slice (some ⟨g, off, none⟩) L C] 54)).alloc (.cells #[.int .i64 2] 3)).heap.size = w.heap.size + 3 := by simp
  generalize ((w.alloc (.cells #[.slice none 0 0] 88)).alloc (.cells #[.slice (some ⟨g, off, none⟩) L C] 54)).alloc (.cells #[.int .i64 2] 3) = W3 at *
  refine wpIn_rangeFunc_ownG rfl (by decide) (gf := 211) (lb := #[.pointer (some ⟨w.heap.size + 1, 0, none⟩), .pointer (some ⟨w.heap.size + 2, 0, none⟩)]) rfl trivial (enters_of Tryz.func211 (by kernel_rfl) rfl)
    (chunk_stops (5 - 1) (by decide) g off M L C (w.heap.size + 1) (w.heap.size + 2) HLM.out (by have := HM12.out; omega) HLC.out W3 (by omega) (by omega) ⟨bS.cell, bN.cell⟩)
    (fun h k hR => k (h hR)) (KpH.put (w := W3)) (Below.refl _ _) (fun _ => rfl)
    (fun (pre : List (Ix M)) W => (∃ v, Boxed W w.heap.size 88 v ∧ W.ownsRow w.heap.size 143 2 v pre.length (flat (pre.map (fun y => rgAt ns y.1))) ∧ True) ∧ Boxed W (w.heap.size + 1) 54 (.slice (some ⟨g, off, none⟩) L C) ∧ Boxed W (w.heap.size + 2) 3 (.int .i64 2) ∧ Below w.heap.size w W)
    (fun _ _ _ => False)
    (OwnFrom.and (Own.from (holdsRow_own w.heap.size w.heap.size 88 143 2 (fun pre : List (Ix M) => pre.length) (fun pre : List (Ix M) => flat (pre.map (fun y => rgAt ns y.1))) (fun _ _ => True)) _) (OwnFrom.and (Own.from (boxed_own _ _ _) _) (OwnFrom.and (Own.from (boxed_own _ _ _) _) (ownFrom_below (Nat.le_refl _) (by omega)))))
    (fun _ _ _ _ _ hs _ _ => hs)
    ⟨⟨_, kO0, World.ownsRow_nil _ _ _ _, trivial⟩, bS, bN, hB30⟩
    (fun x => { tmps := #[.slice (some ⟨g, off, none⟩) L C, undef, .slice none 0 0, .pointer (some ⟨w.heap.size, 0, none⟩), .slice (some ⟨g, off + 2 * x.1, none⟩) 2 2, .slice (some ⟨g, off, none⟩) L C, .func (.func 211) #[] #[.pointer (some ⟨w.heap.size + 1, 0, none⟩), .pointer (some ⟨w.heap.size + 2, 0, none⟩)], .slice (some ⟨g, off + 2 * x.1, none⟩) 2 2, undef, undef, undef, undef, undef, undef, undef, undef, undef, undef, undef], defers := [] }) ?assign ?body ?done ?stop
  all_goals clear kO0 bS bN hB30
  case assign =>
    intro l x W K hK
    clear sz3
    gi_wp2
    exact hK
  case body =>
    rintro l pre ⟨x, hx⟩ W ⟨⟨v, kO, kr, _⟩, kS, kN, hB⟩ hpl
    have hx : x < M := hx
    have hxl : 2 * x + 1 < ns.length := by have := HLen.out; have := HLM.out; omega
    have cx0 := CC.out (2 * x) (by omega)
    have cx1 := CC.out (2 * x + 1) hxl
    rw [← Nat.add_assoc] at cx1
    have z0 := (hB.cell (p := ⟨g, off + 2 * x, none⟩) Hg.out).trans cx0
    have z1 := (hB.cell (p := ⟨g, off + 2 * x + 1, none⟩) Hg.out).trans cx1
    have HS : Hid ((pre ++ [(⟨x, hx⟩ : Ix M)]).map (fun y => rgAt ns y.1) = pre.map (fun y => rgAt ns y.1) ++ [(ns[2 * x + 1]?.getD 0, ns[2 * x]?.getD 0)]) := by
      show _ = _
      rw [List.map_append]; rfl
    have hpl' : pre.length < 12 := by have := HM12.out; omega
    have HPL : Hid (pre.length < 12) := hpl'
    have SZ3 : Hid (W3.heap.size = w.heap.size + 3) := sz3
    clear cx0 cx1 hpl hpl' sz3 hxl
    generalize ns[2 * x]?.getD 0 = na at *
    generalize ns[2 * x + 1]?.getD 0 = nb at *
    have kOd : Boxed W.drew w.heap.size 88 v := kO
    have krd : W.drew.ownsRow w.heap.size 143 2 v pre.length (flat (pre.map (fun y => rgAt ns y.1))) := kr
    have kSd : Boxed W.drew (w.heap.size + 1) 54 (.slice (some ⟨g, off, none⟩) L C) := kS
    have kNd : Boxed W.drew (w.heap.size + 2) 3 (.int .i64 2) := kN
    have hBd : Below w.heap.size w W.drew := hB.drew
    have KOd : KeepsOthers W W.drew := ⟨Nat.le_refl _, fun _ _ h _ => h⟩
    have y0 : W.drew.cell? ⟨g, off + 2 * x, none⟩ = some (.int .i64 na) := z0
    have y1 : W.drew.cell? ⟨g, off + 2 * x + 1, none⟩ = some (.int .i64 nb) := z1
    have y2 := kOd.cell
    obtain ⟨i0, hi0, hz0, hz1, hz2⟩ := info_parts infoR
    have HI : Hid (Tryz.prog.info? 143 = some i0 ∧ i0.zero = some (.agg #[.int .i64 0, .int .i64 0]) ∧ i0.size = 2 ∧ i0.bytes = 16) := ⟨hi0, hz0, hz1, hz2⟩
    have hgd : g < W.drew.heap.size := Nat.lt_of_lt_of_le Hg.out hBd.size
    have hbd : w.heap.size < W.drew.heap.size := kOd.lt
    clear hi0 hz0 hz1 hz2 kO kr kS kN hB z0 z1
    gi_wp2
    refine region_round_held (fun X => X.cell? ⟨g, off + 2 * x, none⟩ = some (.int .i64 na) ∧ X.cell? ⟨g, off + 2 * x + 1, none⟩ = some (.int .i64 nb)) (by kernel_rfl) (by kernel_rfl) ⟨y0, y1⟩ (fun hHeld => ?_)
    clear y0 y1
    have hszd : W.drew.heap.size = W.heap.size := rfl
    generalize W.drew = Wd at *
    refine wpAnyH_take (i := 1) (oi := { dst := some 9, op := Op.move (Operand.tmp 4), type := 54, pos := "frame.go:57", after := #[], guard := none }) (v := (.slice (some ⟨g, off + 2 * x, none⟩) 2 2)) rfl (by kernel_rfl) (by kernel_rfl) (by kernel_rfl) Quiet.panic (Or.inl ⟨by rfl, ?_⟩) (by assumption) ?_
    · intro wx hSw
      obtain ⟨s0, s1⟩ := hSw
      go_simp
    try simp only [Act.put, List.setIfInBounds_toArray, List.set_cons_zero, List.set_cons_succ]
    refine wpAnyH_take (i := 2) (oi := { dst := some 10, op := Op.indexAddr 54 (Operand.tmp 9) (Operand.const (Value.int IntKind.i64 0)), type := 0, pos := "frame.go:57", after := #[{ on := 1, ground := Ground.data }], guard := none }) (v := (.pointer (some ⟨g, off + 2 * x, none⟩))) rfl (by kernel_rfl) (by kernel_rfl) (by kernel_rfl) Quiet.panic (Or.inl ⟨by rfl, ?_⟩) (by assumption) ?_
    · intro wx hSw
      obtain ⟨s0, s1⟩ := hSw
      go_simp
    try simp only [Act.put, List.setIfInBounds_toArray, List.set_cons_zero, List.set_cons_succ]
    refine wpAnyH_take (i := 3) (oi := { dst := some 11, op := Op.load 3 (Operand.tmp 10), type := 3, pos := "frame.go:57", after := #[{ on := 2, ground := Ground.data }], guard := none }) (v := (.int .i64 na)) rfl (by kernel_rfl) (by kernel_rfl) (by kernel_rfl) Quiet.panic (Or.inl ⟨by rfl, ?_⟩) (by assumption) ?_
    · intro wx hSw
      obtain ⟨s0, s1⟩ := hSw
      go_simp
    try simp only [Act.put, List.setIfInBounds_toArray, List.set_cons_zero, List.set_cons_succ]
    refine wpAnyH_take (i := 4) (oi := { dst := some 12, op := Op.move (Operand.tmp 4), type := 54, pos := "frame.go:57", after := #[], guard := none }) (v := (.slice (some ⟨g, off + 2 * x, none⟩) 2 2)) rfl (by kernel_rfl) (by kernel_rfl) (by kernel_rfl) Quiet.panic (Or.inl ⟨by rfl, ?_⟩) (by assumption) ?_
    · intro wx hSw
      obtain ⟨s0, s1⟩ := hSw
      go_simp
    try simp only [Act.put, List.setIfInBounds_toArray, List.set_cons_zero, List.set_cons_succ]
    refine wpAnyH_take (i := 5) (oi := { dst := some 13, op := Op.indexAddr 54 (Operand.tmp 12) (Operand.const (Value.int IntKind.i64 1)), type := 0, pos := "frame.go:57", after := #[{ on := 4, ground := Ground.data }], guard := none }) (v := (.pointer (some ⟨g, off + 2 * x + 1, none⟩))) rfl (by kernel_rfl) (by kernel_rfl) (by kernel_rfl) Quiet.panic (Or.inl ⟨by rfl, ?_⟩) (by assumption) ?_
    · intro wx hSw
      obtain ⟨s0, s1⟩ := hSw
      go_simp
    try simp only [Act.put, List.setIfInBounds_toArray, List.set_cons_zero, List.set_cons_succ]
    refine wpAnyH_take (i := 6) (oi := { dst := some 14, op := Op.load 3 (Operand.tmp 13), type := 3, pos := "frame.go:57", after := #[{ on := 5, ground := Ground.data }], guard := none }) (v := (.int .i64 nb)) rfl (by kernel_rfl) (by kernel_rfl) (by kernel_rfl) Quiet.panic (Or.inl ⟨by rfl, ?_⟩) (by assumption) ?_
    · intro wx hSw
      obtain ⟨s0, s1⟩ := hSw
      go_simp
    try simp only [Act.put, List.setIfInBounds_toArray, List.set_cons_zero, List.set_cons_succ]
    refine wpAnyH_take (i := 7) (oi := { dst := some 15, op := Op.build 143 #[(1, Operand.tmp 11), (0, Operand.tmp 14)], type := 143, pos := "frame.go:57", after := #[{ on := 3, ground := Ground.data }, { on := 6, ground := Ground.data }], guard := none }) (v := (.agg #[.int .i64 nb, .int .i64 na])) rfl (by kernel_rfl) (by kernel_rfl) (by kernel_rfl) Quiet.panic (Or.inl ⟨by rfl, ?_⟩) (by assumption) ?_
    · intro wx hSw
      obtain ⟨s0, s1⟩ := hSw
      go_simp
    try simp only [Act.put, List.setIfInBounds_toArray, List.set_cons_zero, List.set_cons_succ]
    have hcn := cells_rng Wd nb na
    have CS : Hid (∀ j u, [Value.int .i64 nb, Value.int .i64 na][j]? = some u → (Wd.alloc (.cells #[.int .i64 nb, .int .i64 na] 143)).cell? ((⟨Wd.heap.size, 0, none⟩ : Addr).add j) = some u) := hcn
    have y3 : (Wd.alloc (.cells #[.int .i64 nb, .int .i64 na] 143)).cell? ⟨w.heap.size, 0, none⟩ = some v := (World.cell?_alloc_lt _ _ _ hbd).trans y2
    clear hcn
    refine wpAnyH_ready (rs := [0, 8]) (by kernel_rfl) (by simp) ?_
    refine AllReadyH.cons (o := { dst := some 8, op := Op.load 88 (Operand.tmp 3), type := 88, pos := "frame.go:57", after := #[], guard := none }) rfl (fun K hK => ?_) (AllReadyH.cons (o := { dst := some 16, op := Op.buildSlice 88 1 #[(0, Operand.tmp 15)], type := 88, pos := "frame.go:57", after := #[{ on := 7, ground := Ground.data }], guard := none }) rfl (fun K hK => ?_) AllReadyH.nil)
    · go_simp
      refine hK.out _ _ hHeld (fun hHeld => ?_)
      clear hK K
      try simp only [Act.put, List.setIfInBounds_toArray, List.set_cons_zero, List.set_cons_succ]
      refine wpAnyH_ready (rs := [8]) (by kernel_rfl) (by simp) ?_
      refine AllReadyH.cons (o := { dst := some 16, op := Op.buildSlice 88 1 #[(0, Operand.tmp 15)], type := 88, pos := "frame.go:57", after := #[{ on := 7, ground := Ground.data }], guard := none }) rfl (fun K hK => ?_) AllReadyH.nil
      go_simp
      refine hK.out _ _ ?_ (fun hHeld => ?_)
      · exact ⟨(World.cell?_alloc_lt _ _ _ hgd).trans hHeld.1, (World.cell?_alloc_lt _ _ _ hgd).trans hHeld.2⟩
      clear hK K
      try simp only [Act.put, List.setIfInBounds_toArray, List.set_cons_zero, List.set_cons_succ]
      refine wpAnyH_ready (rs := [9]) (by kernel_rfl) (by simp) ?_
      refine AllReadyH.cons (o := { dst := some 17, op := Op.call { callee := Callee.builtin Builtin.append, args := #[Operand.tmp 8, Operand.tmp 16], argTypes := #[88, 88] }, type := 88, pos := "frame.go:57", after := #[{ on := 0, ground := Ground.data }, { on := 8, ground := Ground.data }], guard := none }) rfl (fun K hK => ?_) AllReadyH.nil
      refine step_append_own rfl (.tmp 8) (.tmp 16) 88 rfl w.heap.size 143 i0 _ 2 16 Tryz.underlying88 HI.out.1 HI.out.2.1 HI.out.2.2.1 HI.out.2.2.2 rfl (by decide) v pre.length _ (by simp [Act.eval]) (krd.alloc _) ⟨Wd.heap.size, 0, none⟩ 1 1 [Value.int .i64 nb, Value.int .i64 na] (by simp [Act.eval]) rfl CS.out (by intro u hu; simp at hu; rcases hu with rfl | rfl <;> rfl) (by have := HPL.out; unfold maxLen; omega) (by have := HPL.out; omega) (by simp; omega) ?_
      intro v' w4 hown' hgrow
      obtain ⟨hv1, hv2, hr2, hk2, hb2⟩ := kOd.appended (by decide) krd (Nat.le_of_lt hbd) (Nat.le_refl _) hown' hgrow
      have hc1 := hv1.cell
      have hf1 := hv1.frozen
      have hng : some g ≠ v.ownBlock := fun e => by have := (krd.lt g e.symm).1; have := Hg.out; omega
      have hga : g < (Wd.alloc (.cells #[.int .i64 nb, .int .i64 na] 143)).heap.size := by simp; omega
      refine hK.out _ _ ?_ (fun hHeld => ?_)
      · exact ⟨cell_grown_ne hHeld.1 hgrow hga hng, cell_grown_ne hHeld.2 hgrow hga hng⟩
      clear hK K
      try simp only [Act.put, List.setIfInBounds_toArray, List.set_cons_zero, List.set_cons_succ]
      have kS4 := ((kSd.alloc (.cells #[.int .i64 nb, .int .i64 na] 143)).kept hgrow (kSd.not_row (by decide) krd)).other (B' := w.heap.size) (by omega) v'
      have kN4 := ((kNd.alloc (.cells #[.int .i64 nb, .int .i64 na] 143)).kept hgrow (kNd.not_row (by decide) krd)).other (B' := w.heap.size) (by omega) v'
      have hgne : w.heap.size ≠ g := by have := Hg.out; omega
      refine wpAnyH_ready (rs := [10]) (by kernel_rfl) (by simp) ?_
      refine AllReadyH.cons (o := { dst := none, op := Op.store 88 (Operand.tmp 3) (Operand.tmp 17), type := 0, pos := "frame.go:57", after := #[{ on := 9, ground := Ground.data }, { on := 9, ground := Ground.chain }, { on := 0, ground := Ground.phase }, { on := 1, ground := Ground.phase }, { on := 2, ground := Ground.phase }, { on := 3, ground := Ground.phase }, { on := 4, ground := Ground.phase }, { on := 5, ground := Ground.phase }, { on := 6, ground := Ground.phase }, { on := 7, ground := Ground.phase }, { on := 8, ground := Ground.phase }, { on := 9, ground := Ground.phase }], guard := none }) rfl (fun K hK => ?_) AllReadyH.nil
      obtain ⟨av, nv, cv, rfl⟩ : ∃ a n c, v' = .slice a n c := by
        rcases hown'.2 with ⟨e, _⟩ | ⟨g', cap, cur, e, _⟩
        · exact ⟨_, _, _, e⟩
        · exact ⟨_, _, _, e⟩
      go_simp
      refine hK.out _ _ ⟨(World.cell?_setCell_far _ _ _ _ hgne).trans hHeld.1, (World.cell?_setCell_far _ _ _ _ hgne).trans hHeld.2⟩ (fun hHeld => ?_)
      clear hK K
      refine wpAnyH_done (by kernel_rfl) (Quiet.normal ?_) _
      clear hHeld
      refine ⟨(KOd.trans hk2).from _, fun _ => ⟨kS4.cell, kN4.cell⟩, ⟨_, hv2, ?_, trivial⟩, kS4, kN4, hBd.trans hb2⟩
      rw [HS.out, List.length_append, flat_append]; exact hr2
    · go_simp
      refine hK.out _ _ ?_ (fun hHeld => ?_)
      · exact ⟨(World.cell?_alloc_lt _ _ _ hgd).trans hHeld.1, (World.cell?_alloc_lt _ _ _ hgd).trans hHeld.2⟩
      clear hK K
      try simp only [Act.put, List.setIfInBounds_toArray, List.set_cons_zero, List.set_cons_succ]
      refine wpAnyH_ready (rs := [0]) (by kernel_rfl) (by simp) ?_
      refine AllReadyH.cons (o := { dst := some 8, op := Op.load 88 (Operand.tmp 3), type := 88, pos := "frame.go:57", after := #[], guard := none }) rfl (fun K hK => ?_) AllReadyH.nil
      go_simp
      refine hK.out _ _ ?_ (fun hHeld => ?_)
      · exact hHeld
      clear hK K
      try simp only [Act.put, List.setIfInBounds_toArray, List.set_cons_zero, List.set_cons_succ]
      refine wpAnyH_ready (rs := [9]) (by kernel_rfl) (by simp) ?_
      refine AllReadyH.cons (o := { dst := some 17, op := Op.call { callee := Callee.builtin Builtin.append, args := #[Operand.tmp 8, Operand.tmp 16], argTypes := #[88, 88] }, type := 88, pos := "frame.go:57", after := #[{ on := 0, ground := Ground.data }, { on := 8, ground := Ground.data }], guard := none }) rfl (fun K hK => ?_) AllReadyH.nil
      refine step_append_own rfl (.tmp 8) (.tmp 16) 88 rfl w.heap.size 143 i0 _ 2 16 Tryz.underlying88 HI.out.1 HI.out.2.1 HI.out.2.2.1 HI.out.2.2.2 rfl (by decide) v pre.length _ (by simp [Act.eval]) (krd.alloc _) ⟨Wd.heap.size, 0, none⟩ 1 1 [Value.int .i64 nb, Value.int .i64 na] (by simp [Act.eval]) rfl CS.out (by intro u hu; simp at hu; rcases hu with rfl | rfl <;> rfl) (by have := HPL.out; unfold maxLen; omega) (by have := HPL.out; omega) (by simp; omega) ?_
      intro v' w4 hown' hgrow
      obtain ⟨hv1, hv2, hr2, hk2, hb2⟩ := kOd.appended (by decide) krd (Nat.le_of_lt hbd) (Nat.le_refl _) hown' hgrow
      have hc1 := hv1.cell
      have hf1 := hv1.frozen
      have hng : some g ≠ v.ownBlock := fun e => by have := (krd.lt g e.symm).1; have := Hg.out; omega
      have hga : g < (Wd.alloc (.cells #[.int .i64 nb, .int .i64 na] 143)).heap.size := by simp; omega
      refine hK.out _ _ ?_ (fun hHeld => ?_)
      · exact ⟨cell_grown_ne hHeld.1 hgrow hga hng, cell_grown_ne hHeld.2 hgrow hga hng⟩
      clear hK K
      try simp only [Act.put, List.setIfInBounds_toArray, List.set_cons_zero, List.set_cons_succ]
      have kS4 := ((kSd.alloc (.cells #[.int .i64 nb, .int .i64 na] 143)).kept hgrow (kSd.not_row (by decide) krd)).other (B' := w.heap.size) (by omega) v'
      have kN4 := ((kNd.alloc (.cells #[.int .i64 nb, .int .i64 na] 143)).kept hgrow (kNd.not_row (by decide) krd)).other (B' := w.heap.size) (by omega) v'
      have hgne : w.heap.size ≠ g := by have := Hg.out; omega
      refine wpAnyH_ready (rs := [10]) (by kernel_rfl) (by simp) ?_
      refine AllReadyH.cons (o := { dst := none, op := Op.store 88 (Operand.tmp 3) (Operand.tmp 17), type := 0, pos := "frame.go:57", after := #[{ on := 9, ground := Ground.data }, { on := 9, ground := Ground.chain }, { on := 0, ground := Ground.phase }, { on := 1, ground := Ground.phase }, { on := 2, ground := Ground.phase }, { on := 3, ground := Ground.phase }, { on := 4, ground := Ground.phase }, { on := 5, ground := Ground.phase }, { on := 6, ground := Ground.phase }, { on := 7, ground := Ground.phase }, { on := 8, ground := Ground.phase }, { on := 9, ground := Ground.phase }], guard := none }) rfl (fun K hK => ?_) AllReadyH.nil
      obtain ⟨av, nv, cv, rfl⟩ : ∃ a n c, v' = .slice a n c := by
        rcases hown'.2 with ⟨e, _⟩ | ⟨g', cap, cur, e, _⟩
        · exact ⟨_, _, _, e⟩
        · exact ⟨_, _, _, e⟩
      go_simp
      refine hK.out _ _ ⟨(World.cell?_setCell_far _ _ _ _ hgne).trans hHeld.1, (World.cell?_setCell_far _ _ _ _ hgne).trans hHeld.2⟩ (fun hHeld => ?_)
      clear hK K
      refine wpAnyH_done (by kernel_rfl) (Quiet.normal ?_) _
      clear hHeld
      refine ⟨(KOd.trans hk2).from _, fun _ => ⟨kS4.cell, kN4.cell⟩, ⟨_, hv2, ?_, trivial⟩, kS4, kN4, hBd.trans hb2⟩
      rw [HS.out, List.length_append, flat_append]; exact hr2
  case done =>
    rintro D ys W hD hys ⟨⟨v, kO, kr, _⟩, kS, kN, hB⟩ hK
    rw [show ys.map (fun y => rgAt ns y.1) = rgs ns by rw [← rgs_range M ns (by have := HLen.out; have := HLM.out; omega), ← hys, List.map_map]; rfl] at kr
    have hyl : ys.length = M := by have := congrArg List.length hys; simpa using this
    rw [hyl] at kr
    have kOc := kO.cell
    have hDw : Hid (w.heap.size ≤ D) := by show _ ≤ _; omega
    have hBw : Hid (Below w.heap.size w W) := hB
    have hRow : Hid (Row (W.putObj D (.deferred none)) v (rgs ns)) := row_of_own (ownsRow_putObj kr _ hK rfl) (by
      have := own_length (zs := rgs ns) kr
      have := HM12.out
      omega)
    have hFit : Hid (Fits v) := fits_own kr
    clear hys kr kS kN hyl sz3 hB
    gi_wp2
    refine ⟨by simp, .inl ⟨_, _, rfl, run_takeDeferred hK, ?_⟩⟩
    exact ⟨_, results_tmp rfl _ _ _, v, rfl, hRow.out, hFit.out, hBw.out.trans (belowK_b (w := w) (Nat.le_refl _) W D _ _ hDw.out hK rfl rfl)⟩
  case stop =>
    rintro D c pre W _ _ h _
    exact h.elim

theorem rangesOf_calls (v : Value) (ns : List Int) (M : Nat) (w : World) (hR : IRow w v ns) (hM : ns.length = 2 * M) (h1 : 1 ≤ M) (h12 : M ≤ 12) :
    Calls Tryz.prog 223 #[v] w fun e w' => ∃ v', e = .returned v' ∧ Row w' v' (rgs ns) ∧ Fits v' ∧ Below w.heap.size w w' := by
  obtain ⟨ao, c, rfl, hl, hc, hz⟩ := hR
  rcases hz with h | ⟨b, off, rfl, hb, hC⟩
  · subst h; simp at hM; omega
  · exact rangesOf_some b off M _ c ns w hM h12 hc rfl hb hC

set_option maxRecDepth 100000 in
set_option maxHeartbeats 4000000 in
theorem numsOf_some (b off len cap : Nat) (zs : List R) (w : World) (hlen : zs.length = len) (h12 : len ≤ 12) (hb : b < w.heap.size) (hc : Cells w b off zs) :
    Calls Tryz.prog 240 #[.slice (some ⟨b, off, none⟩) len cap] w fun e w' => ∃ v', e = .returned v' ∧ OwnI w' w.heap.size v' (unr zs) ∧ Below w.heap.size w w' := by
  have HL : Hid (zs.length = len) := hlen
  have HC : Hid (Cells w b off zs) := hc
  clear hlen hc
  go_enter Tryz.func240, Tryz.ntmps240
  go_wp2_with fail
  go_loopw [3, 8] (fun v i wr => ∃ k : Nat, k ≤ len ∧ i = .int .i64 k ∧ OwnI wr w.heap.size v (unr (zs.take k)) ∧ Below w.heap.size w wr) (fun _ i _ => len - (intOf i).toNat)
  case atStart => exact ⟨0, Nat.zero_le _, rfl, World.ownsRow_nil _ _ _ _, Below.refl _ _⟩
  case round =>
    obtain ⟨k, hk, rfl, hown, hB⟩ := hrel
    by_cases hlt : k < len
    · have g1 : (k : Int) < (len : Int) := by omega
      have hkr : k < zs.length := by have := HL.out; omega
      obtain ⟨c0, c1⟩ := HC.out.below hb hB k hkr
      have HN : Hid (unr (zs.take (k + 1)) = unr (zs.take k) ++ [(at' zs k).2, (at' zs k).1]) := by
        show _ = _
        rw [take_at hkr, unr_append]; rfl
      have hul : (unr (zs.take k)).length ≤ 24 := by rw [unr_length, List.length_take]; omega
      clear hkr
      generalize at' zs k = y at *
      obtain ⟨lo, hi⟩ := y
      simp only at c0 c1 HN
      have bel1 : Below w.heap.size w (wr.alloc (.cells #[.int .i64 lo, .int .i64 hi] 143)) := hB.alloc hB.size _
      have own1 := hown.alloc (.cells #[.int .i64 lo, .int .i64 hi] 143)
      have HO : Hid (OwnI (wr.alloc (.cells #[.int .i64 lo, .int .i64 hi] 143)) w.heap.size u3 (unr (zs.take k))) := own1
      have hBs := hB.size
      have cs := cells_two (wr.alloc (.cells #[.int .i64 lo, .int .i64 hi] 143)) hi lo
      rw [World.size_alloc] at cs
      have CS : Hid (∀ j u, (ivs [hi, lo])[j]? = some u → ((wr.alloc (.cells #[.int .i64 lo, .int .i64 hi] 143)).alloc (.cells #[.int .i64 hi, .int .i64 lo] 3)).cell? ((⟨wr.heap.size + 1, 0, none⟩ : Addr).add j) = some u) := cs
      clear own1 hown cs
      go_wp2_with (at_builtin; refine append_ints rfl (.tmp 12) (.tmp 17) rfl w.heap.size _ (unr (zs.take k)) rfl (HO.out.alloc _) ⟨wr.heap.size + 1, 0, none⟩ 2 2 [hi, lo] rfl rfl CS.out (by simp; omega) (by simp; omega) ?_; intro v' w' hown' hgr)
      exact ⟨⟨k + 1, by omega, by go_num, by rw [HN.out]; exact hown', (bel1.alloc (by simp; omega) _).grown hgr (by simp; omega) (fun j e => (HO.out.lt j e).1)⟩, by simp [intOf]; omega⟩
    · have g1 : ¬ (k : Int) < (len : Int) := by omega
      obtain rfl : k = len := by omega
      have HE : Hid (zs.take k = zs) := by show _ = _; rw [← HL.out, List.take_length]
      rw [HE.out] at hown
      obtain ⟨a, c, rfl⟩ := hown.shape
      clear HE
      go_wp2_with fail
      go_ret
      exact ⟨_, rfl, hown, hB⟩
theorem numsOf_calls (v : Value) (zs : List R) (w : World) (hR : Row w v zs) (h12 : zs.length ≤ 12) (h0 : zs ≠ []) :
    Calls Tryz.prog 240 #[v] w fun e w' => ∃ v', e = .returned v' ∧ OwnI w' w.heap.size v' (unr zs) ∧ Below w.heap.size w w' := by
  obtain ⟨ao, c, rfl, hl, hn, hz⟩ := hR
  rcases hz with h | ⟨b, off, rfl, hb, hC⟩
  · exact absurd h h0
  · exact numsOf_some b off _ c zs w rfl h12 hb hC
end Go.Proofs.YtdokgalidhmbbaaGreatDoor
namespace Go.Proofs.YtdokgalidhmbbaaGreatDoor
open Go.RowKit Go.Lib Go.Sort

set_option maxRecDepth 100000 in
set_option maxHeartbeats 4000000 in
theorem check_1 (k : Int) (ao : Option Addr) (n c : Nat) (d : ByteArray) (ns : List Int) (w : World) (hC0 : Cnts w) (hR0 : IRow w (.slice ao n c) ns) (hn : ns.length = n) (hd : d.size ≤ maxLen) (h1 : kindB k = false) :
    Calls Tryz.prog 205 #[.agg #[.int .i64 k, .slice ao n c, .string d]] w fun e w' => e = .returned (errV 1) ∧ Below w.heap.size w w' := by
  unfold maxLen at hd
  have hl : n ≤ 9223372036854775807 := by obtain ⟨_, _, _, h, _⟩ := hR0; omega
  have bel : Below w.heap.size w (w.alloc (.cells #[.int .i64 k, .slice ao n c, .string d] 141)) := (Below.refl _ w).alloc (Nat.le_refl _) _
  have hlt : w.heap.size < (w.alloc (.cells #[.int .i64 k, .slice ao n c, .string d] 141)).heap.size := by simp
  have HK := isKind_calls k
  rw [h1] at HK
  clear hC0 hR0 hn
  go_enter Tryz.func205, Tryz.ntmps205
  go_wp2_with (first | (go_at_call 207; refine (HK _).mono ?_; rintro e w1 ⟨rfl, rfl⟩))
  go_ret
  exact ⟨rfl, bel⟩

set_option maxRecDepth 100000 in
set_option maxHeartbeats 4000000 in
theorem check_2 (k : Int) (ao : Option Addr) (n c : Nat) (d : ByteArray) (ns : List Int) (w : World) (hC0 : Cnts w) (hR0 : IRow w (.slice ao n c) ns) (hn : ns.length = n) (hd : d.size ≤ maxLen) (h1 : kindB k = true) (h2 : cntB k n = false) :
    Calls Tryz.prog 205 #[.agg #[.int .i64 k, .slice ao n c, .string d]] w fun e w' => e = .returned (errV 3) ∧ Below w.heap.size w w' := by
  unfold maxLen at hd
  have hl : n ≤ 9223372036854775807 := by obtain ⟨_, _, _, h, _⟩ := hR0; omega
  have bel : Below w.heap.size w (w.alloc (.cells #[.int .i64 k, .slice ao n c, .string d] 141)) := (Below.refl _ w).alloc (Nat.le_refl _) _
  have hlt : w.heap.size < (w.alloc (.cells #[.int .i64 k, .slice ao n c, .string d] 141)).heap.size := by simp
  have HK := isKind_calls k
  rw [h1] at HK
  have HC := isCount_calls k n (w.alloc (.cells #[.int .i64 k, .slice ao n c, .string d] 141)) (hC0.below bel) h1 hl
  rw [h2] at HC
  clear hC0 hR0 hn
  go_enter Tryz.func205, Tryz.ntmps205
  go_wp2_with (first | (go_at_call 207; refine (HK _).mono ?_; rintro e w1 ⟨rfl, rfl⟩) | (go_at_call 220; refine HC.mono ?_; rintro e w1 ⟨rfl, rfl⟩))
  go_ret
  exact ⟨rfl, bel⟩

set_option maxRecDepth 100000 in
set_option maxHeartbeats 4000000 in
theorem check_3 (k : Int) (ao : Option Addr) (n c : Nat) (d : ByteArray) (ns : List Int) (w : World) (hC0 : Cnts w) (hR0 : IRow w (.slice ao n c) ns) (hn : ns.length = n) (hd : d.size ≤ maxLen) (h1 : kindB k = true) (h2 : cntB k n = true) (h3 : k ≠ 3) (h3' : d.size ≠ 0) :
    Calls Tryz.prog 205 #[.agg #[.int .i64 k, .slice ao n c, .string d]] w fun e w' => e = .returned (errV 3) ∧ Below w.heap.size w w' := by
  unfold maxLen at hd
  have hl : n ≤ 9223372036854775807 := by obtain ⟨_, _, _, h, _⟩ := hR0; omega
  have bel : Below w.heap.size w (w.alloc (.cells #[.int .i64 k, .slice ao n c, .string d] 141)) := (Below.refl _ w).alloc (Nat.le_refl _) _
  have hlt : w.heap.size < (w.alloc (.cells #[.int .i64 k, .slice ao n c, .string d] 141)).heap.size := by simp
  have HK := isKind_calls k
  rw [h1] at HK
  have HC := isCount_calls k n (w.alloc (.cells #[.int .i64 k, .slice ao n c, .string d] 141)) (hC0.below bel) h1 hl
  rw [h2] at HC
  have hne := str_ne h3'
  have hk3 : ¬ k = 3 := h3
  clear hC0 hR0 hn
  go_enter Tryz.func205, Tryz.ntmps205
  go_wp2_with (first | (go_at_call 207; refine (HK _).mono ?_; rintro e w1 ⟨rfl, rfl⟩) | (go_at_call 220; refine HC.mono ?_; rintro e w1 ⟨rfl, rfl⟩))
  go_ret
  exact ⟨by simp [hk3, hne]; rfl, bel⟩

set_option maxRecDepth 100000 in
set_option maxHeartbeats 4000000 in
theorem check_4a (ao : Option Addr) (n c : Nat) (d : ByteArray) (ns : List Int) (w : World) (hC0 : Cnts w) (hR0 : IRow w (.slice ao n c) ns) (hn : ns.length = n) (hd : d.size ≤ maxLen) (h1 : kindB 3 = true) (h2 : cntB 3 n = true) (h4 : anyB ns = true) :
    Calls Tryz.prog 205 #[.agg #[.int .i64 3, .slice ao n c, .string d]] w fun e w' => e = .returned (errV 1) ∧ Below w.heap.size w w' := by
  unfold maxLen at hd
  have hl : n ≤ 9223372036854775807 := by obtain ⟨_, _, _, h, _⟩ := hR0; omega
  have bel : Below w.heap.size w (w.alloc (.cells #[.int .i64 3, .slice ao n c, .string d] 141)) := (Below.refl _ w).alloc (Nat.le_refl _) _
  have hlt : w.heap.size < (w.alloc (.cells #[.int .i64 3, .slice ao n c, .string d] 141)).heap.size := by simp
  have HK := isKind_calls 3
  rw [h1] at HK
  have HC := isCount_calls 3 n (w.alloc (.cells #[.int .i64 3, .slice ao n c, .string d] 141)) (hC0.below bel) h1 hl
  rw [h2] at HC
  have HF := cont_calls (.slice ao n c) ns (w.alloc (.cells #[.int .i64 3, .slice ao n c, .string d] 141)) (hR0.below bel)
  rw [h4] at HF
  have p0 : (w.alloc (.cells #[.int .i64 3, .slice ao n c, .string d] 141)).cell? ⟨w.heap.size, 0, none⟩ = some (.int .i64 3) := by simp
  have p1 : (w.alloc (.cells #[.int .i64 3, .slice ao n c, .string d] 141)).cell? ⟨w.heap.size, 1, none⟩ = some (.slice ao n c) := by simp
  have p2 : (w.alloc (.cells #[.int .i64 3, .slice ao n c, .string d] 141)).cell? ⟨w.heap.size, 2, none⟩ = some (.string d) := by simp
  clear hC0 hR0 hn
  go_enter Tryz.func205, Tryz.ntmps205
  go_wp2_with (first | (go_at_call 207; refine (HK _).mono ?_; rintro e w1 ⟨rfl, rfl⟩) | (go_at_call 220; refine HC.mono ?_; rintro e w1 ⟨rfl, rfl⟩) | (go_at_call 221; refine HF.mono ?_; rintro e w2 ⟨rfl, hb2⟩; have q0 := (hb2.cell (p := ⟨w.heap.size, 0, none⟩) hlt).trans p0; have q1 := (hb2.cell (p := ⟨w.heap.size, 1, none⟩) hlt).trans p1; have q2 := (hb2.cell (p := ⟨w.heap.size, 2, none⟩) hlt).trans p2; have hB2 := bel.trans (hb2.mono bel.size)))
  go_ret
  exact ⟨rfl, hB2⟩

set_option maxRecDepth 100000 in
set_option maxHeartbeats 4000000 in
theorem check_4b (k : Int) (ao : Option Addr) (n c : Nat) (ns : List Int) (w : World) (hC0 : Cnts w) (hR0 : IRow w (.slice ao n c) ns) (hn : ns.length = n) (h1 : kindB k = true) (h2 : cntB k n = true) (h3 : k ≠ 3) (h4 : anyB ns = true) :
    Calls Tryz.prog 205 #[.agg #[.int .i64 k, .slice ao n c, .string { data := #[] }]] w fun e w' => e = .returned (errV 1) ∧ Below w.heap.size w w' := by
  skip
  have hl : n ≤ 9223372036854775807 := by obtain ⟨_, _, _, h, _⟩ := hR0; omega
  have bel : Below w.heap.size w (w.alloc (.cells #[.int .i64 k, .slice ao n c, .string { data := #[] }] 141)) := (Below.refl _ w).alloc (Nat.le_refl _) _
  have hlt : w.heap.size < (w.alloc (.cells #[.int .i64 k, .slice ao n c, .string { data := #[] }] 141)).heap.size := by simp
  have HK := isKind_calls k
  rw [h1] at HK
  have HC := isCount_calls k n (w.alloc (.cells #[.int .i64 k, .slice ao n c, .string { data := #[] }] 141)) (hC0.below bel) h1 hl
  rw [h2] at HC
  have HF := cont_calls (.slice ao n c) ns (w.alloc (.cells #[.int .i64 k, .slice ao n c, .string { data := #[] }] 141)) (hR0.below bel)
  rw [h4] at HF
  have p0 : (w.alloc (.cells #[.int .i64 k, .slice ao n c, .string { data := #[] }] 141)).cell? ⟨w.heap.size, 0, none⟩ = some (.int .i64 k) := by simp
  have p1 : (w.alloc (.cells #[.int .i64 k, .slice ao n c, .string { data := #[] }] 141)).cell? ⟨w.heap.size, 1, none⟩ = some (.slice ao n c) := by simp
  have p2 : (w.alloc (.cells #[.int .i64 k, .slice ao n c, .string { data := #[] }] 141)).cell? ⟨w.heap.size, 2, none⟩ = some (.string { data := #[] }) := by simp
  have hk3 : ¬ k = 3 := h3
  clear hC0 hR0 hn
  go_enter Tryz.func205, Tryz.ntmps205
  go_wp2_with (first | (go_at_call 207; refine (HK _).mono ?_; rintro e w1 ⟨rfl, rfl⟩) | (go_at_call 220; refine HC.mono ?_; rintro e w1 ⟨rfl, rfl⟩) | (go_at_call 221; refine HF.mono ?_; rintro e w2 ⟨rfl, hb2⟩; have q0 := (hb2.cell (p := ⟨w.heap.size, 0, none⟩) hlt).trans p0; have q1 := (hb2.cell (p := ⟨w.heap.size, 1, none⟩) hlt).trans p1; have q2 := (hb2.cell (p := ⟨w.heap.size, 2, none⟩) hlt).trans p2; have hB2 := bel.trans (hb2.mono bel.size)))
  go_ret
  exact ⟨rfl, hB2⟩

set_option maxRecDepth 100000 in
set_option maxHeartbeats 4000000 in
theorem check_5 (ao : Option Addr) (n c : Nat) (d : ByteArray) (ns : List Int) (w : World) (hC0 : Cnts w) (hR0 : IRow w (.slice ao n c) ns) (hn : ns.length = n) (hd : d.size ≤ maxLen) (h1 : kindB 3 = true) (h2 : cntB 3 n = true) (h4 : anyB ns = false) (h5 : 20 < d.size) :
    Calls Tryz.prog 205 #[.agg #[.int .i64 3, .slice ao n c, .string d]] w fun e w' => e = .returned (errV 4) ∧ Below w.heap.size w w' := by
  unfold maxLen at hd
  have hl : n ≤ 9223372036854775807 := by obtain ⟨_, _, _, h, _⟩ := hR0; omega
  have bel : Below w.heap.size w (w.alloc (.cells #[.int .i64 3, .slice ao n c, .string d] 141)) := (Below.refl _ w).alloc (Nat.le_refl _) _
  have hlt : w.heap.size < (w.alloc (.cells #[.int .i64 3, .slice ao n c, .string d] 141)).heap.size := by simp
  have HK := isKind_calls 3
  rw [h1] at HK
  have HC := isCount_calls 3 n (w.alloc (.cells #[.int .i64 3, .slice ao n c, .string d] 141)) (hC0.below bel) h1 hl
  rw [h2] at HC
  have HF := cont_calls (.slice ao n c) ns (w.alloc (.cells #[.int .i64 3, .slice ao n c, .string d] 141)) (hR0.below bel)
  rw [h4] at HF
  have p0 : (w.alloc (.cells #[.int .i64 3, .slice ao n c, .string d] 141)).cell? ⟨w.heap.size, 0, none⟩ = some (.int .i64 3) := by simp
  have p1 : (w.alloc (.cells #[.int .i64 3, .slice ao n c, .string d] 141)).cell? ⟨w.heap.size, 1, none⟩ = some (.slice ao n c) := by simp
  have p2 : (w.alloc (.cells #[.int .i64 3, .slice ao n c, .string d] 141)).cell? ⟨w.heap.size, 2, none⟩ = some (.string d) := by simp
  have g5 : (20 : Int) < (d.size : Int) := by omega
  clear hC0 hR0 hn
  go_enter Tryz.func205, Tryz.ntmps205
  go_wp2_with (first | (go_at_call 207; refine (HK _).mono ?_; rintro e w1 ⟨rfl, rfl⟩) | (go_at_call 220; refine HC.mono ?_; rintro e w1 ⟨rfl, rfl⟩) | (go_at_call 221; refine HF.mono ?_; rintro e w2 ⟨rfl, hb2⟩; have q0 := (hb2.cell (p := ⟨w.heap.size, 0, none⟩) hlt).trans p0; have q1 := (hb2.cell (p := ⟨w.heap.size, 1, none⟩) hlt).trans p1; have q2 := (hb2.cell (p := ⟨w.heap.size, 2, none⟩) hlt).trans p2; have hB2 := bel.trans (hb2.mono bel.size)))
  go_ret
  exact ⟨rfl, hB2⟩

set_option maxRecDepth 100000 in
set_option maxHeartbeats 4000000 in
theorem check_6a (ao : Option Addr) (n c : Nat) (d : ByteArray) (ns : List Int) (w : World) (hC0 : Cnts w) (hR0 : IRow w (.slice ao n c) ns) (hn : ns.length = n) (hd : d.size ≤ maxLen) (h1 : kindB 3 = true) (h2 : cntB 3 n = true) (h4 : anyB ns = false) (h5 : d.size ≤ 20) :
    Calls Tryz.prog 205 #[.agg #[.int .i64 3, .slice ao n c, .string d]] w fun e w' => e = .returned (errV 0) ∧ Below w.heap.size w w' := by
  unfold maxLen at hd
  have hl : n ≤ 9223372036854775807 := by obtain ⟨_, _, _, h, _⟩ := hR0; omega
  have bel : Below w.heap.size w (w.alloc (.cells #[.int .i64 3, .slice ao n c, .string d] 141)) := (Below.refl _ w).alloc (Nat.le_refl _) _
  have hlt : w.heap.size < (w.alloc (.cells #[.int .i64 3, .slice ao n c, .string d] 141)).heap.size := by simp
  have HK := isKind_calls 3
  rw [h1] at HK
  have HC := isCount_calls 3 n (w.alloc (.cells #[.int .i64 3, .slice ao n c, .string d] 141)) (hC0.below bel) h1 hl
  rw [h2] at HC
  have HF := cont_calls (.slice ao n c) ns (w.alloc (.cells #[.int .i64 3, .slice ao n c, .string d] 141)) (hR0.below bel)
  rw [h4] at HF
  have p0 : (w.alloc (.cells #[.int .i64 3, .slice ao n c, .string d] 141)).cell? ⟨w.heap.size, 0, none⟩ = some (.int .i64 3) := by simp
  have p1 : (w.alloc (.cells #[.int .i64 3, .slice ao n c, .string d] 141)).cell? ⟨w.heap.size, 1, none⟩ = some (.slice ao n c) := by simp
  have p2 : (w.alloc (.cells #[.int .i64 3, .slice ao n c, .string d] 141)).cell? ⟨w.heap.size, 2, none⟩ = some (.string d) := by simp
  have g5 : ¬ (20 : Int) < (d.size : Int) := by omega
  clear hC0 hR0 hn
  go_enter Tryz.func205, Tryz.ntmps205
  go_wp2_with (first | (go_at_call 207; refine (HK _).mono ?_; rintro e w1 ⟨rfl, rfl⟩) | (go_at_call 220; refine HC.mono ?_; rintro e w1 ⟨rfl, rfl⟩) | (go_at_call 221; refine HF.mono ?_; rintro e w2 ⟨rfl, hb2⟩; have q0 := (hb2.cell (p := ⟨w.heap.size, 0, none⟩) hlt).trans p0; have q1 := (hb2.cell (p := ⟨w.heap.size, 1, none⟩) hlt).trans p1; have q2 := (hb2.cell (p := ⟨w.heap.size, 2, none⟩) hlt).trans p2; have hB2 := bel.trans (hb2.mono bel.size)))
  go_ret
  exact ⟨rfl, hB2⟩

set_option maxRecDepth 100000 in
set_option maxHeartbeats 4000000 in
theorem check_6b (k : Int) (ao : Option Addr) (n c : Nat) (ns : List Int) (w : World) (hC0 : Cnts w) (hR0 : IRow w (.slice ao n c) ns) (hn : ns.length = n) (h1 : kindB k = true) (h2 : cntB k n = true) (h3 : k ≠ 3) (h4 : anyB ns = false) (h6 : k ≠ 2) :
    Calls Tryz.prog 205 #[.agg #[.int .i64 k, .slice ao n c, .string { data := #[] }]] w fun e w' => e = .returned (errV 0) ∧ Below w.heap.size w w' := by
  skip
  have hl : n ≤ 9223372036854775807 := by obtain ⟨_, _, _, h, _⟩ := hR0; omega
  have bel : Below w.heap.size w (w.alloc (.cells #[.int .i64 k, .slice ao n c, .string { data := #[] }] 141)) := (Below.refl _ w).alloc (Nat.le_refl _) _
  have hlt : w.heap.size < (w.alloc (.cells #[.int .i64 k, .slice ao n c, .string { data := #[] }] 141)).heap.size := by simp
  have HK := isKind_calls k
  rw [h1] at HK
  have HC := isCount_calls k n (w.alloc (.cells #[.int .i64 k, .slice ao n c, .string { data := #[] }] 141)) (hC0.below bel) h1 hl
  rw [h2] at HC
  have HF := cont_calls (.slice ao n c) ns (w.alloc (.cells #[.int .i64 k, .slice ao n c, .string { data := #[] }] 141)) (hR0.below bel)
  rw [h4] at HF
  have p0 : (w.alloc (.cells #[.int .i64 k, .slice ao n c, .string { data := #[] }] 141)).cell? ⟨w.heap.size, 0, none⟩ = some (.int .i64 k) := by simp
  have p1 : (w.alloc (.cells #[.int .i64 k, .slice ao n c, .string { data := #[] }] 141)).cell? ⟨w.heap.size, 1, none⟩ = some (.slice ao n c) := by simp
  have p2 : (w.alloc (.cells #[.int .i64 k, .slice ao n c, .string { data := #[] }] 141)).cell? ⟨w.heap.size, 2, none⟩ = some (.string { data := #[] }) := by simp
  have hk3 : ¬ k = 3 := h3
  have hk2 : ¬ k = 2 := h6
  clear hC0 hR0 hn
  go_enter Tryz.func205, Tryz.ntmps205
  go_wp2_with (first | (go_at_call 207; refine (HK _).mono ?_; rintro e w1 ⟨rfl, rfl⟩) | (go_at_call 220; refine HC.mono ?_; rintro e w1 ⟨rfl, rfl⟩) | (go_at_call 221; refine HF.mono ?_; rintro e w2 ⟨rfl, hb2⟩; have q0 := (hb2.cell (p := ⟨w.heap.size, 0, none⟩) hlt).trans p0; have q1 := (hb2.cell (p := ⟨w.heap.size, 1, none⟩) hlt).trans p1; have q2 := (hb2.cell (p := ⟨w.heap.size, 2, none⟩) hlt).trans p2; have hB2 := bel.trans (hb2.mono bel.size)))
  go_ret
  exact ⟨rfl, hB2⟩

set_option maxRecDepth 100000 in
set_option maxHeartbeats 4000000 in
theorem check_7 (ao : Option Addr) (n c : Nat) (ns : List Int) (w : World) (hC0 : Cnts w) (hR0 : IRow w (.slice ao n c) ns) (hn : ns.length = n) (h1 : kindB 2 = true) (h2 : cntB 2 n = true) (h4 : anyB ns = false) (M : Nat) (hM : n = 2 * M) (hM1 : 1 ≤ M) (hM12 : M ≤ 12) :
    Calls Tryz.prog 205 #[.agg #[.int .i64 2, .slice ao n c, .string { data := #[] }]] w fun e w' => e = .returned (if chk (rgs ns) ≠ 0 then errV 3 else errV 0) ∧ Below w.heap.size w w' := by
  skip
  have hl : n ≤ 9223372036854775807 := by obtain ⟨_, _, _, h, _⟩ := hR0; omega
  have bel : Below w.heap.size w (w.alloc (.cells #[.int .i64 2, .slice ao n c, .string { data := #[] }] 141)) := (Below.refl _ w).alloc (Nat.le_refl _) _
  have hlt : w.heap.size < (w.alloc (.cells #[.int .i64 2, .slice ao n c, .string { data := #[] }] 141)).heap.size := by simp
  have HK := isKind_calls 2
  rw [h1] at HK
  have HC := isCount_calls 2 n (w.alloc (.cells #[.int .i64 2, .slice ao n c, .string { data := #[] }] 141)) (hC0.below bel) h1 hl
  rw [h2] at HC
  have HF := cont_calls (.slice ao n c) ns (w.alloc (.cells #[.int .i64 2, .slice ao n c, .string { data := #[] }] 141)) (hR0.below bel)
  rw [h4] at HF
  have p0 : (w.alloc (.cells #[.int .i64 2, .slice ao n c, .string { data := #[] }] 141)).cell? ⟨w.heap.size, 0, none⟩ = some (.int .i64 2) := by simp
  have p1 : (w.alloc (.cells #[.int .i64 2, .slice ao n c, .string { data := #[] }] 141)).cell? ⟨w.heap.size, 1, none⟩ = some (.slice ao n c) := by simp
  have p2 : (w.alloc (.cells #[.int .i64 2, .slice ao n c, .string { data := #[] }] 141)).cell? ⟨w.heap.size, 2, none⟩ = some (.string { data := #[] }) := by simp
  have HR := fun W hb => rangesOf_calls (.slice ao n c) ns M W (hR0.below hb) (by omega) hM1 hM12
  clear hM
  have HX0 := fun W v (h : Row W v (rgs ns)) => check_calls v (rgs ns) W h
  generalize chk (rgs ns) = r at *
  by_cases hr : r = 0
  · subst hr
    rw [if_neg (by simp)]
    rw [show errV 0 = .nilIface from rfl] at HX0
    clear hC0 hR0 hn
    go_enter Tryz.func205, Tryz.ntmps205
    go_wp2_with (first | (go_at_call 207; refine (HK _).mono ?_; rintro e w1 ⟨rfl, rfl⟩) | (go_at_call 220; refine HC.mono ?_; rintro e w1 ⟨rfl, rfl⟩) | (go_at_call 221; refine HF.mono ?_; rintro e w2 ⟨rfl, hb2⟩; have q0 := (hb2.cell (p := ⟨w.heap.size, 0, none⟩) hlt).trans p0; have q1 := (hb2.cell (p := ⟨w.heap.size, 1, none⟩) hlt).trans p1; have q2 := (hb2.cell (p := ⟨w.heap.size, 2, none⟩) hlt).trans p2; have hB2 := bel.trans (hb2.mono bel.size)) | (go_at_call 223; refine (HR _ hB2).mono ?_; rintro e w3 ⟨v3, rfl, hR3, hf3, hb3⟩; have hB3 := hB2.trans (hb3.mono hB2.size); have HX := HX0 _ _ hR3; obtain ⟨a3, c3, hv3, _⟩ := id hR3; subst hv3) | (go_at_call 158; refine HX.mono ?_; rintro e w4 ⟨rfl, hb4⟩; have hB4 := hB3.trans (hb4.mono hB3.size)))
    go_ret
    exact ⟨rfl, hB4⟩

  · rw [if_pos hr]
    rw [show errV r = .iface 133 (.int .i64 r) by simp [errV, hr]] at HX0
    clear hC0 hR0 hn
    go_enter Tryz.func205, Tryz.ntmps205
    go_wp2_with (first | (go_at_call 207; refine (HK _).mono ?_; rintro e w1 ⟨rfl, rfl⟩) | (go_at_call 220; refine HC.mono ?_; rintro e w1 ⟨rfl, rfl⟩) | (go_at_call 221; refine HF.mono ?_; rintro e w2 ⟨rfl, hb2⟩; have q0 := (hb2.cell (p := ⟨w.heap.size, 0, none⟩) hlt).trans p0; have q1 := (hb2.cell (p := ⟨w.heap.size, 1, none⟩) hlt).trans p1; have q2 := (hb2.cell (p := ⟨w.heap.size, 2, none⟩) hlt).trans p2; have hB2 := bel.trans (hb2.mono bel.size)) | (go_at_call 223; refine (HR _ hB2).mono ?_; rintro e w3 ⟨v3, rfl, hR3, hf3, hb3⟩; have hB3 := hB2.trans (hb3.mono hB2.size); have HX := HX0 _ _ hR3; obtain ⟨a3, c3, hv3, _⟩ := id hR3; subst hv3) | (go_at_call 158; refine HX.mono ?_; rintro e w4 ⟨rfl, hb4⟩; have hB4 := hB3.trans (hb4.mono hB3.size)))
    go_ret
    exact ⟨rfl, hB4⟩


theorem frame_check (k : Int) (v : Value) (d : ByteArray) (ns : List Int) (w : World) (hC : Cnts w) (hR : IRow w v ns) (hd : d.size ≤ maxLen) :
    Calls Tryz.prog 205 #[.agg #[.int .i64 k, v, .string d]] w fun e w' => e = .returned (errV (frF k ns d)) ∧ Below w.heap.size w w' := by
  have hR' := hR
  obtain ⟨ao, c, rfl, _⟩ := hR
  unfold frF
  cases h1 : kindB k with
  | false => rw [if_pos rfl]; exact check_1 k ao _ c d ns w hC hR' rfl hd h1
  | true =>
    rw [if_neg (by simp)]
    cases h2 : cntB k ns.length with
    | false => rw [if_pos rfl]; exact check_2 k ao _ c d ns w hC hR' rfl hd h1 h2
    | true =>
      rw [if_neg (by simp)]
      by_cases h3 : k = 3
      · subst h3
        rw [if_neg (by simp)]
        cases h4 : anyB ns with
        | true => rw [if_pos rfl]; exact check_4a ao _ c d ns w hC hR' rfl hd h1 h2 h4
        | false =>
          rw [if_neg (by simp)]
          by_cases h5 : 20 < d.size
          · rw [if_pos h5]; exact check_5 ao _ c d ns w hC hR' rfl hd h1 h2 h4 h5
          · rw [if_neg h5, if_neg (by simp)]; exact check_6a ao _ c d ns w hC hR' rfl hd h1 h2 h4 (by omega)
      · by_cases h0 : d.size = 0
        · obtain rfl := str_nil h0
          rw [if_neg (by simp [h0])]
          cases h4 : anyB ns with
          | true => rw [if_pos rfl]; exact check_4b k ao _ c ns w hC hR' rfl h1 h2 h3 h4
          | false =>
            rw [if_neg (by simp), if_neg (by rw [h0]; omega)]
            by_cases h6 : k = 2
            · subst h6
              obtain ⟨M, hM, hM1, hM12⟩ := cntB_ack h2
              refine (check_7 ao _ c ns w hC hR' rfl h1 h2 h4 M hM hM1 hM12).mono ?_
              rintro e w' ⟨rfl, hb⟩
              refine ⟨?_, hb⟩
              by_cases hr : chk (rgs ns) = 0
              · rw [if_neg (by simp [hr]), if_neg (by simp [hr])]
              · rw [if_pos hr, if_pos ⟨rfl, hr⟩]
            · rw [if_neg (by simp [h6])]; exact check_6b k ao _ c ns w hC hR' rfl h1 h2 h3 h4 h6
        · rw [if_pos ⟨h3, h0⟩]; exact check_3 k ao _ c d ns w hC hR' rfl hd h1 h2 h3 h0


theorem all_row (v : Value) (ns : List Int) (w : World) (hF : V.Forms w) (hR : IRow w v ns) (hl : ns.length ≤ 40) (hm : Mays ns) :
    Calls Tryz.prog 225 #[v] w fun e w' => e = .returned (.tuple #[.string (strOfNums (ns.flatMap V.nums)), .nilIface]) ∧ Below w.heap.size w w' := by
  obtain ⟨ao, c, rfl, _, _, hz⟩ := hR
  rcases hz with h | ⟨b, off, rfl, hb, hC⟩
  · subst h
    exact V.all_none ao c w
  · refine (V.all_some b off ns.length c ns w hF rfl hl hb hC).mono ?_
    rintro e w' ⟨⟨_, rfl⟩ | ⟨ha, _⟩, hb⟩
    · exact ⟨rfl, hb⟩
    · rw [mays_all hm] at ha; cases ha

set_option maxRecDepth 100000 in
set_option maxHeartbeats 4000000 in
theorem pn_2 (ao : Option Addr) (n c M : Nat) (d : ByteArray) (ns : List Int) (w : World) (hF : V.Forms w) (hR0 : IRow w (.slice ao n c) ns) (hn : ns.length = n) (hM : n = 2 * M) (hM1 : 1 ≤ M) (hM12 : M ≤ 12) (hg : Good (rgs ns)) (hne : rgs ns ≠ []) :
    Calls Tryz.prog 206 #[.agg #[.int .i64 2, .slice ao n c, .string d]] w fun e w' => e = .returned (.tuple #[.string (strOfNums (enc (rgs ns))), .nilIface]) ∧ Below w.heap.size w w' := by
  have bel : Below w.heap.size w (w.alloc (.cells #[.int .i64 2, .slice ao n c, .string d] 141)) := (Below.refl _ w).alloc (Nat.le_refl _) _
  have HR := rangesOf_calls (.slice ao n c) ns M (w.alloc (.cells #[.int .i64 2, .slice ao n c, .string d] 141)) (hR0.below bel) (by omega) hM1 hM12
  have HP := fun W v (h1 : V.Forms W) (h2 : Row W v (rgs ns)) (h3 : Fits v) => print_ok v (rgs ns) W h1 h2 h3 hg hne
  have hF1 := hF.below bel
  clear hM hn hR0 hg hne hF
  generalize strOfNums (enc (rgs ns)) = se at *
  go_enter Tryz.func206, Tryz.ntmps206
  go_wp2_with (first | (go_at_call 223; refine HR.mono ?_; rintro e w3 ⟨v3, rfl, hR3, hf3, hb3⟩; have hB3 := bel.trans (hb3.mono bel.size); have HX := HP _ _ (hF1.below hb3) hR3 hf3; obtain ⟨a3, c3, hv3, _⟩ := id hR3; subst hv3) | (go_at_call 224; refine HX.mono ?_; rintro e w4 ⟨rfl, hb4⟩; have hB4 := hB3.trans (hb4.mono hB3.size)))
  go_ret2
  exact ⟨rfl, hB4⟩

set_option maxRecDepth 100000 in
set_option maxHeartbeats 4000000 in
theorem pn_3 (b off c : Nat) (z : Int) (d : ByteArray) (w : World) (hF : V.Forms w) (hb : b < w.heap.size) (hc : w.cell? ⟨b, off, none⟩ = some (.int .i64 z)) (hz : 0 ≤ z ∧ z < 1073741824) (hd : d.size ≤ 20) :
    Calls Tryz.prog 206 #[.agg #[.int .i64 3, .slice (some ⟨b, off, none⟩) 1 c, .string d]] w fun e w' => e = .returned (.tuple #[.string (strOfNums (([z] ++ [(d.size : Int)]).flatMap V.nums)), .nilIface]) ∧ Below w.heap.size w w' := by
  have bel : Below w.heap.size w (w.alloc (.cells #[.int .i64 3, .slice (some ⟨b, off, none⟩) 1 c, .string d] 141)) := (Below.refl _ w).alloc (Nat.le_refl _) _
  have hlt : w.heap.size < (w.alloc (.cells #[.int .i64 3, .slice (some ⟨b, off, none⟩) 1 c, .string d] 141)).heap.size := by simp
  have p1 : (w.alloc (.cells #[.int .i64 3, .slice (some ⟨b, off, none⟩) 1 c, .string d] 141)).cell? ⟨w.heap.size, 1, none⟩ = some (.slice (some ⟨b, off, none⟩) 1 c) := by simp
  have p2 : (w.alloc (.cells #[.int .i64 3, .slice (some ⟨b, off, none⟩) 1 c, .string d] 141)).cell? ⟨w.heap.size, 2, none⟩ = some (.string d) := by simp
  have p0 : (w.alloc (.cells #[.int .i64 3, .slice (some ⟨b, off, none⟩) 1 c, .string d] 141)).cell? ⟨w.heap.size, 0, none⟩ = some (.int .i64 3) := by simp
  have pc := (bel.cell (p := ⟨b, off, none⟩) hb).trans hc
  have hF1 := hF.below bel
  have hb1 : b < (w.alloc (.cells #[.int .i64 3, .slice (some ⟨b, off, none⟩) 1 c, .string d] 141)).heap.size := by simp; omega
  have HA : ∀ W : World, V.Forms W → Calls Tryz.prog 225 #[.slice (some ⟨W.heap.size, 0, none⟩) 2 2] (W.alloc (.cells #[.int .i64 z, .int .i64 (d.size : Int)] 3)) fun e w' => e = .returned (.tuple #[.string (strOfNums (([z] ++ [(d.size : Int)]).flatMap V.nums)), .nilIface]) ∧ Below W.heap.size W w' := by
    intro W hW
    have bl : Below W.heap.size W (W.alloc (.cells #[.int .i64 z, .int .i64 (d.size : Int)] 3)) := (Below.refl _ W).alloc (Nat.le_refl _) _
    have ow : OwnI (W.alloc (.cells #[.int .i64 z, .int .i64 (d.size : Int)] 3)) W.heap.size (.slice (some ⟨W.heap.size, 0, none⟩) 2 2) [z, (d.size : Int)] := World.ownsRow_lit (base := W.heap.size) (e := 3) (size := 1) W #[.int .i64 z, .int .i64 (d.size : Int)] 2 (Nat.le_refl _) (by decide) rfl
    refine (all_own _ _ _ _ (hW.below bl) ow (by simp) (by simp) (fun y hy => by simp at hy; rcases hy with rfl | rfl <;> omega)).mono ?_
    rintro e w' ⟨rfl, hb⟩
    exact ⟨rfl, bl.trans (hb.mono bl.size)⟩
  have S0 : Hid (V.Forms (w.alloc (.cells #[.int .i64 3, .slice (some ⟨b, off, none⟩) 1 c, .string d] 141))) := hF1
  clear hF hc hF1
  generalize strOfNums (([z] ++ [(d.size : Int)]).flatMap V.nums) = se at *
  go_enter Tryz.func206, Tryz.ntmps206
  go_wp2_with fail
  generalize w.alloc (.cells #[.int .i64 3, .slice (some ⟨b, off, none⟩) 1 c, .string d] 141) = W1 at *
  have HFd : Hid (V.Forms W1.drew) := S0.out.below (Below.refl _ W1).drew
  have hbd : Below w.heap.size w W1.drew := bel.drew
  have hlt' : w.heap.size < W1.drew.heap.size := hlt
  have hb1' : b < W1.drew.heap.size := hb1
  have d1 : W1.drew.cell? ⟨w.heap.size, 1, none⟩ = some (.slice (some ⟨b, off, none⟩) 1 c) := p1
  have d2 : W1.drew.cell? ⟨w.heap.size, 2, none⟩ = some (.string d) := p2
  have dc : W1.drew.cell? ⟨b, off, none⟩ = some (.int .i64 z) := pc
  clear p0 S0
  go_region_held3 (fun X => X.cell? ⟨w.heap.size, 1, none⟩ = some (.slice (some ⟨b, off, none⟩) 1 c) ∧ X.cell? ⟨w.heap.size, 2, none⟩ = some (.string d) ∧ X.cell? ⟨b, off, none⟩ = some (.int .i64 z)) (go_keep) (first | (go_at_call 225; refine (HA _ HFd.out).mono ?_; rintro e w4 ⟨rfl, hb4⟩; have r1 := (hb4.cell (p := ⟨w.heap.size, 1, none⟩) hlt').trans d1; have r2 := (hb4.cell (p := ⟨w.heap.size, 2, none⟩) hlt').trans d2; have r3 := (hb4.cell (p := ⟨b, off, none⟩) hb1').trans dc; have hB4 := hbd.trans (hb4.mono hbd.size)))
  go_wp2_with fail
  go_ret2
  exact ⟨rfl, hB4⟩


set_option maxRecDepth 100000 in
set_option maxHeartbeats 4000000 in
theorem pn_o (k : Int) (ao : Option Addr) (n c : Nat) (d : ByteArray) (ns : List Int) (w : World) (hF : V.Forms w) (hR0 : IRow w (.slice ao n c) ns) (hn : ns.length ≤ 40) (hm : Mays ns) (h2 : k ≠ 2) (h3 : k ≠ 3) :
    Calls Tryz.prog 206 #[.agg #[.int .i64 k, .slice ao n c, .string d]] w fun e w' => e = .returned (.tuple #[.string (strOfNums (ns.flatMap V.nums)), .nilIface]) ∧ Below w.heap.size w w' := by
  have bel : Below w.heap.size w (w.alloc (.cells #[.int .i64 k, .slice ao n c, .string d] 141)) := (Below.refl _ w).alloc (Nat.le_refl _) _
  have HA := all_row (.slice ao n c) ns (w.alloc (.cells #[.int .i64 k, .slice ao n c, .string d] 141)) (hF.below bel) (hR0.below bel) hn hm
  have hk2 : ¬ k = 2 := h2
  have hk3 : ¬ k = 3 := h3
  clear hF hR0 hn hm
  generalize strOfNums (ns.flatMap V.nums) = se at *
  go_enter Tryz.func206, Tryz.ntmps206
  go_wp2_with (first | (go_at_call 225; refine HA.mono ?_; rintro e w4 ⟨rfl, hb4⟩; have hB4 := bel.trans (hb4.mono bel.size)))
  go_ret2
  exact ⟨rfl, hB4⟩
theorem printNums_calls (k : Int) (v : Value) (d : ByteArray) (ns : List Int) (w : World) (hF : V.Forms w) (hR : IRow w v ns) (h : frF k ns d = 0) :
    Calls Tryz.prog 206 #[.agg #[.int .i64 k, v, .string d]] w fun e w' => e = .returned (.tuple #[.string (strOfNums (mid k ns d)), .nilIface]) ∧ Below w.heap.size w w' := by
  obtain ⟨h1, h2, h3, h4, h5, h6⟩ := frF_ok h
  have hR' := hR
  obtain ⟨ao, c, rfl, hl, hc, hz⟩ := hR
  by_cases e2 : k = 2
  · subst e2
    obtain ⟨M, hM, hM1, hM12⟩ := cntB_ack h2
    rw [show mid 2 ns d = enc (rgs ns) by simp [mid]]
    exact pn_2 ao _ c M d ns w hF hR' rfl hM hM1 hM12 (h6 rfl) (fun e => by have := rgs_length M ns hM; rw [e] at this; simp at this; omega)
  · by_cases e3 : k = 3
    · subst e3
      have hn : ns.length = 1 := by simpa [cntB, cntK] using h2
      match ns, hn, hz, h4, hc with
      | [z], _, hz, h4, hc =>
        rcases hz with e | ⟨b, off, rfl, hb, hC⟩
        · cases e
        · rw [show mid 3 [z] d = ([z] ++ [(d.size : Int)]).flatMap V.nums by simp [mid]]
          have := hC 0 (by simp)
          exact pn_3 b off c z d w hF hb (by simpa using this) (h4 z (by simp)) h5
    · rw [show mid k ns d = ns.flatMap V.nums by simp [mid, e2, e3]]
      have hn : ns.length ≤ 2 := by
        have : ns.length = cntK k := by simpa [cntB, e2] using h2
        rw [this]; unfold cntK; split
        · omega
        · split <;> omega
      exact pn_o k ao _ c d ns w hF hR' (by omega) h4 e2 e3
theorem mid_size {k : Int} {ns : List Int} {d : ByteArray} (h : frF k ns d = 0) : (strOfNums (mid k ns d)).size ≤ 100 := by
  obtain ⟨h1, h2, h3, h4, h5, h6⟩ := frF_ok h
  rw [strOfNums_size]
  unfold mid
  split
  · rename_i e2
    subst e2
    obtain ⟨M, hM, hM1, hM12⟩ := cntB_ack h2
    have hne : rgs ns ≠ [] := fun e => by have := rgs_length M ns hM; rw [e] at this; simp at this; omega
    have := enc_length (h6 rfl) hne
    have := rgs_length M ns hM
    omega
  · rename_i e2
    have hn : ns.length ≤ 2 := by
      have : ns.length = cntK k := by simpa [cntB, e2] using h2
      rw [this]; unfold cntK; split
      · omega
      · split <;> omega
    split
    · have := flat_le (ns ++ [(d.size : Int)])
      rw [List.length_append] at this
      simp at this ⊢
      omega
    · have := flat_le ns
      omega

set_option maxRecDepth 100000 in
set_option maxHeartbeats 4000000 in
theorem frame_print_no (k : Int) (v : Value) (d : ByteArray) (ns : List Int) (w : World) (hC : Cnts w) (hR : IRow w v ns) (hd : d.size ≤ maxLen) (h : frF k ns d ≠ 0) :
    Calls Tryz.prog 177 #[.agg #[.int .i64 k, v, .string d]] w fun e w' => e = .returned (.tuple #[.string { data := #[] }, errV (frF k ns d)]) ∧ Below w.heap.size w w' := by
  have bel : Below w.heap.size w (w.alloc (.cells #[.int .i64 k, v, .string d] 141)) := (Below.refl _ w).alloc (Nat.le_refl _) _
  have HC := frame_check k v d ns _ (hC.below bel) (hR.below bel) hd
  have hE : errV (frF k ns d) = .iface 133 (.int .i64 (frF k ns d)) := by simp [errV, h]
  rw [hE] at HC ⊢
  obtain ⟨ao, c, rfl, _⟩ := hR
  clear hC hd h hE
  generalize frF k ns d = f at *
  generalize ns.length = n at *
  go_enter Tryz.func177, Tryz.ntmps177
  go_wp2_with (first | (go_at_call 205; refine HC.mono ?_; rintro e w1 ⟨rfl, hb1⟩; have hB1 := bel.trans (hb1.mono bel.size)))
  go_ret2
  exact ⟨rfl, hB1⟩

set_option maxRecDepth 100000 in
set_option maxHeartbeats 4000000 in
theorem frame_print_ok (k : Int) (v : Value) (d : ByteArray) (ns : List Int) (w : World) (hC : Cnts w) (hF : V.Forms w) (hR : IRow w v ns) (h : frF k ns d = 0) :
    Calls Tryz.prog 177 #[.agg #[.int .i64 k, v, .string d]] w fun e w' => e = .returned (.tuple #[.string (frS k ns d), .nilIface]) ∧ Below w.heap.size w w' := by
  have hk := (kindB_iff k).1 (frF_ok h).1
  have hd := (frF_ok h).2.2.2.2.1
  have bel : Below w.heap.size w (w.alloc (.cells #[.int .i64 k, v, .string d] 141)) := (Below.refl _ w).alloc (Nat.le_refl _) _
  have hlt : w.heap.size < (w.alloc (.cells #[.int .i64 k, v, .string d] 141)).heap.size := by simp
  have p0 : (w.alloc (.cells #[.int .i64 k, v, .string d] 141)).cell? ⟨w.heap.size, 0, none⟩ = some (.int .i64 k) := by simp
  have p1 : (w.alloc (.cells #[.int .i64 k, v, .string d] 141)).cell? ⟨w.heap.size, 1, none⟩ = some v := by simp
  have p2 : (w.alloc (.cells #[.int .i64 k, v, .string d] 141)).cell? ⟨w.heap.size, 2, none⟩ = some (.string d) := by simp
  have HC := frame_check k v d ns _ (hC.below bel) (hR.below bel) (by unfold maxLen; omega)
  rw [h, show errV 0 = .nilIface from rfl] at HC
  have HP := fun W (hb : Below w.heap.size w W) => printNums_calls k v d ns W (hF.below hb) (hR.below hb) h
  have ms := mid_size h
  have hcv := fun W => V.conv_new [k] W #[.int .u8 k] rfl
  simp only [List.length_cons, List.length_nil, Nat.reduceAdd] at hcv
  have HS : Hid (strOfNums [k] ++ strOfNums (mid k ns d) ++ d = frS k ns d) := rfl
  have s1 : (strOfNums [k]).size = 1 := by rw [strOfNums_size]; rfl
  obtain ⟨ao, c, rfl, _⟩ := hR
  clear hC h hF
  generalize strOfNums (mid k ns d) = sm at *
  generalize hs1 : strOfNums [k] = sk at *
  generalize frS k ns d = so at *
  generalize ns.length = n at *
  clear hs1
  have t1 : sk.size + sm.size ≤ 9223372036854775807 := by omega
  have t12 : (sk ++ sm).size ≤ 101 := by rw [ByteArray.size_append]; omega
  have t2 : (sk ++ sm).size + d.size ≤ 9223372036854775807 := by omega
  go_enter Tryz.func177, Tryz.ntmps177
  go_wp2_with (first | (go_at_call 205; refine HC.mono ?_; rintro e w1 ⟨rfl, hb1⟩; have hB1 := bel.trans (hb1.mono bel.size); have q0 := (hb1.cell (p := ⟨w.heap.size, 0, none⟩) hlt).trans p0; have q1 := (hb1.cell (p := ⟨w.heap.size, 1, none⟩) hlt).trans p1; have q2 := (hb1.cell (p := ⟨w.heap.size, 2, none⟩) hlt).trans p2; have hlt1 := Nat.lt_of_lt_of_le hlt hb1.size) | (go_at_call 206; refine (HP _ hB1).mono ?_; rintro e w2 ⟨rfl, hb2⟩; have hB2 := hB1.trans (hb2.mono hB1.size); have r0 := (hb2.cell (p := ⟨w.heap.size, 0, none⟩) hlt1).trans q0; have r2 := (hb2.cell (p := ⟨w.heap.size, 2, none⟩) hlt1).trans q2; have hlt2 := Nat.lt_of_lt_of_le hlt1 hb2.size; have y2 := fun o => (World.cell?_alloc_lt w2 o ⟨w.heap.size, 2, none⟩ hlt2).trans r2))
  go_ret2
  exact ⟨by rw [HS.out]; rfl, hB2.alloc hB2.size _⟩


theorem ext_ext (s : ByteArray) (A B : Nat) (hA : A ≤ s.size) (hB : A + B ≤ s.size) : (s.extract A s.size).extract B (s.extract A s.size).size = s.extract (A + B) s.size := by
  apply ints_inj
  have h1 : (s.extract A s.size).size = s.size - A := by rw [ByteArray.size_extract]; omega
  rw [ints_drop _ B (by omega), ints_drop s A hA, ints_drop s (A + B) hB, List.drop_drop]
theorem ext_all (s : ByteArray) : s.extract 0 s.size = s := by
  apply ints_inj
  rw [ints_drop s 0 (Nat.zero_le _)]; rfl
theorem get_nat {l : List Int} (hb : Bytes l) {g c : Int} (h : V.getI l = some (g, c)) : ∃ n : Nat, c = (n : Int) ∧ n ≤ 4 ∧ n ≤ l.length ∧ 0 ≤ g ∧ g < 1073741824 := by
  obtain ⟨h1, h2, h3⟩ := getI_inv hb h
  have b := V.lng_bd g
  have m := (mayB_iff g).1 h1
  have e := congrArg List.length h3
  rw [List.length_append, List.length_drop] at e
  have := nums_lng g
  exact ⟨c.toNat, by omega, by omega, by omega, m.1, m.2⟩
abbrev noNums : Ending := .returned (.tuple #[.slice none 0 0, .string { data := #[] }, errS])

set_option maxRecDepth 100000 in
set_option maxHeartbeats 4000000 in
theorem take_calls (s : ByteArray) (many : Nat) (w : World) (hF : V.Forms w) (hl : s.size ≤ maxLen) (hm : many ≤ 100) :
    Calls Tryz.prog 227 #[.string s, .int .i64 (many : Int)] w fun e w' => ((tk many (V.ints s) = none ∧ e = noNums) ∨ (∃ ns c v, tk many (V.ints s) = some (ns, c) ∧ e = .returned (.tuple #[v, .string (s.extract c s.size), .nilIface]) ∧ OwnI w' w.heap.size v ns)) ∧ Below w.heap.size w w' := by
  unfold maxLen at hl
  simp only [noNums, errS]
  go_enter Tryz.func227, Tryz.ntmps227
  go_wp2_with fail
  go_loopw [0, 7, 12] (fun u v i wr => ∃ (t : ByteArray) (A k : Nat) (ns : List Int), u = .string t ∧ i = .int .i64 (k : Int) ∧ k ≤ many ∧ OwnI wr w.heap.size v ns ∧ ns.length = k ∧ t.size ≤ 9223372036854775807 ∧ A ≤ s.size ∧ Hid (t = s.extract A s.size) ∧ Hid (tk many (V.ints s) = tkA (many - k) ns A (V.ints s)) ∧ Below w.heap.size w wr) (fun _ _ i _ => many - (intOf i).toNat)
  case atStart => exact ⟨s, 0, 0, [], rfl, rfl, Nat.zero_le _, World.ownsRow_nil _ _ _ _, rfl, hl, Nat.zero_le _, (ext_all s).symm, (show tk many (V.ints s) = tkA (many - 0) [] 0 (V.ints s) by rw [tkA_start]; rfl), Below.refl _ _⟩
  case round =>
    obtain ⟨t, A, k, ns, rfl, rfl, hk, hown, hnk, hts, hA, HT, hE, hB⟩ := hrel
    have hit : V.ints t = (V.ints s).drop A := by rw [HT.out, ints_drop s A hA]
    obtain ⟨a4, c4, rfl⟩ := hown.shape
    by_cases hlt : k < many
    · have g0 : (k : Int) < (many : Int) := by omega
      have HG := V.get_all t wr (hF.below hB) (by unfold maxLen; exact hts)
      have hmk : many - k = (many - (k + 1)) + 1 := by omega
      cases hg : V.getI (V.ints t) with
      | none =>
        rw [hg] at HG
        have HE : Hid (tk many (V.ints s) = none) := by show _ = _; rw [hE.out, hmk]; exact tkA_none (by rw [← hit]; exact hg)
        clear hE hg hit hnk hmk
        simp only [V.getV] at HG
        go_wp2_with fail
        refine HG.mono ?_
        rintro e w1 ⟨rfl, hb1⟩
        have hB1 := hB.trans (hb1.mono hB.size)
        go_wp2_with fail
        go_ret3
        exact ⟨.inl ⟨HE.out, rfl⟩, hB1⟩
      | some p =>
        obtain ⟨n, c⟩ := p
        rw [hg] at HG
        obtain ⟨cn, rfl, hc4, hcl, hd0, hd1⟩ := get_nat (bytes_ints t) hg
        rw [ints_length] at hcl
        have hst : t.size = s.size - A := by rw [HT.out, ByteArray.size_extract]; omega
        have HE : Hid (tk many (V.ints s) = tkA (many - (k + 1)) (ns ++ [n]) (A + cn) (V.ints s)) := by
          show _ = _
          rw [hE.out, hmk, tkA_some (by rw [← hit]; exact hg)]; rfl
        have HT2 : Hid (t.extract cn t.size = s.extract (A + cn) s.size) := by
          show _ = _
          rw [HT.out]; exact ext_ext s A cn hA (by omega)
        have HA2 : Hid (A + cn ≤ s.size) := by show _ ≤ _; omega
        have gc1 : (cn : Int) ≤ (t.size : Int) := by omega
        have hts2 : (t.extract cn t.size).size ≤ 9223372036854775807 := by rw [ByteArray.size_extract]; omega
        have hn2 : ns.length + 1 ≤ 100 := by omega
        have HNK : Hid (ns.length = k) := hnk
        clear hE hg hit hmk hst hnk
        simp only [V.getV] at HG
        go_wp2_with fail
        refine HG.mono ?_
        rintro e w1 ⟨rfl, hb1⟩
        have hB1 := hB.trans (hb1.mono hB.size)
        have hs1 := hB1.size
        have own1 := (hown.below hb1).alloc (.cells #[.int .i64 n] 3)
        have hlo := (hown.below hb1).lt
        clear HG
        go_wp2_with (at_builtin; refine append_ints rfl (.tmp 23) (.tmp 25) rfl w.heap.size _ ns rfl own1 ⟨w1.heap.size, 0, none⟩ 1 1 [n] rfl rfl (cells_one w1 n) (by simp at hn2 ⊢; omega) (by simp; omega) ?_; intro v2 w2 hown2 hg2)
        have hB2 : Below w.heap.size w w2 := (hB1.alloc hs1 _).grown hg2 (by simp; omega) (fun j e => (hlo j e).1)
        exact ⟨⟨_, A + cn, k + 1, ns ++ [n], rfl, by go_num, by omega, hown2, by simp [HNK.out], hts2, HA2.out, HT2, HE, hB2⟩, by simp [intOf]; omega⟩
    · obtain rfl : k = many := by omega
      have HE : Hid (tk k (V.ints s) = some (ns, A)) := by show _ = _; rw [hE.out, Nat.sub_self, tkA_zero]
      have HO : Hid (OwnI wr w.heap.size (.slice a4 ns.length c4) ns) := hown
      clear hE hit hown
      go_wp2_with fail
      go_ret3
      exact ⟨.inr ⟨ns, A, _, HE.out, by rw [← HT.out]; rfl, HO.out⟩, hB⟩


theorem run_from (s : ByteArray) (a : Nat) (h : a ≤ s.size) (hl : s.size ≤ 9223372036854775807) (w : World) : (Instr.slice 9 (.string s) (some (.int .i64 (a : Int))) none none).run Tryz.prog w = .ok (.string (s.extract a s.size)) w := by
  have h' : (a : Int) ≤ (s.size : Int) := by omega
  have e := Tryz.underlying9
  go_simp
theorem run_upto (s : ByteArray) (b : Nat) (h : b ≤ s.size) (hl : s.size ≤ 9223372036854775807) (w : World) : (Instr.slice 9 (.string s) none (some (.int .i64 (b : Int))) none).run Tryz.prog w = .ok (.string (s.extract 0 b)) w := by
  have h' : (b : Int) ≤ (s.size : Int) := by omega
  have e := Tryz.underlying9
  go_simp
theorem ext_pre (s : ByteArray) (A q : Nat) (hA : A ≤ s.size) (hB : A + q ≤ s.size) : (s.extract A s.size).extract 0 q = s.extract A (A + q) := by
  apply ints_inj
  rw [ints_extract, ints_drop s A hA, ints_extract]
  simp
abbrev noPiece : Ending := .returned (.tuple #[.string { data := #[] }, .string { data := #[] }, errS])

set_option maxRecDepth 100000 in
set_option maxHeartbeats 4000000 in
theorem piece_bad (s : ByteArray) (w : World) (hF : V.Forms w) (hl : s.size ≤ maxLen) (h : V.getI (V.ints s) = none) : Calls Tryz.prog 209 #[.string s] w fun e w' => e = noPiece ∧ Below w.heap.size w w' := by
  have HG := V.get_all s w hF hl
  rw [h] at HG
  simp only [V.getV] at HG
  simp only [noPiece, errS]
  clear h hF hl
  go_enter Tryz.func209, Tryz.ntmps209
  go_wp2_with (first | (go_at_call 228; refine HG.mono ?_; rintro e w1 ⟨rfl, hb1⟩))
  go_ret3
  exact ⟨rfl, hb1⟩

set_option maxRecDepth 100000 in
set_option maxHeartbeats 4000000 in
theorem piece_big (s : ByteArray) (w : World) (hF : V.Forms w) (hl : s.size ≤ maxLen) (n : Int) (c : Nat) (h : V.getI (V.ints s) = some (n, (c : Int))) (hc : c ≤ s.size) (h20 : 20 < n) : Calls Tryz.prog 209 #[.string s] w fun e w' => e = noPiece ∧ Below w.heap.size w w' := by
  have HG := V.get_all s w hF hl
  unfold maxLen at hl
  have hsl := run_from s c hc hl
  rw [h] at HG
  simp only [V.getV] at HG
  simp only [noPiece, errS]
  generalize s.extract c s.size = t at hsl
  clear h hF hl hc
  go_enter Tryz.func209, Tryz.ntmps209
  go_wp2_with (first | (go_at_call 228; refine HG.mono ?_; rintro e w1 ⟨rfl, hb1⟩))
  go_ret3
  exact ⟨rfl, hb1⟩

set_option maxRecDepth 100000 in
set_option maxHeartbeats 4000000 in
theorem piece_short (s : ByteArray) (w : World) (hF : V.Forms w) (hl : s.size ≤ maxLen) (n : Int) (c : Nat) (h : V.getI (V.ints s) = some (n, (c : Int))) (hc : c ≤ s.size) (h20 : n ≤ 20) (hs : (s.size : Int) < c + n) : Calls Tryz.prog 209 #[.string s] w fun e w' => e = noPiece ∧ Below w.heap.size w w' := by
  have HG := V.get_all s w hF hl
  unfold maxLen at hl
  have hsl := run_from s c hc hl
  rw [h] at HG
  simp only [V.getV] at HG
  simp only [noPiece, errS]
  have ht : (s.extract c s.size).size = s.size - c := by rw [ByteArray.size_extract]; omega
  generalize s.extract c s.size = t at hsl ht
  have g1 : (t.size : Int) < n := by omega
  have g20 : ¬ 20 < n := by omega
  have tl : t.size ≤ 9223372036854775807 := by omega
  clear h hF hl hc ht hs h20
  go_enter Tryz.func209, Tryz.ntmps209
  go_wp2_with (first | (go_at_call 228; refine HG.mono ?_; rintro e w1 ⟨rfl, hb1⟩))
  go_ret3
  exact ⟨rfl, hb1⟩

set_option maxRecDepth 100000 in
set_option maxHeartbeats 4000000 in
theorem piece_go (s : ByteArray) (w : World) (hF : V.Forms w) (hl : s.size ≤ maxLen) (q c : Nat) (h : V.getI (V.ints s) = some ((q : Int), (c : Int))) (hc : c + q ≤ s.size) (h20 : q ≤ 20) : Calls Tryz.prog 209 #[.string s] w fun e w' => e = .returned (.tuple #[.string (s.extract c (c + q)), .string (s.extract (c + q) s.size), .nilIface]) ∧ Below w.heap.size w w' := by
  have HG := V.get_all s w hF hl
  unfold maxLen at hl
  have hsl := run_from s c (by omega) hl
  rw [h] at HG
  simp only [V.getV] at HG
  have ht : (s.extract c s.size).size = s.size - c := by rw [ByteArray.size_extract]; omega
  have e1 := ext_pre s c q (by omega) hc
  have e2 := ext_ext s c q (by omega) hc
  generalize s.extract c s.size = t at *
  have hs1 := run_upto t q (by omega) (by omega)
  have hs2 := run_from t q (by omega) (by omega)
  rw [e1] at hs1
  rw [e2] at hs2
  have z1 : (s.extract c (c + q)).size ≤ 20 := by rw [ByteArray.size_extract]; omega
  generalize s.extract c (c + q) = t1 at *
  generalize s.extract (c + q) s.size = t2 at *
  have g1 : ¬ (t.size : Int) < (q : Int) := by omega
  have g20 : ¬ (20 : Int) < (q : Int) := by omega
  have tl : t.size ≤ 9223372036854775807 := by omega
  have HCl := fun W => clone_calls t1 W z1
  clear h hF hl hc ht e1 e2 z1 h20
  go_enter Tryz.func209, Tryz.ntmps209
  go_wp2_with (first | (go_at_call 228; refine HG.mono ?_; rintro e w1 ⟨rfl, hb1⟩))
  go_region_with (first | (go_at_call 123; refine (HCl _).mono ?_; rintro e w2 ⟨rfl, hb2⟩))
  go_wp2_with fail
  go_ret3
  exact ⟨rfl, hb1.trans ((Below.refl _ w1).drew.trans (hb2.mono (Nat.le_refl _)) |>.mono hb1.size)⟩
theorem piece_no (s : ByteArray) (w : World) (hF : V.Forms w) (hl : s.size ≤ maxLen) (h : rdPiece (V.ints s) = none) : Calls Tryz.prog 209 #[.string s] w fun e w' => e = noPiece ∧ Below w.heap.size w w' := by
  unfold rdPiece at h
  cases hg : V.getI (V.ints s) with
  | none => exact piece_bad s w hF hl hg
  | some x =>
    obtain ⟨n, c⟩ := x
    obtain ⟨cn, rfl, hc4, hcl, hd0, hd1⟩ := get_nat (bytes_ints s) hg
    rw [ints_length] at hcl
    rw [hg] at h
    simp only [ints_length] at h
    by_cases h20 : 20 < n
    · exact piece_big s w hF hl n cn hg hcl h20
    · by_cases hs : (s.size : Int) < cn + n
      · exact piece_short s w hF hl n cn hg hcl (by omega) hs
      · rw [if_neg (by omega)] at h; cases h
theorem piece_yes (s : ByteArray) (w : World) (hF : V.Forms w) (hl : s.size ≤ maxLen) (q c : Nat) (h : rdPiece (V.ints s) = some (q, c)) : Calls Tryz.prog 209 #[.string s] w fun e w' => e = .returned (.tuple #[.string (s.extract c (c + q)), .string (s.extract (c + q) s.size), .nilIface]) ∧ Below w.heap.size w w' := by
  unfold rdPiece at h
  cases hg : V.getI (V.ints s) with
  | none => rw [hg] at h; cases h
  | some x =>
    obtain ⟨n, c'⟩ := x
    obtain ⟨cn, rfl, hc4, hcl, hd0, hd1⟩ := get_nat (bytes_ints s) hg
    rw [hg] at h
    simp only [ints_length] at h
    split at h
    · cases h
    · rename_i hh
      simp only [Option.some.injEq, Prod.mk.injEq] at h
      obtain ⟨rfl, rfl⟩ := h
      refine piece_go s w hF hl n.toNat (cn : Int).toNat ?_ (by omega) (by omega)
      rw [hg, Int.toNat_natCast, show ((n.toNat : Nat) : Int) = n by omega]


theorem rdAck_1 {l : List Int} (h : tk 3 l = none) : rdAck l = none := by simp [rdAck, h]
theorem rdAck_2 {l : List Int} {a m d : Int} {c : Nat} (h : tk 3 l = some ([a, m, d], c)) (hm : 12 ≤ m) : rdAck l = none := by simp [rdAck, h, hm]
theorem rdAck_3 {l : List Int} {a m d : Int} {c : Nat} (h : tk 3 l = some ([a, m, d], c)) (hm : ¬ 12 ≤ m) (h2 : tk (2 * m.toNat) (l.drop c) = none) : rdAck l = none := by simp [rdAck, h, hm, h2]
theorem rdAck_4 {l ms : List Int} {a m d : Int} {c c2 : Nat} (hl : Bytes l) (h : tk 3 l = some ([a, m, d], c)) (hm : ¬ 12 ≤ m) (h2 : tk (2 * m.toNat) (l.drop c) = some (ms, c2)) : rdAck l = (parse (l.take (c + c2))).map fun zs => (zs, c + c2) := by
  obtain ⟨i1, i2, i3, i4⟩ := tk_inv 3 l _ c hl h
  obtain ⟨j1, j2, j3, j4⟩ := tk_inv _ _ _ _ (bytes_drop hl _) h2
  have m0 := (i2 m (by simp)).1
  have hmm : Mays (a :: m :: d :: ms) := by
    intro z hz
    rcases List.mem_cons.1 hz with rfl | hz
    · exact i2 _ (by simp)
    rcases List.mem_cons.1 hz with rfl | hz
    · exact i2 _ (by simp)
    rcases List.mem_cons.1 hz with rfl | hz
    · exact i2 _ (by simp)
    · exact j2 z hz
  have e1 : l.take (c + c2) = (a :: m :: d :: ms).flatMap V.nums := by
    rw [List.take_add, tk_take hl h, tk_take (bytes_drop hl _) h2]
    simp only [List.flatMap_cons, List.flatMap_nil, List.append_nil, List.append_assoc]
  have e2 : parse (l.take (c + c2)) = parseN (a :: m :: d :: ms) := by
    unfold parse
    rw [e1, rd_back _ 25 hmm (by simp; omega)]
    rfl
  rw [e2]
  simp only [rdAck, h, Option.bind_some, parseN]
  rw [if_neg hm, h2]
  simp only [Option.bind_some]
  by_cases hlo : 0 ≤ lastLo (a - d) ms
  · rw [if_pos hlo, if_pos ⟨by omega, hlo⟩]; rfl
  · rw [if_neg hlo, if_neg (by rintro ⟨_, h⟩; exact hlo h)]; rfl

theorem take_no (s : ByteArray) (many : Nat) (w : World) (hF : V.Forms w) (hl : s.size ≤ maxLen) (hm : many ≤ 100) (h : tk many (V.ints s) = none) :
    Calls Tryz.prog 227 #[.string s, .int .i64 (many : Int)] w fun e w' => e = noNums ∧ Below w.heap.size w w' := by
  refine (take_calls s many w hF hl hm).mono ?_
  rintro e w' ⟨⟨_, he⟩ | ⟨ns, c, v, h1, _⟩, hb⟩
  · exact ⟨he, hb⟩
  · rw [h] at h1; cases h1
theorem take_yes (s : ByteArray) (many : Nat) (w : World) (hF : V.Forms w) (hl : s.size ≤ maxLen) (hm : many ≤ 100) (ns : List Int) (c : Nat) (h : tk many (V.ints s) = some (ns, c)) :
    Calls Tryz.prog 227 #[.string s, .int .i64 (many : Int)] w fun e w' => ∃ v, e = .returned (.tuple #[v, .string (s.extract c s.size), .nilIface]) ∧ OwnI w' w.heap.size v ns ∧ Below w.heap.size w w' := by
  refine (take_calls s many w hF hl hm).mono ?_
  rintro e w' ⟨⟨h1, _⟩ | ⟨ns', c', v, h1, he, ho⟩, hb⟩
  · rw [h] at h1; cases h1
  · rw [h] at h1; cases h1; exact ⟨v, he, ho, hb⟩

abbrev AckPost (s : ByteArray) (w : World) (e : Ending) (w' : World) : Prop :=
  ((rdAck (V.ints s) = none ∧ e = noNums) ∨ (∃ zs c v, rdAck (V.ints s) = some (zs, c) ∧ e = .returned (.tuple #[v, .string (s.extract c s.size), .nilIface]) ∧ OwnI w' w.heap.size v (unr zs))) ∧ Below w.heap.size w w'

set_option maxRecDepth 100000 in
set_option maxHeartbeats 4000000 in
theorem ack_1 (s : ByteArray) (w : World) (hF : V.Forms w) (hl : s.size ≤ maxLen) (h : tk 3 (V.ints s) = none) : Calls Tryz.prog 226 #[.string s] w (AckPost s w) := by
  have H3 := take_no s 3 w hF hl (by decide) h
  have HE : Hid (rdAck (V.ints s) = none) := rdAck_1 h
  simp only [noNums, errS] at H3
  clear h hF hl
  go_enter Tryz.func226, Tryz.ntmps226
  go_wp2_with (first | (go_at_call 227; refine H3.mono ?_; rintro e w1 ⟨rfl, hb1⟩))
  go_ret3
  exact ⟨.inl ⟨HE.out, rfl⟩, hb1⟩

set_option maxRecDepth 100000 in
set_option maxHeartbeats 4000000 in
theorem ack_2 (s : ByteArray) (w : World) (hF : V.Forms w) (hl : s.size ≤ maxLen) (a m d : Int) (c : Nat) (h : tk 3 (V.ints s) = some ([a, m, d], c)) (hm : 12 ≤ m) : Calls Tryz.prog 226 #[.string s] w (AckPost s w) := by
  have H3 := take_yes s 3 w hF hl (by decide) _ _ h
  have HE : Hid (rdAck (V.ints s) = none) := rdAck_2 h hm
  generalize s.extract c s.size = r1 at H3
  clear h hF hl
  go_enter Tryz.func226, Tryz.ntmps226
  go_wp2_with (first | (go_at_call 227; refine H3.mono ?_; rintro e w1 ⟨v, rfl, ho, hb1⟩; obtain ⟨g, cp, rfl, hcp, _, hg⟩ := ho.form (by simp); have q1 := ho.cell 1 (by simp); simp only [List.getElem?_cons_succ, List.getElem?_cons_zero, Option.getD_some, List.length_cons, List.length_nil, Nat.reduceAdd] at q1 hcp ⊢))
  go_ret3
  exact ⟨.inl ⟨HE.out, rfl⟩, hb1⟩

set_option maxRecDepth 100000 in
set_option maxHeartbeats 4000000 in
theorem ack_3 (s : ByteArray) (w : World) (hF : V.Forms w) (hl : s.size ≤ maxLen) (a d : Int) (m c : Nat) (h : tk 3 (V.ints s) = some ([a, (m : Int), d], c)) (hm : m < 12) (hc : c ≤ s.size) (h2 : tk (2 * m) ((V.ints s).drop c) = none) : Calls Tryz.prog 226 #[.string s] w (AckPost s w) := by
  have H3 := take_yes s 3 w hF hl (by decide) _ _ h
  have HE : Hid (rdAck (V.ints s) = none) := rdAck_3 h (by omega) (by rw [Int.toNat_natCast]; exact h2)
  have hd := ints_drop s c hc
  unfold maxLen at hl
  have hr : (s.extract c s.size).size ≤ maxLen := by unfold maxLen; rw [ByteArray.size_extract]; omega
  generalize s.extract c s.size = r1 at *
  have H4 := fun W (hW : V.Forms W) => take_no r1 (2 * m) W hW hr (by omega) (by rw [hd]; exact h2)
  rw [show ((2 * m : Nat) : Int) = 2 * (m : Int) by omega] at H4
  simp only [noNums, errS] at H4
  have gm : ¬ (12 : Int) ≤ (m : Int) := by omega
  have HF : Hid (V.Forms w) := hF
  clear h hF hl h2 hd hc hr
  go_enter Tryz.func226, Tryz.ntmps226
  go_wp2_with fail
  refine H3.mono ?_
  rintro e w1 ⟨v, rfl, ho, hb1⟩
  obtain ⟨g, cp, rfl, hcp, _, hg⟩ := ho.form (by simp)
  have q1 := ho.cell 1 (by simp)
  simp only [List.getElem?_cons_succ, List.getElem?_cons_zero, Option.getD_some, List.length_cons, List.length_nil, Nat.reduceAdd] at q1 hcp ⊢
  have HX := H4 _ (HF.out.below hb1)
  go_wp2_with (first | (go_at_call 227; refine HX.mono ?_; rintro e w2 ⟨rfl, hb2⟩))
  go_ret3
  exact ⟨.inl ⟨HE.out, rfl⟩, hb1.trans (hb2.mono hb1.size)⟩

set_option maxRecDepth 100000 in
set_option maxHeartbeats 4000000 in
theorem ack_4 (s : ByteArray) (w : World) (hF : V.Forms w) (hl : s.size ≤ maxLen) (a d : Int) (m c c2 : Nat) (ms : List Int) (h : tk 3 (V.ints s) = some ([a, (m : Int), d], c)) (hm : m < 12) (hc : c ≤ s.size) (h2 : tk (2 * m) ((V.ints s).drop c) = some (ms, c2)) (hc2 : c + c2 ≤ s.size) : Calls Tryz.prog 226 #[.string s] w (AckPost s w) := by
  have H3 := take_yes s 3 w hF hl (by decide) _ _ h
  have HE : Hid (rdAck (V.ints s) = (parse ((V.ints s).take (c + c2))).map fun zs => (zs, c + c2)) := rdAck_4 (bytes_ints s) h (by omega) (by rw [Int.toNat_natCast]; exact h2)
  have hd := ints_drop s c hc
  unfold maxLen at hl
  have hr : (s.extract c s.size).size ≤ maxLen := by unfold maxLen; rw [ByteArray.size_extract]; omega
  have ex := ext_ext s c c2 hc hc2
  generalize s.extract c s.size = r1 at *
  have H4 := fun W (hW : V.Forms W) => take_yes r1 (2 * m) W hW hr (by omega) _ _ (by rw [hd]; exact h2)
  rw [show ((2 * m : Nat) : Int) = 2 * (m : Int) by omega, ex] at H4
  generalize hC : c + c2 = C at *
  have hsl := run_upto s C (by omega) hl
  have hip : V.ints (s.extract 0 C) = (V.ints s).take C := by rw [ints_extract]; rfl
  have hpl : (s.extract 0 C).size ≤ maxLen := by unfold maxLen; rw [ByteArray.size_extract]; omega
  generalize s.extract 0 C = p at *
  have hr2 : (s.extract C s.size).size = s.size - C := by rw [ByteArray.size_extract]; omega
  obtain ⟨r2, hr2e⟩ : ∃ r2, s.extract C s.size = r2 := ⟨_, rfl⟩
  rw [hr2e] at H4 hr2
  have HR2 : Hid (s.extract C s.size = r2) := hr2e
  have hsub : (s.size : Int) - (r2.size : Int) = (C : Int) := by omega
  have gm : ¬ (12 : Int) ≤ (m : Int) := by omega
  have gr : (r2.size : Int) ≤ (s.size : Int) := by omega
  have HF : Hid (V.Forms w) := hF
  rw [← hip] at HE
  have HPn := fun W (hW : V.Forms W) => parse_no p W hW hpl
  have HPy := fun W (hW : V.Forms W) => parse_yes p W hW hpl
  have hby := bytes_ints p
  clear h hF h2 hd hc hr hr2e hr2 hip ex hC hc2 hpl
  generalize V.ints p = lp at *
  go_enter Tryz.func226, Tryz.ntmps226
  go_wp2_with fail
  refine H3.mono ?_
  rintro e w1 ⟨v, rfl, ho, hb1⟩
  obtain ⟨g, cp, rfl, hcp, _, hg⟩ := ho.form (by simp)
  have q1 := ho.cell 1 (by simp)
  simp only [List.getElem?_cons_succ, List.getElem?_cons_zero, Option.getD_some, List.length_cons, List.length_nil, Nat.reduceAdd] at q1 hcp ⊢
  have HX := H4 _ (HF.out.below hb1)
  clear H3 H4 ho
  go_wp2_with fail
  refine HX.mono ?_
  rintro e w2 ⟨v2, rfl, ho2, hb2⟩
  obtain ⟨a2, c2', rfl⟩ := ho2.shape
  have hB2 := hb1.trans (hb2.mono hb1.size)
  have hF2 := HF.out.below hB2
  clear HX
  cases hp : parse lp with
  | none =>
    have HE2 : Hid (rdAck (V.ints s) = none) := by show _ = _; rw [HE.out, hp]; rfl
    have HN := HPn _ hF2 hp
    clear HE HPn HPy hp
    go_wp2_with (first | (go_at_call 239; refine HN.mono ?_; rintro e w3 ⟨rfl, hb3⟩))
    go_ret3
    exact ⟨.inl ⟨HE2.out, rfl⟩, hB2.trans (hb3.mono hB2.size)⟩
  | some zs =>
    have HE2 : Hid (rdAck (V.ints s) = some (zs, C)) := by show _ = _; rw [HE.out, hp]; rfl
    obtain ⟨hz0, hzg, _⟩ := (parse_iff hby zs).1 hp
    have HN := HPy _ hF2 zs hp
    clear HE HPn HPy hp
    go_wp2_with fail
    refine HN.mono ?_
    rintro e w3 ⟨v3, rfl, hR3, hf3, hb3⟩
    have hB3 := hB2.trans (hb3.mono hB2.size)
    have HM := numsOf_calls v3 zs w3 hR3 hzg.1 hz0
    obtain ⟨a3, c3, hv3, _⟩ := id hR3
    subst hv3
    clear HN hR3
    go_wp2_with (first | (go_at_call 240; refine HM.mono ?_; rintro e w4 ⟨v4, rfl, ho4, hb4⟩; obtain ⟨a4, c4, hv4⟩ := id ho4.shape; subst hv4))
    go_ret3
    exact ⟨.inr ⟨zs, C, _, HE2.out, by rw [HR2.out]; rfl, own_mono ho4 hB3.size⟩, hB3.trans (hb4.mono hB3.size)⟩
theorem takeAck_calls (s : ByteArray) (w : World) (hF : V.Forms w) (hl : s.size ≤ maxLen) : Calls Tryz.prog 226 #[.string s] w (AckPost s w) := by
  cases h : tk 3 (V.ints s) with
  | none => exact ack_1 s w hF hl h
  | some x =>
    obtain ⟨ns, c⟩ := x
    obtain ⟨i1, i2, _, _⟩ := tk_inv 3 _ _ c (bytes_ints s) h
    have hc := tk_le (bytes_ints s) h
    rw [ints_length] at hc
    match ns, i1, i2, h with
    | [a, m, d], _, i2, h =>
      have m0 := (i2 m (by simp)).1
      by_cases hm : 12 ≤ m
      · exact ack_2 s w hF hl a m d c h hm
      · obtain ⟨mm, rfl⟩ : ∃ mm : Nat, m = (mm : Int) := ⟨m.toNat, by omega⟩
        cases h2 : tk (2 * mm) ((V.ints s).drop c) with
        | none => exact ack_3 s w hF hl a d mm c h (by omega) hc h2
        | some y =>
          obtain ⟨ms, c2⟩ := y
          have hc2 := tk_le (bytes_drop (bytes_ints s) _) h2
          rw [List.length_drop, ints_length] at hc2
          exact ack_4 s w hF hl a d mm c c2 ms h (by omega) hc h2 (by omega)


abbrev NumsPost (k : Int) (s : ByteArray) (w : World) (e : Ending) (w' : World) : Prop :=
  ((rdNums k (V.ints s) = none ∧ e = noNums) ∨ (∃ ns c v, rdNums k (V.ints s) = some (ns, c) ∧ e = .returned (.tuple #[v, .string (s.extract c s.size), .nilIface]) ∧ OwnI w' w.heap.size v ns)) ∧ Below w.heap.size w w'

set_option maxRecDepth 100000 in
set_option maxHeartbeats 4000000 in
theorem nums_ack (s : ByteArray) (w : World) (hF : V.Forms w) (hl : s.size ≤ maxLen) : Calls Tryz.prog 208 #[.int .i64 2, .string s] w (NumsPost 2 s w) := by
  have HE : Hid (rdNums 2 (V.ints s) = (rdAck (V.ints s)).map fun x => (unr x.1, x.2)) := by show _ = _; simp [rdNums]
  have HA : Calls Tryz.prog 226 #[.string s] w fun e w' => ∃ (v : Value) (r : ByteArray) (er : Value), e = .returned (.tuple #[v, .string r, er]) ∧ Hid (NumsPost 2 s w (.returned (.tuple #[v, .string r, er])) w') := by
    refine (takeAck_calls s w hF hl).mono ?_
    rintro e w' ⟨⟨h1, rfl⟩ | ⟨zs, c, v, h1, rfl, ho⟩, hb⟩
    · exact ⟨_, _, _, rfl, .inl ⟨by rw [HE.out, h1]; rfl, rfl⟩, hb⟩
    · exact ⟨_, _, _, rfl, .inr ⟨unr zs, c, v, by rw [HE.out, h1]; rfl, rfl, ho⟩, hb⟩
  clear HE hF hl
  go_enter Tryz.func208, Tryz.ntmps208
  go_wp2_with (first | (go_at_call 226; refine HA.mono ?_; rintro e w1 ⟨v, r, er, rfl, hp⟩))
  go_ret3
  exact hp.out

set_option maxRecDepth 100000 in
set_option maxHeartbeats 4000000 in
theorem nums_1 (s : ByteArray) (w : World) (hC : Cnts w) (hF : V.Forms w) (hl : s.size ≤ maxLen) : Calls Tryz.prog 208 #[.int .i64 1, .string s] w (NumsPost 1 s w) := by
  have HE : Hid (rdNums 1 (V.ints s) = tk 0 (V.ints s)) := by show _ = _; simp [rdNums, cntK]
  have HA : Calls Tryz.prog 227 #[.string s, .int .i64 0] w fun e w' => ∃ (v : Value) (r : ByteArray) (er : Value), e = .returned (.tuple #[v, .string r, er]) ∧ Hid (NumsPost 1 s w (.returned (.tuple #[v, .string r, er])) w') := by
    refine (take_calls s 0 w hF hl (by decide)).mono ?_
    rintro e w' ⟨⟨h1, rfl⟩ | ⟨ns, c, v, h1, rfl, ho⟩, hb⟩
    · exact ⟨_, _, _, rfl, .inl ⟨by rw [HE.out, h1], rfl⟩, hb⟩
    · exact ⟨_, _, _, rfl, .inr ⟨ns, c, v, by rw [HE.out, h1], rfl, ho⟩, hb⟩
  have hc := hC.c1
  clear HE hF hl hC
  go_enter Tryz.func208, Tryz.ntmps208
  go_wp2_with (first | (go_at_call 227; refine HA.mono ?_; rintro e w1 ⟨v, r, er, rfl, hp⟩))
  go_ret3
  exact hp.out

set_option maxRecDepth 100000 in
set_option maxHeartbeats 4000000 in
theorem nums_3 (s : ByteArray) (w : World) (hC : Cnts w) (hF : V.Forms w) (hl : s.size ≤ maxLen) : Calls Tryz.prog 208 #[.int .i64 3, .string s] w (NumsPost 3 s w) := by
  have HE : Hid (rdNums 3 (V.ints s) = tk 1 (V.ints s)) := by show _ = _; simp [rdNums, cntK]
  have HA : Calls Tryz.prog 227 #[.string s, .int .i64 1] w fun e w' => ∃ (v : Value) (r : ByteArray) (er : Value), e = .returned (.tuple #[v, .string r, er]) ∧ Hid (NumsPost 3 s w (.returned (.tuple #[v, .string r, er])) w') := by
    refine (take_calls s 1 w hF hl (by decide)).mono ?_
    rintro e w' ⟨⟨h1, rfl⟩ | ⟨ns, c, v, h1, rfl, ho⟩, hb⟩
    · exact ⟨_, _, _, rfl, .inl ⟨by rw [HE.out, h1], rfl⟩, hb⟩
    · exact ⟨_, _, _, rfl, .inr ⟨ns, c, v, by rw [HE.out, h1], rfl, ho⟩, hb⟩
  have hc := hC.c3
  clear HE hF hl hC
  go_enter Tryz.func208, Tryz.ntmps208
  go_wp2_with (first | (go_at_call 227; refine HA.mono ?_; rintro e w1 ⟨v, r, er, rfl, hp⟩))
  go_ret3
  exact hp.out

set_option maxRecDepth 100000 in
set_option maxHeartbeats 4000000 in
theorem nums_4 (s : ByteArray) (w : World) (hC : Cnts w) (hF : V.Forms w) (hl : s.size ≤ maxLen) : Calls Tryz.prog 208 #[.int .i64 4, .string s] w (NumsPost 4 s w) := by
  have HE : Hid (rdNums 4 (V.ints s) = tk 1 (V.ints s)) := by show _ = _; simp [rdNums, cntK]
  have HA : Calls Tryz.prog 227 #[.string s, .int .i64 1] w fun e w' => ∃ (v : Value) (r : ByteArray) (er : Value), e = .returned (.tuple #[v, .string r, er]) ∧ Hid (NumsPost 4 s w (.returned (.tuple #[v, .string r, er])) w') := by
    refine (take_calls s 1 w hF hl (by decide)).mono ?_
    rintro e w' ⟨⟨h1, rfl⟩ | ⟨ns, c, v, h1, rfl, ho⟩, hb⟩
    · exact ⟨_, _, _, rfl, .inl ⟨by rw [HE.out, h1], rfl⟩, hb⟩
    · exact ⟨_, _, _, rfl, .inr ⟨ns, c, v, by rw [HE.out, h1], rfl, ho⟩, hb⟩
  have hc := hC.c4
  clear HE hF hl hC
  go_enter Tryz.func208, Tryz.ntmps208
  go_wp2_with (first | (go_at_call 227; refine HA.mono ?_; rintro e w1 ⟨v, r, er, rfl, hp⟩))
  go_ret3
  exact hp.out

set_option maxRecDepth 100000 in
set_option maxHeartbeats 4000000 in
theorem nums_5 (s : ByteArray) (w : World) (hC : Cnts w) (hF : V.Forms w) (hl : s.size ≤ maxLen) : Calls Tryz.prog 208 #[.int .i64 5, .string s] w (NumsPost 5 s w) := by
  have HE : Hid (rdNums 5 (V.ints s) = tk 1 (V.ints s)) := by show _ = _; simp [rdNums, cntK]
  have HA : Calls Tryz.prog 227 #[.string s, .int .i64 1] w fun e w' => ∃ (v : Value) (r : ByteArray) (er : Value), e = .returned (.tuple #[v, .string r, er]) ∧ Hid (NumsPost 5 s w (.returned (.tuple #[v, .string r, er])) w') := by
    refine (take_calls s 1 w hF hl (by decide)).mono ?_
    rintro e w' ⟨⟨h1, rfl⟩ | ⟨ns, c, v, h1, rfl, ho⟩, hb⟩
    · exact ⟨_, _, _, rfl, .inl ⟨by rw [HE.out, h1], rfl⟩, hb⟩
    · exact ⟨_, _, _, rfl, .inr ⟨ns, c, v, by rw [HE.out, h1], rfl, ho⟩, hb⟩
  have hc := hC.c5
  clear HE hF hl hC
  go_enter Tryz.func208, Tryz.ntmps208
  go_wp2_with (first | (go_at_call 227; refine HA.mono ?_; rintro e w1 ⟨v, r, er, rfl, hp⟩))
  go_ret3
  exact hp.out

set_option maxRecDepth 100000 in
set_option maxHeartbeats 4000000 in
theorem nums_6 (s : ByteArray) (w : World) (hC : Cnts w) (hF : V.Forms w) (hl : s.size ≤ maxLen) : Calls Tryz.prog 208 #[.int .i64 6, .string s] w (NumsPost 6 s w) := by
  have HE : Hid (rdNums 6 (V.ints s) = tk 1 (V.ints s)) := by show _ = _; simp [rdNums, cntK]
  have HA : Calls Tryz.prog 227 #[.string s, .int .i64 1] w fun e w' => ∃ (v : Value) (r : ByteArray) (er : Value), e = .returned (.tuple #[v, .string r, er]) ∧ Hid (NumsPost 6 s w (.returned (.tuple #[v, .string r, er])) w') := by
    refine (take_calls s 1 w hF hl (by decide)).mono ?_
    rintro e w' ⟨⟨h1, rfl⟩ | ⟨ns, c, v, h1, rfl, ho⟩, hb⟩
    · exact ⟨_, _, _, rfl, .inl ⟨by rw [HE.out, h1], rfl⟩, hb⟩
    · exact ⟨_, _, _, rfl, .inr ⟨ns, c, v, by rw [HE.out, h1], rfl, ho⟩, hb⟩
  have hc := hC.c6
  clear HE hF hl hC
  go_enter Tryz.func208, Tryz.ntmps208
  go_wp2_with (first | (go_at_call 227; refine HA.mono ?_; rintro e w1 ⟨v, r, er, rfl, hp⟩))
  go_ret3
  exact hp.out

set_option maxRecDepth 100000 in
set_option maxHeartbeats 4000000 in
theorem nums_7 (s : ByteArray) (w : World) (hC : Cnts w) (hF : V.Forms w) (hl : s.size ≤ maxLen) : Calls Tryz.prog 208 #[.int .i64 7, .string s] w (NumsPost 7 s w) := by
  have HE : Hid (rdNums 7 (V.ints s) = tk 2 (V.ints s)) := by show _ = _; simp [rdNums, cntK]
  have HA : Calls Tryz.prog 227 #[.string s, .int .i64 2] w fun e w' => ∃ (v : Value) (r : ByteArray) (er : Value), e = .returned (.tuple #[v, .string r, er]) ∧ Hid (NumsPost 7 s w (.returned (.tuple #[v, .string r, er])) w') := by
    refine (take_calls s 2 w hF hl (by decide)).mono ?_
    rintro e w' ⟨⟨h1, rfl⟩ | ⟨ns, c, v, h1, rfl, ho⟩, hb⟩
    · exact ⟨_, _, _, rfl, .inl ⟨by rw [HE.out, h1], rfl⟩, hb⟩
    · exact ⟨_, _, _, rfl, .inr ⟨ns, c, v, by rw [HE.out, h1], rfl, ho⟩, hb⟩
  have hc := hC.c7
  clear HE hF hl hC
  go_enter Tryz.func208, Tryz.ntmps208
  go_wp2_with (first | (go_at_call 227; refine HA.mono ?_; rintro e w1 ⟨v, r, er, rfl, hp⟩))
  go_ret3
  exact hp.out

set_option maxRecDepth 100000 in
set_option maxHeartbeats 4000000 in
theorem nums_8 (s : ByteArray) (w : World) (hC : Cnts w) (hF : V.Forms w) (hl : s.size ≤ maxLen) : Calls Tryz.prog 208 #[.int .i64 8, .string s] w (NumsPost 8 s w) := by
  have HE : Hid (rdNums 8 (V.ints s) = tk 1 (V.ints s)) := by show _ = _; simp [rdNums, cntK]
  have HA : Calls Tryz.prog 227 #[.string s, .int .i64 1] w fun e w' => ∃ (v : Value) (r : ByteArray) (er : Value), e = .returned (.tuple #[v, .string r, er]) ∧ Hid (NumsPost 8 s w (.returned (.tuple #[v, .string r, er])) w') := by
    refine (take_calls s 1 w hF hl (by decide)).mono ?_
    rintro e w' ⟨⟨h1, rfl⟩ | ⟨ns, c, v, h1, rfl, ho⟩, hb⟩
    · exact ⟨_, _, _, rfl, .inl ⟨by rw [HE.out, h1], rfl⟩, hb⟩
    · exact ⟨_, _, _, rfl, .inr ⟨ns, c, v, by rw [HE.out, h1], rfl, ho⟩, hb⟩
  have hc := hC.c8
  clear HE hF hl hC
  go_enter Tryz.func208, Tryz.ntmps208
  go_wp2_with (first | (go_at_call 227; refine HA.mono ?_; rintro e w1 ⟨v, r, er, rfl, hp⟩))
  go_ret3
  exact hp.out

theorem nums_calls (k : Int) (s : ByteArray) (w : World) (hC : Cnts w) (hF : V.Forms w) (hl : s.size ≤ maxLen) (hk : kindB k = true) : Calls Tryz.prog 208 #[.int .i64 k, .string s] w (NumsPost k s w) := by
  have h := (kindB_iff k).1 hk
  have hs : k = 1 ∨ k = 2 ∨ k = 3 ∨ k = 4 ∨ k = 5 ∨ k = 6 ∨ k = 7 ∨ k = 8 := by omega
  rcases hs with rfl | rfl | rfl | rfl | rfl | rfl | rfl | rfl
  · exact nums_1 s w hC hF hl
  · exact nums_ack s w hF hl
  · exact nums_3 s w hC hF hl
  · exact nums_4 s w hC hF hl
  · exact nums_5 s w hC hF hl
  · exact nums_6 s w hC hF hl
  · exact nums_7 s w hC hF hl
  · exact nums_8 s w hC hF hl
theorem nums_no (k : Int) (s : ByteArray) (w : World) (hC : Cnts w) (hF : V.Forms w) (hl : s.size ≤ maxLen) (hk : kindB k = true) (h : rdNums k (V.ints s) = none) :
    Calls Tryz.prog 208 #[.int .i64 k, .string s] w fun e w' => e = noNums ∧ Below w.heap.size w w' := by
  refine (nums_calls k s w hC hF hl hk).mono ?_
  rintro e w' ⟨⟨_, he⟩ | ⟨ns, c, v, h1, _⟩, hb⟩
  · exact ⟨he, hb⟩
  · rw [h] at h1; cases h1
theorem nums_yes (k : Int) (s : ByteArray) (w : World) (hC : Cnts w) (hF : V.Forms w) (hl : s.size ≤ maxLen) (hk : kindB k = true) (ns : List Int) (c : Nat) (h : rdNums k (V.ints s) = some (ns, c)) :
    Calls Tryz.prog 208 #[.int .i64 k, .string s] w fun e w' => ∃ v, e = .returned (.tuple #[v, .string (s.extract c s.size), .nilIface]) ∧ OwnI w' w.heap.size v ns ∧ Below w.heap.size w w' := by
  refine (nums_calls k s w hC hF hl hk).mono ?_
  rintro e w' ⟨⟨h1, _⟩ | ⟨ns', c', v, h1, he, ho⟩, hb⟩
  · rw [h] at h1; cases h1
  · rw [h] at h1; cases h1; exact ⟨v, he, ho, hb⟩

/-- Block B is a frame's box. -/
def FBox (W : World) (B : Nat) (k : Int) (v : Value) (d : ByteArray) : Prop := W.heap[B]? = some (.cells #[.int .i64 k, v, .string d] 141 (0, 0))
theorem FBox.lt {W : World} {B : Nat} {k : Int} {v : Value} {d : ByteArray} (h : FBox W B k v d) : B < W.heap.size := (Array.getElem?_eq_some_iff.1 h).1
theorem FBox.c0 {W : World} {B : Nat} {k : Int} {v : Value} {d : ByteArray} (h : FBox W B k v d) : W.cell? ⟨B, 0, none⟩ = some (.int .i64 k) := by simp [World.cell?, show W.heap[B]? = _ from h]
theorem FBox.c1 {W : World} {B : Nat} {k : Int} {v : Value} {d : ByteArray} (h : FBox W B k v d) : W.cell? ⟨B, 1, none⟩ = some v := by simp [World.cell?, show W.heap[B]? = _ from h]
theorem FBox.c2 {W : World} {B : Nat} {k : Int} {v : Value} {d : ByteArray} (h : FBox W B k v d) : W.cell? ⟨B, 2, none⟩ = some (.string d) := by simp [World.cell?, show W.heap[B]? = _ from h]
theorem FBox.fz {W : World} {B : Nat} {k : Int} {v : Value} {d : ByteArray} (h : FBox W B k v d) (j : Nat) : W.frozen? ⟨B, j, none⟩ = false := by simp [World.frozen?, show W.heap[B]? = _ from h]
theorem FBox.new (W : World) (k : Int) (v : Value) (d : ByteArray) : FBox (W.alloc (.cells #[.int .i64 k, v, .string d] 141)) W.heap.size k v d := World.alloc_heap_new W _
theorem FBox.alloc {W : World} {B : Nat} {k : Int} {v : Value} {d : ByteArray} (h : FBox W B k v d) (o : Obj) : FBox (W.alloc o) B k v d := (Below.block (((Below.refl W.heap.size W).alloc (Nat.le_refl _) o)) B h.lt).trans h
theorem FBox.below {W W' : World} {n B : Nat} {k : Int} {v : Value} {d : ByteArray} (h : FBox W B k v d) (hb : Below n W W') (hn : B < n) : FBox W' B k v d := (hb.block B hn).trans h
theorem FBox.set1 {W : World} {B : Nat} {k : Int} {v : Value} {d : ByteArray} (h : FBox W B k v d) (v' : Value) : FBox (W.setCell ⟨B, 1, none⟩ v') B k v' d := set_block h 1 v'
theorem FBox.set2 {W : World} {B : Nat} {k : Int} {v : Value} {d : ByteArray} (h : FBox W B k v d) (d' : ByteArray) : FBox (W.setCell ⟨B, 2, none⟩ (.string d')) B k v d' := set_block h 2 (.string d')
theorem FBox.other {W : World} {B B' j : Nat} {k : Int} {v : Value} {d : ByteArray} (h : FBox W B k v d) (hne : B ≠ B') (u : Value) : FBox (W.setCell ⟨B', j, none⟩ u) B k v d := (Below.heap_setCell _ _ _ B hne).trans h
theorem results_cell3 {fn : Func} {p u q : Tmp} {ty : TypeId} (h : fn.results = #[.cell p ty, .tmp u, .tmp q]) (tmps : Array Value) (P : Program) (w : World) :
    (results fn tmps).run P w = ((asAddr (tmps.getD p undef)).run P w).andThen fun a w₁ => ((loadVar ty a).run P w₁).andThen fun v w₂ => .ok (.tuple #[v, tmps.getD u undef, tmps.getD q undef]) w₂ := by
  simp only [results, h]
  simp [Sem.run_bind, Result.andThen]
abbrev zeroF : Value := .agg #[.int .i64 0, .slice none 0 0, .string { data := #[] }]
abbrev noFrame : Ending := .returned (.tuple #[zeroF, .int .i64 0, errS])


theorem index0 (s : ByteArray) (k : Int) (l : List Int) (h : V.ints s = k :: l) (w : World) : (Instr.index 9 (.string s) (.int .i64 0)).run Tryz.prog w = .ok (.int .u8 k) w := by
  have hp : 0 < s.size := by rw [← ints_length, h]; simp
  have e : (s[0].toNat : Int) = k := by
    obtain ⟨⟨r⟩⟩ := s
    cases r with
    | nil => exact absurd hp (by decide)
    | cons b r =>
      simp only [V.ints, List.map_cons, List.cons.injEq] at h
      exact h.1
  have eu := Tryz.underlying9
  have hp' : (0 : Int) < (s.size : Int) := by omega
  go_simp
  first | done | simp [e]

set_option maxRecDepth 100000 in
set_option maxHeartbeats 4000000 in
theorem parse_a (w : World) : Calls Tryz.prog 179 #[.string { data := #[] }] w fun e w' => e = noFrame ∧ Below w.heap.size w w' := by
  simp only [noFrame, errS]
  go_enter Tryz.func179, Tryz.ntmps179
  go_wp2_with fail
  refine bodyPost_ret (v := .tuple #[zeroF, .int .i64 0, .iface 133 (.int .i64 2)]) ?_ rfl ⟨rfl, ?_⟩
  · rw [results_cell3 rfl]; go_simp
  · exact (Below.refl _ w).alloc (Nat.le_refl _) _

set_option maxRecDepth 100000 in
set_option maxHeartbeats 4000000 in
theorem parse_b (s : ByteArray) (k : Int) (l : List Int) (w : World) (hs : V.ints s = k :: l) (h1 : kindB k = false) : Calls Tryz.prog 179 #[.string s] w fun e w' => e = noFrame ∧ Below w.heap.size w w' := by
  have hne : (s.toList == []) = false := str_ne (by rw [← ints_length, hs]; simp)
  have hix := index0 s k l hs
  have hk0 := bytes_ints s k (by rw [hs]; simp)
  have HK := isKind_calls k
  rw [h1] at HK
  simp only [noFrame, errS]
  clear hs
  go_enter Tryz.func179, Tryz.ntmps179
  go_wp2_with (first | (go_at_call 207; refine (HK _).mono ?_; rintro e w1 ⟨rfl, rfl⟩))
  refine bodyPost_ret (v := .tuple #[zeroF, .int .i64 0, .iface 133 (.int .i64 2)]) ?_ rfl ⟨rfl, ?_⟩
  · rw [results_cell3 rfl]; go_simp
  · exact (Below.refl _ w).alloc (Nat.le_refl _) _

set_option maxRecDepth 100000 in
set_option maxHeartbeats 4000000 in
theorem parse_c (s : ByteArray) (k : Int) (l : List Int) (w : World) (hC : Cnts w) (hF : V.Forms w) (hl : s.size ≤ maxLen) (hs : V.ints s = k :: l) (h1 : kindB k = true) (h2 : rdNums k l = none) : Calls Tryz.prog 179 #[.string s] w fun e w' => e = noFrame ∧ Below w.heap.size w w' := by
  have hne : (s.toList == []) = false := str_ne (by rw [← ints_length, hs]; simp)
  have hix := index0 s k l hs
  have hk0 := bytes_ints s k (by rw [hs]; simp)
  have HK := isKind_calls k
  rw [h1] at HK
  have hsz : s.size = l.length + 1 := by rw [← ints_length, hs]; rfl
  unfold maxLen at hl
  have hsl : ∀ W, (Instr.slice 9 (.string s) (some (.int .i64 1)) none none).run Tryz.prog W = .ok (.string (s.extract 1 s.size)) W := run_from s 1 (by omega) hl
  have hid := ints_drop s 1 (by omega)
  rw [hs] at hid
  simp only [List.drop_succ_cons, List.drop_zero] at hid
  have hr1 : (s.extract 1 s.size).size = s.size - 1 := by rw [ByteArray.size_extract]; omega
  have hB2 : Below w.heap.size w ((w.alloc (.cells #[.int .i64 0, .slice none 0 0, .string { data := #[] }] 141)).alloc (.cells #[.int .i64 k, .slice none 0 0, .string { data := #[] }] 141)) := ((Below.refl _ w).alloc (Nat.le_refl _) _).alloc (by simp) _
  have bR : FBox ((w.alloc (.cells #[.int .i64 0, .slice none 0 0, .string { data := #[] }] 141)).alloc (.cells #[.int .i64 k, .slice none 0 0, .string { data := #[] }] 141)) w.heap.size 0 (.slice none 0 0) { data := #[] } := (FBox.new w 0 _ _).alloc _
  have bF : FBox ((w.alloc (.cells #[.int .i64 0, .slice none 0 0, .string { data := #[] }] 141)).alloc (.cells #[.int .i64 k, .slice none 0 0, .string { data := #[] }] 141)) (w.heap.size + 1) k (.slice none 0 0) { data := #[] } := by
    have := FBox.new (w.alloc (.cells #[.int .i64 0, .slice none 0 0, .string { data := #[] }] 141)) k (.slice none 0 0) { data := #[] }
    rwa [World.size_alloc] at this
  have hs2 : ((w.alloc (.cells #[.int .i64 0, .slice none 0 0, .string { data := #[] }] 141)).alloc (.cells #[.int .i64 k, .slice none 0 0, .string { data := #[] }] 141)).heap.size = w.heap.size + 2 := by simp
  have hr1' : (s.extract 1 s.size).size ≤ maxLen := by unfold maxLen; omega
  generalize s.extract 1 s.size = r1 at *
  have HN := fun W (hb : Below w.heap.size w W) => nums_no k r1 W (hC.below hb) (hF.below hb) hr1' h1 (by rw [hid]; exact h2)
  simp only [noNums, noFrame, errS] at HN ⊢
  clear hr1' hid h2
  clear hC hF hs hl hsz
  go_enter Tryz.func179, Tryz.ntmps179
  go_wp2_with (first | (go_at_call 207; refine (HK _).mono ?_; rintro e w1 ⟨rfl, rfl⟩))
  generalize ((w.alloc (.cells #[.int .i64 0, .slice none 0 0, .string { data := #[] }] 141)).alloc (.cells #[.int .i64 k, .slice none 0 0, .string { data := #[] }] 141)) = W2 at *
  have d0 : W2.drew.cell? ⟨w.heap.size + 1, 0, none⟩ = some (.int .i64 k) := bF.c0
  have hBd : Below w.heap.size w W2.drew := hB2.drew
  have bRd : FBox W2.drew w.heap.size 0 (.slice none 0 0) { data := #[] } := bR
  have bFd : FBox W2.drew (w.heap.size + 1) k (.slice none 0 0) { data := #[] } := bF
  have hs2d : W2.drew.heap.size = w.heap.size + 2 := hs2
  clear bR bF hB2 hs2
  go_region_held3 (fun X => X.cell? ⟨w.heap.size + 1, 0, none⟩ = some (.int .i64 k)) (go_keep) (first | (go_at_call 208; refine (HN _ hBd).mono ?_; rintro e w3 ⟨rfl, hb3⟩; have b3 := bFd.below hb3 (by omega); have b4 := bRd.below hb3 (by omega); have f0 := b3.c0; have hB3 := hBd.trans (hb3.mono hBd.size)))
  have c40 := b4.c0
  have c41 := b4.c1
  have c42 := b4.c2
  have z0 := b4.fz 0
  have z1 := b4.fz 1
  have z2 := b4.fz 2
  go_wp2_with fail
  refine bodyPost_ret (v := .tuple #[zeroF, .int .i64 0, .iface 133 (.int .i64 2)]) ?_ rfl ⟨rfl, ?_⟩
  · rw [results_cell3 rfl]; go_simp
  · first | exact hB3 | exact ((hB3.setCell (Nat.le_refl _) _).setCell (Nat.le_refl _) _).setCell (Nat.le_refl _) _

theorem own_le {w : World} {base base' : Nat} {v : Value} {xs : List Int} (h : OwnI w base v xs) (hb : base' ≤ base) : OwnI w base' v xs :=
  ⟨h.1, h.2.imp id (fun ⟨g, cap, cur, a, b, c⟩ => ⟨g, cap, cur, a, Nat.le_trans hb b, c⟩)⟩
theorem own_set {w : World} {base B j : Nat} {v u : Value} {xs : List Int} (h : OwnI w base v xs) (hB : B < base) : OwnI (w.setCell ⟨B, j, none⟩ u) base v xs :=
  ownsRow_setCell_other (a := ⟨B, j, none⟩) h (fun e => by have := (h.lt B e).1; omega) u

set_option maxRecDepth 100000 in
set_option maxHeartbeats 4000000 in
theorem parse_e (s : ByteArray) (k : Int) (l : List Int) (w : World) (hC : Cnts w) (hF : V.Forms w) (hl : s.size ≤ maxLen) (hs : V.ints s = k :: l) (h1 : kindB k = true) (h3 : k ≠ 3) (ns : List Int) (c : Nat) (h2 : rdNums k l = some (ns, c)) (hc : c ≤ l.length) (N : Nat) (hN : N = 1 + c) (hn : ns.length ≤ 24) : Calls Tryz.prog 179 #[.string s] w fun e w' => ∃ v, e = .returned (.tuple #[.agg #[.int .i64 k, v, .string { data := #[] }], .int .i64 (N : Int), .nilIface]) ∧ OwnI w' w.heap.size v ns ∧ Below w.heap.size w w' := by
  have hne : (s.toList == []) = false := str_ne (by rw [← ints_length, hs]; simp)
  have hix := index0 s k l hs
  have hk0 := bytes_ints s k (by rw [hs]; simp)
  have HK := isKind_calls k
  rw [h1] at HK
  have hsz : s.size = l.length + 1 := by rw [← ints_length, hs]; rfl
  unfold maxLen at hl
  have hsl : ∀ W, (Instr.slice 9 (.string s) (some (.int .i64 1)) none none).run Tryz.prog W = .ok (.string (s.extract 1 s.size)) W := run_from s 1 (by omega) hl
  have hid := ints_drop s 1 (by omega)
  rw [hs] at hid
  simp only [List.drop_succ_cons, List.drop_zero] at hid
  have hr1 : (s.extract 1 s.size).size = s.size - 1 := by rw [ByteArray.size_extract]; omega
  have hB2 : Below w.heap.size w ((w.alloc (.cells #[.int .i64 0, .slice none 0 0, .string { data := #[] }] 141)).alloc (.cells #[.int .i64 k, .slice none 0 0, .string { data := #[] }] 141)) := ((Below.refl _ w).alloc (Nat.le_refl _) _).alloc (by simp) _
  have bR : FBox ((w.alloc (.cells #[.int .i64 0, .slice none 0 0, .string { data := #[] }] 141)).alloc (.cells #[.int .i64 k, .slice none 0 0, .string { data := #[] }] 141)) w.heap.size 0 (.slice none 0 0) { data := #[] } := (FBox.new w 0 _ _).alloc _
  have bF : FBox ((w.alloc (.cells #[.int .i64 0, .slice none 0 0, .string { data := #[] }] 141)).alloc (.cells #[.int .i64 k, .slice none 0 0, .string { data := #[] }] 141)) (w.heap.size + 1) k (.slice none 0 0) { data := #[] } := by
    have := FBox.new (w.alloc (.cells #[.int .i64 0, .slice none 0 0, .string { data := #[] }] 141)) k (.slice none 0 0) { data := #[] }
    rwa [World.size_alloc] at this
  have hs2 : ((w.alloc (.cells #[.int .i64 0, .slice none 0 0, .string { data := #[] }] 141)).alloc (.cells #[.int .i64 k, .slice none 0 0, .string { data := #[] }] 141)).heap.size = w.heap.size + 2 := by simp
  have hr1' : (s.extract 1 s.size).size ≤ maxLen := by unfold maxLen; omega
  generalize s.extract 1 s.size = r1 at *
  have HN := fun W (hb : Below w.heap.size w W) => nums_yes k r1 W (hC.below hb) (hF.below hb) hr1' h1 ns c (by rw [hid]; exact h2)
  have hr2 : (r1.extract c r1.size).size = s.size - 1 - c := by rw [ByteArray.size_extract]; omega
  generalize r1.extract c r1.size = r2 at *
  have hsub : (s.size : Int) - (r2.size : Int) = (N : Int) := by omega
  have gr : (r2.size : Int) ≤ (s.size : Int) := by omega
  have tl : s.size ≤ 9223372036854775807 := hl
  have hl24 : Hid (ns.length ≤ 24) := hn
  clear hn
  have hk3 : ¬ k = 3 := h3
  clear hr1' hid h2 hc hN hr2
  clear hC hF hs hl hsz
  go_enter Tryz.func179, Tryz.ntmps179
  go_wp2_with (first | (go_at_call 207; refine (HK _).mono ?_; rintro e w1 ⟨rfl, rfl⟩))
  generalize ((w.alloc (.cells #[.int .i64 0, .slice none 0 0, .string { data := #[] }] 141)).alloc (.cells #[.int .i64 k, .slice none 0 0, .string { data := #[] }] 141)) = W2 at *
  have d0 : W2.drew.cell? ⟨w.heap.size + 1, 0, none⟩ = some (.int .i64 k) := bF.c0
  have hBd : Below w.heap.size w W2.drew := hB2.drew
  have bRd : FBox W2.drew w.heap.size 0 (.slice none 0 0) { data := #[] } := bR
  have bFd : FBox W2.drew (w.heap.size + 1) k (.slice none 0 0) { data := #[] } := bF
  have hs2d : W2.drew.heap.size = w.heap.size + 2 := hs2
  clear bR bF hB2 hs2
  go_region_held3 (fun X => X.cell? ⟨w.heap.size + 1, 0, none⟩ = some (.int .i64 k)) (go_keep) (first | (go_at_call 208; refine (HN _ hBd).mono ?_; rintro e w3 ⟨v3, rfl, ho3, hb3⟩; obtain ⟨a3, c3, hv3⟩ := id ho3.shape; subst hv3; have bF3 := bFd.below hb3 (by omega); have bR3 := bRd.below hb3 (by omega); have f0 := bF3.c0; have hB3 := hBd.trans (hb3.mono hBd.size)))
  have f1 := bF3.c1
  have f1z := bF3.fz 1
  rw [hs2d] at ho3
  clear bRd bFd hBd d0 hb3 hs2d HN
  go_upto_region 8 with fail
  have bF4 := bF3.set1 (.slice a3 ns.length c3)
  have bR4 : FBox (w3.setCell ⟨w.heap.size + 1, 1, none⟩ (.slice a3 ns.length c3)) w.heap.size 0 (.slice none 0 0) { data := #[] } := bR3.other (by omega) _
  have hB4 : Below w.heap.size w (w3.setCell ⟨w.heap.size + 1, 1, none⟩ (.slice a3 ns.length c3)) := hB3.setCell (by simp) _
  have ho4 := own_set (B := w.heap.size + 1) (j := 1) (u := .slice a3 ns.length c3) ho3 (by omega)
  generalize w3.setCell ⟨w.heap.size + 1, 1, none⟩ (.slice a3 ns.length c3) = W4 at *
  clear bF3 bR3 hB3 ho3 f0 f1 f1z
  have q0 := bF4.c0
  have q1 := bF4.c1
  have q2 := bF4.c2
  have c40 := bR4.c0
  have c41 := bR4.c1
  have c42 := bR4.c2
  have z0 := bR4.fz 0
  have z1 := bR4.fz 1
  have z2 := bR4.fz 2
  go_wp2_with fail
  refine bodyPost_ret (v := .tuple #[.agg #[.int .i64 k, .slice a3 ns.length c3, .string { data := #[] }], .int .i64 (N : Int), .nilIface]) ?_ rfl ⟨_, rfl, ?_, ?_⟩
  · rw [results_cell3 rfl]; go_simp
  · exact own_le (own_set (own_set (own_set ho4 (by omega)) (by omega)) (by omega)) (by omega)
  · exact ((hB4.setCell (Nat.le_refl _) _).setCell (Nat.le_refl _) _).setCell (Nat.le_refl _) _

set_option maxRecDepth 100000 in
set_option maxHeartbeats 4000000 in
theorem parse_f (s : ByteArray) (l : List Int) (w : World) (hC : Cnts w) (hF : V.Forms w) (hl : s.size ≤ maxLen) (hs : V.ints s = 3 :: l) (h1 : kindB 3 = true) (ns : List Int) (c : Nat) (h2 : rdNums 3 l = some (ns, c)) (hc : c ≤ l.length) (q c2 : Nat) (h4 : rdPiece (l.drop c) = some (q, c2)) (hq : q ≤ 20) (hcq : c + c2 + q ≤ l.length) (N : Nat) (hN : N = 1 + c + c2 + q) (hn : ns.length ≤ 24) : Calls Tryz.prog 179 #[.string s] w fun e w' => ∃ v, e = .returned (.tuple #[.agg #[.int .i64 3, v, .string (s.extract (1 + c + c2) N)], .int .i64 (N : Int), .nilIface]) ∧ OwnI w' w.heap.size v ns ∧ Below w.heap.size w w' := by
  have hne : (s.toList == []) = false := str_ne (by rw [← ints_length, hs]; simp)
  have hix := index0 s 3 l hs
  have hk0 := bytes_ints s 3 (by rw [hs]; simp)
  have HK := isKind_calls 3
  rw [h1] at HK
  have hsz : s.size = l.length + 1 := by rw [← ints_length, hs]; rfl
  unfold maxLen at hl
  have hsl : ∀ W, (Instr.slice 9 (.string s) (some (.int .i64 1)) none none).run Tryz.prog W = .ok (.string (s.extract 1 s.size)) W := run_from s 1 (by omega) hl
  have hid := ints_drop s 1 (by omega)
  rw [hs] at hid
  simp only [List.drop_succ_cons, List.drop_zero] at hid
  have hr1 : (s.extract 1 s.size).size = s.size - 1 := by rw [ByteArray.size_extract]; omega
  have hB2 : Below w.heap.size w ((w.alloc (.cells #[.int .i64 0, .slice none 0 0, .string { data := #[] }] 141)).alloc (.cells #[.int .i64 3, .slice none 0 0, .string { data := #[] }] 141)) := ((Below.refl _ w).alloc (Nat.le_refl _) _).alloc (by simp) _
  have bR : FBox ((w.alloc (.cells #[.int .i64 0, .slice none 0 0, .string { data := #[] }] 141)).alloc (.cells #[.int .i64 3, .slice none 0 0, .string { data := #[] }] 141)) w.heap.size 0 (.slice none 0 0) { data := #[] } := (FBox.new w 0 _ _).alloc _
  have bF : FBox ((w.alloc (.cells #[.int .i64 0, .slice none 0 0, .string { data := #[] }] 141)).alloc (.cells #[.int .i64 3, .slice none 0 0, .string { data := #[] }] 141)) (w.heap.size + 1) 3 (.slice none 0 0) { data := #[] } := by
    have := FBox.new (w.alloc (.cells #[.int .i64 0, .slice none 0 0, .string { data := #[] }] 141)) 3 (.slice none 0 0) { data := #[] }
    rwa [World.size_alloc] at this
  have hs2 : ((w.alloc (.cells #[.int .i64 0, .slice none 0 0, .string { data := #[] }] 141)).alloc (.cells #[.int .i64 3, .slice none 0 0, .string { data := #[] }] 141)).heap.size = w.heap.size + 2 := by simp
  have hr1' : (s.extract 1 s.size).size ≤ maxLen := by unfold maxLen; omega
  have HXX : Hid (∀ a b, (s.extract 1 s.size).extract a b = s.extract (1 + a) (1 + b) ∨ s.size < 1 + b) := by
    show ∀ a b, _
    intro a b
    by_cases hb : s.size < 1 + b
    · exact .inr hb
    · left
      apply ints_inj
      rw [ints_extract (s.extract 1 s.size) a b, ints_extract s (1 + a) (1 + b), ints_drop s 1 (by omega), List.drop_drop, show 1 + b - (1 + a) = b - a by omega]
  generalize s.extract 1 s.size = r1 at *
  have HN := fun W (hb : Below w.heap.size w W) => nums_yes 3 r1 W (hC.below hb) (hF.below hb) hr1' h1 ns c (by rw [hid]; exact h2)
  have hr2 : (r1.extract c r1.size).size = s.size - 1 - c := by rw [ByteArray.size_extract]; omega
  have hid2 : V.ints (r1.extract c r1.size) = l.drop c := by rw [ints_drop r1 c (by omega), hid]
  have hr2' : (r1.extract c r1.size).size ≤ maxLen := by unfold maxLen; omega
  have HDD : Hid ((r1.extract c r1.size).extract c2 (c2 + q) = s.extract (1 + c + c2) N) := by
    show _ = _
    have e1 : (r1.extract c r1.size).extract c2 (c2 + q) = r1.extract (c + c2) (c + c2 + q) := by
      apply ints_inj
      rw [ints_extract (r1.extract c r1.size) c2 (c2 + q), ints_extract r1 (c + c2) (c + c2 + q), ints_drop r1 c (by omega), List.drop_drop]
      congr 1
      omega
    rw [e1]
    rcases HXX.out (c + c2) (c + c2 + q) with e | e
    · rw [e]; congr 1 <;> omega
    · omega
  have HP := fun W hW => piece_yes (r1.extract c r1.size) W hW hr2' q c2 (by rw [hid2]; exact h4)
  have hr3 : ((r1.extract c r1.size).extract (c2 + q) (r1.extract c r1.size).size).size = s.size - N := by rw [ByteArray.size_extract]; omega
  generalize r1.extract c r1.size = r2 at *
  generalize r2.extract c2 (c2 + q) = dd at *
  generalize r2.extract (c2 + q) r2.size = r3 at *
  have hsub : (s.size : Int) - (r3.size : Int) = (N : Int) := by omega
  have gr : (r3.size : Int) ≤ (s.size : Int) := by omega
  have tl : s.size ≤ 9223372036854775807 := hl
  rw [← HDD.out]
  have hl24 : Hid (ns.length ≤ 24) := hn
  have HF : Hid (V.Forms w) := hF
  clear hr1' hid h2 hc hN hr2 hid2 hr2' h4 hq hcq hr3 HDD HXX hn
  clear hC hF hs hl hsz
  go_enter Tryz.func179, Tryz.ntmps179
  go_wp2_with (first | (go_at_call 207; refine (HK _).mono ?_; rintro e w1 ⟨rfl, rfl⟩))
  generalize ((w.alloc (.cells #[.int .i64 0, .slice none 0 0, .string { data := #[] }] 141)).alloc (.cells #[.int .i64 3, .slice none 0 0, .string { data := #[] }] 141)) = W2 at *
  have d0 : W2.drew.cell? ⟨w.heap.size + 1, 0, none⟩ = some (.int .i64 3) := bF.c0
  have hBd : Below w.heap.size w W2.drew := hB2.drew
  have bRd : FBox W2.drew w.heap.size 0 (.slice none 0 0) { data := #[] } := bR
  have bFd : FBox W2.drew (w.heap.size + 1) 3 (.slice none 0 0) { data := #[] } := bF
  have hs2d : W2.drew.heap.size = w.heap.size + 2 := hs2
  clear bR bF hB2 hs2
  go_region_held3 (fun X => X.cell? ⟨w.heap.size + 1, 0, none⟩ = some (.int .i64 3)) (go_keep) (first | (go_at_call 208; refine (HN _ hBd).mono ?_; rintro e w3 ⟨v3, rfl, ho3, hb3⟩; obtain ⟨a3, c3, hv3⟩ := id ho3.shape; subst hv3; have bF3 := bFd.below hb3 (by omega); have bR3 := bRd.below hb3 (by omega); have f0 := bF3.c0; have hB3 := hBd.trans (hb3.mono hBd.size)))
  have f1 := bF3.c1
  have f1z := bF3.fz 1
  rw [hs2d] at ho3
  clear bRd bFd hBd d0 hb3 hs2d HN
  go_upto_region 8 with fail
  have bF4 := bF3.set1 (.slice a3 ns.length c3)
  have bR4 : FBox (w3.setCell ⟨w.heap.size + 1, 1, none⟩ (.slice a3 ns.length c3)) w.heap.size 0 (.slice none 0 0) { data := #[] } := bR3.other (by omega) _
  have hB4 : Below w.heap.size w (w3.setCell ⟨w.heap.size + 1, 1, none⟩ (.slice a3 ns.length c3)) := hB3.setCell (by simp) _
  have ho4 := own_set (B := w.heap.size + 1) (j := 1) (u := .slice a3 ns.length c3) ho3 (by omega)
  generalize w3.setCell ⟨w.heap.size + 1, 1, none⟩ (.slice a3 ns.length c3) = W4 at *
  clear bF3 bR3 hB3 ho3 f0 f1 f1z
  have q0 := bF4.c0
  have hb5 := HP W4 (HF.out.below hB4)
  go_wp2_with fail
  refine hb5.mono ?_
  rintro e w5 ⟨rfl, hb5'⟩
  have bF5 := bF4.below hb5' bF4.lt
  have bR5 := bR4.below hb5' bR4.lt
  have ho5 := ho4.below hb5'
  have hB5 := hB4.trans (hb5'.mono hB4.size)
  have y0 := bF5.c0
  have y1 := bF5.c1
  have y2 := bF5.c2
  have y3 := bF5.fz 2
  clear hb5 HP hb5' bR4 bF4 ho4 hB4 q0
  go_upto_region 10 with fail
  have bF6 := bF5.set2 dd
  have bR6 : FBox (w5.setCell ⟨w.heap.size + 1, 2, none⟩ (.string dd)) w.heap.size 0 (.slice none 0 0) { data := #[] } := bR5.other (by omega) _
  have hB6 : Below w.heap.size w (w5.setCell ⟨w.heap.size + 1, 2, none⟩ (.string dd)) := hB5.setCell (by simp) _
  have ho6 := own_set (B := w.heap.size + 1) (j := 2) (u := .string dd) ho5 (by omega)
  generalize w5.setCell ⟨w.heap.size + 1, 2, none⟩ (.string dd) = W6 at *
  clear bF5 bR5 hB5 ho5 y0 y1 y2 y3
  have q0 := bF6.c0
  have q1 := bF6.c1
  have q2 := bF6.c2
  have c40 := bR6.c0
  have c41 := bR6.c1
  have c42 := bR6.c2
  have z0 := bR6.fz 0
  have z1 := bR6.fz 1
  have z2 := bR6.fz 2
  go_wp2_with fail
  refine bodyPost_ret (v := .tuple #[.agg #[.int .i64 3, .slice a3 ns.length c3, .string dd], .int .i64 (N : Int), .nilIface]) ?_ rfl ⟨_, rfl, ?_, ?_⟩
  · rw [results_cell3 rfl]; go_simp
  · exact own_le (own_set (own_set (own_set ho6 (by omega)) (by omega)) (by omega)) (by omega)
  · exact ((hB6.setCell (Nat.le_refl _) _).setCell (Nat.le_refl _) _).setCell (Nat.le_refl _) _

set_option maxRecDepth 100000 in
set_option maxHeartbeats 4000000 in
theorem parse_d (s : ByteArray) (l : List Int) (w : World) (hC : Cnts w) (hF : V.Forms w) (hl : s.size ≤ maxLen) (hs : V.ints s = 3 :: l) (h1 : kindB 3 = true) (ns : List Int) (c : Nat) (h2 : rdNums 3 l = some (ns, c)) (hc : c ≤ l.length) (h4 : rdPiece (l.drop c) = none) : Calls Tryz.prog 179 #[.string s] w fun e w' => e = noFrame ∧ Below w.heap.size w w' := by
  have hne : (s.toList == []) = false := str_ne (by rw [← ints_length, hs]; simp)
  have hix := index0 s 3 l hs
  have hk0 := bytes_ints s 3 (by rw [hs]; simp)
  have HK := isKind_calls 3
  rw [h1] at HK
  have hsz : s.size = l.length + 1 := by rw [← ints_length, hs]; rfl
  unfold maxLen at hl
  have hsl : ∀ W, (Instr.slice 9 (.string s) (some (.int .i64 1)) none none).run Tryz.prog W = .ok (.string (s.extract 1 s.size)) W := run_from s 1 (by omega) hl
  have hid := ints_drop s 1 (by omega)
  rw [hs] at hid
  simp only [List.drop_succ_cons, List.drop_zero] at hid
  have hr1 : (s.extract 1 s.size).size = s.size - 1 := by rw [ByteArray.size_extract]; omega
  have hB2 : Below w.heap.size w ((w.alloc (.cells #[.int .i64 0, .slice none 0 0, .string { data := #[] }] 141)).alloc (.cells #[.int .i64 3, .slice none 0 0, .string { data := #[] }] 141)) := ((Below.refl _ w).alloc (Nat.le_refl _) _).alloc (by simp) _
  have bR : FBox ((w.alloc (.cells #[.int .i64 0, .slice none 0 0, .string { data := #[] }] 141)).alloc (.cells #[.int .i64 3, .slice none 0 0, .string { data := #[] }] 141)) w.heap.size 0 (.slice none 0 0) { data := #[] } := (FBox.new w 0 _ _).alloc _
  have bF : FBox ((w.alloc (.cells #[.int .i64 0, .slice none 0 0, .string { data := #[] }] 141)).alloc (.cells #[.int .i64 3, .slice none 0 0, .string { data := #[] }] 141)) (w.heap.size + 1) 3 (.slice none 0 0) { data := #[] } := by
    have := FBox.new (w.alloc (.cells #[.int .i64 0, .slice none 0 0, .string { data := #[] }] 141)) 3 (.slice none 0 0) { data := #[] }
    rwa [World.size_alloc] at this
  have hs2 : ((w.alloc (.cells #[.int .i64 0, .slice none 0 0, .string { data := #[] }] 141)).alloc (.cells #[.int .i64 3, .slice none 0 0, .string { data := #[] }] 141)).heap.size = w.heap.size + 2 := by simp
  have hr1' : (s.extract 1 s.size).size ≤ maxLen := by unfold maxLen; omega
  have HXX : Hid (∀ a b, (s.extract 1 s.size).extract a b = s.extract (1 + a) (1 + b) ∨ s.size < 1 + b) := by
    show ∀ a b, _
    intro a b
    by_cases hb : s.size < 1 + b
    · exact .inr hb
    · left
      apply ints_inj
      rw [ints_extract (s.extract 1 s.size) a b, ints_extract s (1 + a) (1 + b), ints_drop s 1 (by omega), List.drop_drop, show 1 + b - (1 + a) = b - a by omega]
  generalize s.extract 1 s.size = r1 at *
  have HN := fun W (hb : Below w.heap.size w W) => nums_yes 3 r1 W (hC.below hb) (hF.below hb) hr1' h1 ns c (by rw [hid]; exact h2)
  have hr2 : (r1.extract c r1.size).size = s.size - 1 - c := by rw [ByteArray.size_extract]; omega
  have hid2 : V.ints (r1.extract c r1.size) = l.drop c := by rw [ints_drop r1 c (by omega), hid]
  have hr2' : (r1.extract c r1.size).size ≤ maxLen := by unfold maxLen; omega
  have HP := fun W hW => piece_no (r1.extract c r1.size) W hW hr2' (by rw [hid2]; exact h4)
  simp only [noPiece, noFrame, errS] at HP ⊢
  generalize r1.extract c r1.size = r2 at *
  have HF : Hid (V.Forms w) := hF
  clear hr1' hid h2 hc hr2 hid2 hr2' h4 HXX
  clear hC hF hs hl hsz
  go_enter Tryz.func179, Tryz.ntmps179
  go_wp2_with (first | (go_at_call 207; refine (HK _).mono ?_; rintro e w1 ⟨rfl, rfl⟩))
  generalize ((w.alloc (.cells #[.int .i64 0, .slice none 0 0, .string { data := #[] }] 141)).alloc (.cells #[.int .i64 3, .slice none 0 0, .string { data := #[] }] 141)) = W2 at *
  have d0 : W2.drew.cell? ⟨w.heap.size + 1, 0, none⟩ = some (.int .i64 3) := bF.c0
  have hBd : Below w.heap.size w W2.drew := hB2.drew
  have bRd : FBox W2.drew w.heap.size 0 (.slice none 0 0) { data := #[] } := bR
  have bFd : FBox W2.drew (w.heap.size + 1) 3 (.slice none 0 0) { data := #[] } := bF
  have hs2d : W2.drew.heap.size = w.heap.size + 2 := hs2
  clear bR bF hB2 hs2
  go_region_held3 (fun X => X.cell? ⟨w.heap.size + 1, 0, none⟩ = some (.int .i64 3)) (go_keep) (first | (go_at_call 208; refine (HN _ hBd).mono ?_; rintro e w3 ⟨v3, rfl, ho3, hb3⟩; obtain ⟨a3, c3, hv3⟩ := id ho3.shape; subst hv3; have bF3 := bFd.below hb3 (by omega); have bR3 := bRd.below hb3 (by omega); have f0 := bF3.c0; have hB3 := hBd.trans (hb3.mono hBd.size)))
  have f1 := bF3.c1
  have f1z := bF3.fz 1
  rw [hs2d] at ho3
  clear bRd bFd hBd d0 hb3 hs2d HN
  go_upto_region 8 with fail
  have bF4 := bF3.set1 (.slice a3 ns.length c3)
  have bR4 : FBox (w3.setCell ⟨w.heap.size + 1, 1, none⟩ (.slice a3 ns.length c3)) w.heap.size 0 (.slice none 0 0) { data := #[] } := bR3.other (by omega) _
  have hB4 : Below w.heap.size w (w3.setCell ⟨w.heap.size + 1, 1, none⟩ (.slice a3 ns.length c3)) := hB3.setCell (by simp) _
  have ho4 := own_set (B := w.heap.size + 1) (j := 1) (u := .slice a3 ns.length c3) ho3 (by omega)
  generalize w3.setCell ⟨w.heap.size + 1, 1, none⟩ (.slice a3 ns.length c3) = W4 at *
  clear bF3 bR3 hB3 ho3 f0 f1 f1z
  have q0 := bF4.c0
  have hb5 := HP W4 (HF.out.below hB4)
  go_wp2_with fail
  refine hb5.mono ?_
  rintro e w5 ⟨rfl, hb5'⟩
  have bF5 := bF4.below hb5' bF4.lt
  have bR5 := bR4.below hb5' bR4.lt
  have hB5 := hB4.trans (hb5'.mono hB4.size)
  have y2 := bF5.c2
  have y3 := bF5.fz 2
  clear hb5 HP hb5' bR4 bF4 ho4 hB4 q0
  go_upto_region 10 with fail
  have bR6 : FBox (w5.setCell ⟨w.heap.size + 1, 2, none⟩ (.string { data := #[] })) w.heap.size 0 (.slice none 0 0) { data := #[] } := bR5.other (by omega) _
  have hB6 : Below w.heap.size w (w5.setCell ⟨w.heap.size + 1, 2, none⟩ (.string { data := #[] })) := hB5.setCell (by simp) _
  generalize w5.setCell ⟨w.heap.size + 1, 2, none⟩ (.string { data := #[] }) = W6 at *
  clear bF5 bR5 hB5 y2 y3
  have c40 := bR6.c0
  have c41 := bR6.c1
  have c42 := bR6.c2
  have z0 := bR6.fz 0
  have z1 := bR6.fz 1
  have z2 := bR6.fz 2
  go_wp2_with fail
  refine bodyPost_ret (v := .tuple #[zeroF, .int .i64 0, .iface 133 (.int .i64 2)]) ?_ rfl ⟨rfl, ?_⟩
  · rw [results_cell3 rfl]; go_simp
  · first | exact ((hB6.setCell (Nat.le_refl _) _).setCell (Nat.le_refl _) _).setCell (Nat.le_refl _) _ | exact hB6

theorem nums_len {k : Int} {l ns : List Int} {c : Nat} (hl : Bytes l) (h : rdNums k l = some (ns, c)) : ns.length ≤ 24 := by
  have h1 := (rdNums_inv hl h).1
  unfold cntB at h1
  split at h1
  · have := of_decide_eq_true h1; omega
  · have := of_decide_eq_true h1
    rw [this]; unfold cntK; split
    · omega
    · split <;> omega
theorem frame_parse_no (s : ByteArray) (w : World) (hC : Cnts w) (hF : V.Forms w) (hl : s.size ≤ maxLen) (h : rdF s = none) : Calls Tryz.prog 179 #[.string s] w fun e w' => e = noFrame ∧ Below w.heap.size w w' := by
  unfold rdF at h
  cases hs : V.ints s with
  | nil =>
    obtain rfl : s = { data := #[] } := str_nil (by rw [← ints_length, hs]; rfl)
    exact parse_a w
  | cons k l =>
    rw [hs] at h
    simp only at h
    have hby : Bytes l := fun z hz => bytes_ints s z (by rw [hs]; simp [hz])
    cases h1 : kindB k with
    | false => exact parse_b s k l w hs h1
    | true =>
      rw [h1] at h
      simp only [Bool.true_eq_false, if_false] at h
      cases h2 : rdNums k l with
      | none => exact parse_c s k l w hC hF hl hs h1 h2
      | some x =>
        obtain ⟨ns, c⟩ := x
        have hc := (rdNums_inv hby h2).2.2.2.2
        rw [h2] at h
        simp only [Option.bind_some] at h
        by_cases h3 : k = 3
        · subst h3
          rw [if_pos rfl] at h
          cases h4 : rdPiece (l.drop c) with
          | none => exact parse_d s l w hC hF hl hs h1 ns c h2 hc h4
          | some y => rw [h4] at h; cases h
        · rw [if_neg h3] at h; cases h
theorem frame_parse_yes (s : ByteArray) (w : World) (hC : Cnts w) (hF : V.Forms w) (hl : s.size ≤ maxLen) (k : Int) (ns : List Int) (d : ByteArray) (n : Nat) (h : rdF s = some ((k, ns, d), n)) :
    Calls Tryz.prog 179 #[.string s] w fun e w' => ∃ v, e = .returned (.tuple #[.agg #[.int .i64 k, v, .string d], .int .i64 (n : Int), .nilIface]) ∧ OwnI w' w.heap.size v ns ∧ Below w.heap.size w w' := by
  unfold rdF at h
  cases hs : V.ints s with
  | nil => rw [hs] at h; cases h
  | cons k' l =>
    rw [hs] at h
    simp only at h
    have hby : Bytes l := fun z hz => bytes_ints s z (by rw [hs]; simp [hz])
    cases h1 : kindB k' with
    | false => rw [h1] at h; simp at h
    | true =>
      rw [h1] at h
      simp only [Bool.true_eq_false, if_false] at h
      cases h2 : rdNums k' l with
      | none => rw [h2] at h; cases h
      | some x =>
        obtain ⟨ms, c⟩ := x
        have hc := (rdNums_inv hby h2).2.2.2.2
        have hn := nums_len hby h2
        rw [h2] at h
        simp only [Option.bind_some] at h
        by_cases h3 : k' = 3
        · subst h3
          rw [if_pos rfl] at h
          cases h4 : rdPiece (l.drop c) with
          | none => rw [h4] at h; cases h
          | some y =>
            obtain ⟨q, c2⟩ := y
            rw [h4] at h
            simp only [Option.map_some, Option.some.injEq, Prod.mk.injEq] at h
            obtain ⟨⟨rfl, rfl, rfl⟩, rfl⟩ := h
            have hq : q ≤ 20 ∧ c + c2 + q ≤ l.length := by
              have h5 := h4
              unfold rdPiece at h5
              cases hg : V.getI (l.drop c) with
              | none => rw [hg] at h5; cases h5
              | some z =>
                obtain ⟨n0, c0⟩ := z
                obtain ⟨cn, rfl, _, hcl, hd0, _⟩ := get_nat (bytes_drop hby c) hg
                rw [hg] at h5
                simp only [List.length_drop] at h5 hcl
                split at h5
                · cases h5
                · rename_i hh
                  simp only [Option.some.injEq, Prod.mk.injEq] at h5
                  omega
            exact parse_f s l w hC hF hl hs h1 ms c h2 hc q c2 h4 hq.1 hq.2 _ rfl hn
        · rw [if_neg h3] at h
          simp only [Option.some.injEq, Prod.mk.injEq] at h
          obtain ⟨⟨rfl, rfl, rfl⟩, rfl⟩ := h
          exact parse_e s k' l w hC hF hl hs h1 h3 ms c h2 hc _ rfl hn

end Go.Proofs.YtdokgalidhmbbaaGreatDoor
