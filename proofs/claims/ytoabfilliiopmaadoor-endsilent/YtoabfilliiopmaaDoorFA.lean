/- So many numbers that bytes begin with; the ranges of an Ack; what is wrong with a frame, its bytes, and the frame that bytes begin with. No program stands here. -/
import Derived.Test.YtoabfilliiopmaaDoorX
import Derived.Test.YtoabfilliiopmaaDoorR
namespace Go.Proofs.YtoabfilliiopmaaDoor
open Go.RowKit Go.Lib Go.Sort
set_option linter.unusedVariables false
set_option linter.unusedSimpArgs false


/-- So many numbers that bytes begin with, and how many bytes these are. -/
def tk : Nat → List Int → Option (List Int × Nat)
  | 0, _ => some ([], 0)
  | k + 1, l => match V.getI l with
    | none => none
    | some x => (tk k (l.drop x.2.toNat)).map fun y => (x.1 :: y.1, x.2.toNat + y.2)
/-- So many more, behind A bytes of which ns were read. -/
def tkA (k : Nat) (ns : List Int) (A : Nat) (l : List Int) : Option (List Int × Nat) := (tk k (l.drop A)).map fun y => (ns ++ y.1, A + y.2)
theorem tkA_start (k : Nat) (l : List Int) : tkA k [] 0 l = tk k l := by
  unfold tkA
  rw [List.drop_zero]
  cases tk k l with
  | none => rfl
  | some y => simp
theorem tkA_zero (ns : List Int) (A : Nat) (l : List Int) : tkA 0 ns A l = some (ns, A) := by simp [tkA, tk]
theorem tkA_none {k : Nat} {ns : List Int} {A : Nat} {l : List Int} (h : V.getI (l.drop A) = none) : tkA (k + 1) ns A l = none := by simp [tkA, tk, h]
theorem tkA_some {k : Nat} {ns : List Int} {A : Nat} {l : List Int} {n c : Int} (h : V.getI (l.drop A) = some (n, c)) : tkA (k + 1) ns A l = tkA k (ns ++ [n]) (A + c.toNat) l := by
  unfold tkA
  simp only [tk, h, List.drop_drop, Option.map_map]
  cases tk k (l.drop (A + c.toNat)) with
  | none => rfl
  | some y => simp [Nat.add_assoc]
theorem tk_inv : ∀ (k : Nat) (l ns : List Int) (c : Nat), Bytes l → tk k l = some (ns, c) → ns.length = k ∧ Mays ns ∧ l = ns.flatMap V.nums ++ l.drop c ∧ c = (ns.flatMap V.nums).length := by
  intro k
  induction k with
  | zero =>
    intro l ns c _ h
    simp [tk] at h
    obtain ⟨rfl, rfl⟩ := h
    exact ⟨rfl, fun z hz => by simp at hz, by simp, rfl⟩
  | succ k ih =>
    intro l ns c hl h
    cases hg : V.getI l with
    | none => simp [tk, hg] at h
    | some x =>
      obtain ⟨n, d⟩ := x
      obtain ⟨hm, hd, he⟩ := getI_inv hl hg
      cases hr : tk k (l.drop d.toNat) with
      | none => simp [tk, hg, hr] at h
      | some y =>
        obtain ⟨ms, e⟩ := y
        simp [tk, hg, hr] at h
        obtain ⟨rfl, rfl⟩ := h
        obtain ⟨i1, i2, i3, i4⟩ := ih _ _ _ (bytes_drop hl _) hr
        have hdl : d.toNat = (V.nums n).length := by have := nums_lng n; omega
        refine ⟨by simp [i1], fun z hz => ?_, ?_, by simp only [List.flatMap_cons, List.length_append]; omega⟩
        · rcases List.mem_cons.1 hz with rfl | hz
          · exact (mayB_iff _).1 hm
          · exact i2 z hz
        · rw [List.flatMap_cons, List.append_assoc, ← List.drop_drop, ← i3]
          exact he
theorem tk_back : ∀ (ns : List Int) (rest : List Int), Mays ns → tk ns.length (ns.flatMap V.nums ++ rest) = some (ns, (ns.flatMap V.nums).length) := by
  intro ns
  induction ns with
  | nil => intro rest _; rfl
  | cons n ns ih =>
    intro rest hm
    have h1 : V.mayB n = true := (mayB_iff n).2 (hm n (by simp))
    have hd : (V.lng n).toNat = (V.nums n).length := by have := nums_lng n; omega
    simp only [List.flatMap_cons, List.append_assoc, List.length_cons, tk, V.getI_back n h1]
    rw [drop_nums, ih rest (fun z hz => hm z (by simp [hz]))]
    simp [hd]
theorem tk_le {k : Nat} {l ns : List Int} {c : Nat} (hl : Bytes l) (h : tk k l = some (ns, c)) : c ≤ l.length := by
  obtain ⟨_, _, h3, h4⟩ := tk_inv k l ns c hl h
  have := congrArg List.length h3
  simp only [List.length_append, ← h4] at this
  omega
theorem tk_take {k : Nat} {l ns : List Int} {c : Nat} (hl : Bytes l) (h : tk k l = some (ns, c)) : l.take c = ns.flatMap V.nums := by
  obtain ⟨_, _, h3, h4⟩ := tk_inv k l ns c hl h
  rw [h3, h4]; simp
theorem tk_add : ∀ (a b : Nat) (l : List Int), tk (a + b) l = (tk a l).bind fun x => (tk b (l.drop x.2)).map fun y => (x.1 ++ y.1, x.2 + y.2) := by
  intro a
  induction a with
  | zero => intro b l; simp [tk]
  | succ a ih =>
    intro b l
    rw [show a + 1 + b = (a + b) + 1 by omega]
    simp only [tk]
    cases V.getI l with
    | none => rfl
    | some x =>
      simp only [ih]
      cases tk a (l.drop x.2.toNat) with
      | none => rfl
      | some y =>
        simp only [Option.bind_some, Option.map_some, List.drop_drop]
        cases tk b (l.drop (x.2.toNat + y.2)) with
        | none => rfl
        | some z => simp [Nat.add_assoc]

/-- The ranges of an Ack's numbers, Hi and Lo each; the numbers of ranges. -/
def rgs : List Int → List R
  | hi :: lo :: rest => (lo, hi) :: rgs rest
  | _ => []
def unr : List R → List Int
  | [] => []
  | r :: rs => r.2 :: r.1 :: unr rs
theorem rgs_unr : ∀ zs : List R, rgs (unr zs) = zs
  | [] => rfl
  | r :: rs => by simp [unr, rgs, rgs_unr rs]
theorem unr_length : ∀ zs : List R, (unr zs).length = 2 * zs.length
  | [] => rfl
  | r :: rs => by simp only [unr, List.length_cons, unr_length rs]; omega
theorem unr_rgs : ∀ (k : Nat) (l : List Int), l.length = 2 * k → unr (rgs l) = l := by
  intro k
  induction k with
  | zero =>
    intro l hl
    obtain rfl : l = [] := List.eq_nil_of_length_eq_zero (by omega)
    rfl
  | succ k ih =>
    intro l hl
    match l, hl with
    | [], hl => simp at hl
    | [a], hl => simp at hl; omega
    | a :: b :: l, hl => simp only [rgs, unr, ih l (by simp at hl; omega)]
theorem unr_append : ∀ (a b : List R), unr (a ++ b) = unr a ++ unr b
  | [], b => rfl
  | r :: rs, b => by simp [unr, unr_append rs b]
theorem rgs_length : ∀ (k : Nat) (l : List Int), l.length = 2 * k → (rgs l).length = k := by
  intro k l hl
  have := unr_length (rgs l)
  rw [unr_rgs k l hl] at this
  omega
theorem unr_mays {zs : List R} (h : Good zs) : Mays (unr zs) := by
  obtain ⟨h1, h2, h3⟩ := h
  have hle : ∀ r, r ∈ zs → r.1 ≤ r.2 := norm_le h3
  clear h3 h1
  induction zs with
  | nil => intro z hz; simp [unr] at hz
  | cons r rs ih =>
    intro z hz
    have b := h2 r (by simp)
    have c := hle r (by simp)
    simp only [unr, List.mem_cons] at hz
    rcases hz with rfl | rfl | hz
    · omega
    · omega
    · exact ih (fun s hs => h2 s (by simp [hs])) (fun s hs => hle s (by simp [hs])) z hz

/-- How many numbers a frame of a kind other than an Ack has. -/
def cntK (k : Int) : Nat := if k = 1 then 0 else if k = 7 then 2 else 1
def kindB (k : Int) : Bool := decide (1 ≤ k ∧ k ≤ 8)
def cntB (k : Int) (n : Nat) : Bool := if k = 2 then decide (0 < n ∧ n % 2 = 0 ∧ n ≤ 24) else decide (n = cntK k)
def anyB (ns : List Int) : Bool := ns.any fun n => !V.mayB n
/-- What is wrong with a frame. -/
def frF (k : Int) (ns : List Int) (d : ByteArray) : Int :=
  if kindB k = false then 1 else if cntB k ns.length = false then 3 else if k ≠ 3 ∧ d.size ≠ 0 then 3 else if anyB ns = true then 1 else if 20 < d.size then 4 else if k = 2 ∧ chk (rgs ns) ≠ 0 then 3 else 0
/-- The bytes between a frame's kind and its data. -/
def mid (k : Int) (ns : List Int) (d : ByteArray) : List Int := if k = 2 then enc (rgs ns) else if k = 3 then (ns ++ [(d.size : Int)]).flatMap V.nums else ns.flatMap V.nums
def frB (k : Int) (ns : List Int) (d : ByteArray) : List Int := k :: mid k ns d ++ V.ints d
def frS (k : Int) (ns : List Int) (d : ByteArray) : ByteArray := strOfNums [k] ++ strOfNums (mid k ns d) ++ d
/-- The ranges that bytes begin with, and how many bytes these are. -/
def rdAck (l : List Int) : Option (List R × Nat) := (tk 3 l).bind fun x => match x.1 with
  | [a, m, d] => if 12 ≤ m then none else (tk (2 * m.toNat) (l.drop x.2)).bind fun y => if 0 ≤ lastLo (a - d) y.1 then some ((a - d, a) :: pairs (a - d) y.1, x.2 + y.2) else none
  | _ => none
def rdNums (k : Int) (l : List Int) : Option (List Int × Nat) := if k = 2 then (rdAck l).map fun x => (unr x.1, x.2) else tk (cntK k) l
/-- How many bytes a Stream has, and how many bytes tell it. -/
def rdPiece (l : List Int) : Option (Nat × Nat) := match V.getI l with
  | none => none
  | some x => if 20 < x.1 ∨ (l.length : Int) < x.2 + x.1 then none else some (x.1.toNat, x.2.toNat)
/-- The frame that bytes begin with, and how many these are. -/
def rdF (s : ByteArray) : Option ((Int × List Int × ByteArray) × Nat) := match V.ints s with
  | [] => none
  | k :: l => if kindB k = false then none else (rdNums k l).bind fun x =>
    if k = 3 then (rdPiece (l.drop x.2)).map fun y => ((k, x.1, s.extract (1 + x.2 + y.2) (1 + x.2 + y.2 + y.1)), 1 + x.2 + y.2 + y.1)
    else some ((k, x.1, { data := #[] }), 1 + x.2)

theorem anyB_no {ns : List Int} : anyB ns = false ↔ Mays ns := by
  unfold anyB Mays
  rw [List.any_eq_false]
  constructor
  · intro h z hz
    have := h z hz
    simp at this
    exact (mayB_iff z).1 this
  · intro h z hz
    simp [(mayB_iff z).2 (h z hz)]
theorem frF_ok {k : Int} {ns : List Int} {d : ByteArray} (h : frF k ns d = 0) : kindB k = true ∧ cntB k ns.length = true ∧ (k ≠ 3 → d.size = 0) ∧ Mays ns ∧ d.size ≤ 20 ∧ (k = 2 → Good (rgs ns)) := by
  unfold frF at h
  split at h
  · cases h
  · rename_i h1
    split at h
    · cases h
    · rename_i h2
      split at h
      · cases h
      · rename_i h3
        split at h
        · cases h
        · rename_i h4
          split at h
          · cases h
          · rename_i h5
            split at h
            · cases h
            · rename_i h6
              refine ⟨by simpa using h1, by simpa using h2, fun e => ?_, anyB_no.1 (by simpa using h4), by omega, fun e => ?_⟩
              · by_cases z : d.size = 0
                · exact z
                · exact absurd ⟨e, z⟩ h3
              · by_cases z : chk (rgs ns) = 0
                · exact (chk_ok _).1 z
                · exact absurd ⟨e, z⟩ h6
theorem frF_zero {k : Int} {ns : List Int} {d : ByteArray} (h1 : kindB k = true) (h2 : cntB k ns.length = true) (h3 : k ≠ 3 → d.size = 0) (h4 : Mays ns) (h5 : d.size ≤ 20) (h6 : k = 2 → Good (rgs ns)) : frF k ns d = 0 := by
  unfold frF
  rw [if_neg (by simp [h1]), if_neg (by simp [h2]), if_neg (by rintro ⟨a, b⟩; exact b (h3 a)), if_neg (by rw [anyB_no.2 h4]; simp), if_neg (by omega), if_neg (by rintro ⟨a, b⟩; exact b ((chk_ok _).2 (h6 a)))]
theorem kindB_iff (k : Int) : kindB k = true ↔ 1 ≤ k ∧ k ≤ 8 := by simp [kindB]

theorem rdAck_inv {l : List Int} {zs : List R} {c : Nat} (hl : Bytes l) (h : rdAck l = some (zs, c)) : zs ≠ [] ∧ Good zs ∧ l.take c = enc zs ∧ c ≤ l.length := by
  unfold rdAck at h
  cases h1 : tk 3 l with
  | none => rw [h1] at h; cases h
  | some x =>
    obtain ⟨ns, c1⟩ := x
    rw [h1] at h
    obtain ⟨i1, i2, i3, i4⟩ := tk_inv 3 l ns c1 hl h1
    match ns, i1, h with
    | [a, m, d], i1, h =>
      simp only [Option.bind_some] at h
      split at h
      · cases h
      · rename_i hm
        have m0 := (i2 m (by simp)).1
        cases h2 : tk (2 * m.toNat) (l.drop c1) with
        | none => rw [h2] at h; cases h
        | some y =>
          obtain ⟨ms, c2⟩ := y
          rw [h2] at h
          simp only [Option.bind_some] at h
          obtain ⟨j1, j2, j3, j4⟩ := tk_inv _ _ _ _ (bytes_drop hl _) h2
          split at h
          · rename_i hlo
            cases h
            have hp : parseN (a :: m :: d :: ms) = some ((a - d, a) :: pairs (a - d) ms) := by
              simp only [parseN]; rw [if_pos ⟨by omega, hlo⟩]
            have hmm : Mays (a :: m :: d :: ms) := by
              intro z hz
              rcases List.mem_cons.1 hz with rfl | hz
              · exact i2 _ (by simp)
              rcases List.mem_cons.1 hz with rfl | hz
              · exact i2 _ (by simp)
              rcases List.mem_cons.1 hz with rfl | hz
              · exact i2 _ (by simp)
              · exact j2 z hz
            obtain ⟨k1, k2, k3⟩ := parseN_inv hmm (by simp; omega) hp
            have t2 := tk_le (bytes_drop hl _) h2
            have t1 := tk_le hl h1
            rw [List.length_drop] at t2
            refine ⟨k1, k2, ?_, by omega⟩
            unfold enc
            rw [← k3, List.take_add, tk_take hl h1, tk_take (bytes_drop hl _) h2]
            simp only [List.flatMap_cons, List.flatMap_nil, List.append_nil, List.append_assoc]
          · cases h
theorem rdAck_back {zs : List R} (h : Good zs) (h0 : zs ≠ []) (rest : List Int) : rdAck (enc zs ++ rest) = some (zs, (enc zs).length) := by
  cases zs with
  | nil => exact absurd rfl h0
  | cons r rs =>
    have hm := mays_nums h
    have hlen := h.1
    simp only [List.length_cons] at hlen
    have e0 : enc (r :: rs) = [r.2, (rs.length : Int), r.2 - r.1].flatMap V.nums ++ (tailN r.1 rs).flatMap V.nums := by
      simp [enc, numsOf]
    have t1 : tk 3 (enc (r :: rs) ++ rest) = some ([r.2, (rs.length : Int), r.2 - r.1], ([r.2, (rs.length : Int), r.2 - r.1].flatMap V.nums).length) := by
      rw [e0, List.append_assoc]
      exact tk_back [r.2, (rs.length : Int), r.2 - r.1] _ (fun z hz => hm z (by simp only [numsOf]; simp at hz ⊢; rcases hz with h | h | h <;> simp [h]))
    have t2 := tk_back (tailN r.1 rs) rest (fun z hz => hm z (by simp [numsOf, hz]))
    rw [tailN_length] at t2
    have b := h.2.1 r (by simp)
    have lo := lastLo_tail rs r.1 b.1 (fun s hs => (h.2.1 s (by simp [hs])).1)
    have e1 : r.2 - (r.2 - r.1) = r.1 := by omega
    unfold rdAck
    rw [t1]
    simp only [Option.bind_some]
    rw [if_neg (by omega)]
    have hd : (enc (r :: rs) ++ rest).drop ([r.2, (rs.length : Int), r.2 - r.1].flatMap V.nums).length = (tailN r.1 rs).flatMap V.nums ++ rest := by
      rw [e0, List.append_assoc, List.drop_left]
    rw [hd, Int.toNat_natCast, t2]
    simp only [Option.bind_some, e1]
    rw [if_pos lo, pairs_tail, e0, List.length_append]
theorem cntB_ack {n : Nat} (h : cntB 2 n = true) : ∃ j, n = 2 * j ∧ 1 ≤ j ∧ j ≤ 12 := by
  simp [cntB] at h
  exact ⟨n / 2, by omega, by omega, by omega⟩
theorem rdNums_inv {k : Int} {l ns : List Int} {c : Nat} (hl : Bytes l) (h : rdNums k l = some (ns, c)) : cntB k ns.length = true ∧ Mays ns ∧ (k = 2 → Good (rgs ns)) ∧ l.take c = (if k = 2 then enc (rgs ns) else ns.flatMap V.nums) ∧ c ≤ l.length := by
  unfold rdNums at h
  split at h
  · rename_i hk
    cases h1 : rdAck l with
    | none => rw [h1] at h; cases h
    | some x =>
      obtain ⟨zs, e⟩ := x
      rw [h1] at h
      simp only [Option.map_some, Option.some.injEq, Prod.mk.injEq] at h
      obtain ⟨rfl, rfl⟩ := h
      obtain ⟨i1, i2, i3, i4⟩ := rdAck_inv hl h1
      have hz : zs.length ≠ 0 := fun e => i1 (List.eq_nil_of_length_eq_zero e)
      refine ⟨?_, unr_mays i2, fun _ => by rw [rgs_unr]; exact i2, by rw [if_pos hk, rgs_unr]; exact i3, i4⟩
      have := i2.1
      simp only [cntB, if_pos hk, unr_length]
      exact decide_eq_true (by omega)
  · rename_i hk
    obtain ⟨i1, i2, i3, i4⟩ := tk_inv _ _ _ _ hl h
    exact ⟨by simp [cntB, hk, i1], i2, fun e => absurd e hk, by rw [if_neg hk]; exact tk_take hl h, tk_le hl h⟩
theorem rdNums_back {k : Int} {ns : List Int} (rest : List Int) (h1 : cntB k ns.length = true) (h2 : Mays ns) (h3 : k = 2 → Good (rgs ns)) : rdNums k ((if k = 2 then enc (rgs ns) else ns.flatMap V.nums) ++ rest) = some (ns, (if k = 2 then enc (rgs ns) else ns.flatMap V.nums).length) := by
  unfold rdNums
  by_cases hk : k = 2
  · subst hk
    obtain ⟨j, hj, hj1, _⟩ := cntB_ack h1
    have hne : rgs ns ≠ [] := fun e => by have := rgs_length j ns hj; rw [e] at this; simp at this; omega
    rw [if_pos rfl, if_pos rfl, rdAck_back (h3 rfl) hne]
    simp only [Option.map_some, unr_rgs j ns hj]
  · rw [if_neg hk, if_neg hk]
    simp [cntB, hk] at h1
    rw [← h1]
    exact tk_back ns rest h2

theorem ints_size (s : ByteArray) : (V.ints s).length = s.size := ints_length s
theorem ints_extract (s : ByteArray) (a b : Nat) : V.ints (s.extract a b) = ((V.ints s).drop a).take (b - a) := by
  obtain ⟨⟨l⟩⟩ := s
  simp only [V.ints, ByteArray.extract, ByteArray.copySlice, ByteArray.empty]
  simp [List.map_drop, List.map_take, List.take_drop]
  try (by_cases h : a ≤ b
       · rw [show a + (b - a) = b by omega]
       · rw [show a + (b - a) = a by omega]; simp; try omega)
theorem bytes_mid {k : Int} {ns : List Int} {d : ByteArray} (h : frF k ns d = 0) : Bytes (mid k ns d) := by
  obtain ⟨h1, h2, h3, h4, h5, h6⟩ := frF_ok h
  unfold mid
  split
  · rename_i hk; exact bytes_enc (h6 hk)
  · split
    · refine bytes_nums fun z hz => ?_
      rcases List.mem_append.1 hz with hz | hz
      · exact h4 z hz
      · simp at hz; subst hz; omega
    · exact bytes_nums h4
theorem ints_frS {k : Int} {ns : List Int} {d : ByteArray} (h : frF k ns d = 0) : V.ints (frS k ns d) = frB k ns d := by
  have hk := (kindB_iff k).1 (frF_ok h).1
  unfold frS frB
  rw [V.ints_app, V.ints_app, V.ints_nums [k] (by intro z hz; simp at hz; subst hz; omega), V.ints_nums _ (bytes_mid h)]
  simp

/-- A frame that is right comes back, whatever is behind it. -/
theorem rdF_back {k : Int} {ns : List Int} {d : ByteArray} (h : frF k ns d = 0) (rest : ByteArray) : rdF (frS k ns d ++ rest) = some ((k, ns, d), (frS k ns d).size) := by
  obtain ⟨h1, h2, h3, h4, h5, h6⟩ := frF_ok h
  have hk := (kindB_iff k).1 h1
  have hsz : (frS k ns d).size = (frB k ns d).length := by rw [← ints_frS h, ints_size]
  have e0 : V.ints (frS k ns d ++ rest) = k :: (mid k ns d ++ V.ints d ++ V.ints rest) := by rw [V.ints_app, ints_frS h]; simp [frB]
  by_cases h3' : k = 3
  · have hm : mid k ns d = ns.flatMap V.nums ++ V.nums (d.size : Int) := by simp [mid, h3']
    have md : V.mayB (d.size : Int) = true := (mayB_iff _).2 (by omega)
    have e1 := rdNums_back (k := k) (V.nums (d.size : Int) ++ V.ints d ++ V.ints rest) h2 h4 h6
    rw [if_neg (by omega)] at e1
    have ln := nums_lng (d.size : Int)
    have lb := V.lng_bd (d.size : Int)
    have e2 : rdPiece (V.nums (d.size : Int) ++ V.ints d ++ V.ints rest) = some (d.size, (V.nums (d.size : Int)).length) := by
      unfold rdPiece
      rw [List.append_assoc, V.getI_back _ md]
      simp only [List.length_append, ints_size]
      rw [if_neg (by omega), Int.toNat_natCast]
      simp only [Option.some.injEq, Prod.mk.injEq, true_and]
      omega
    unfold rdF
    rw [e0]
    simp only [h1]
    rw [if_neg (by simp), hm, show ns.flatMap V.nums ++ V.nums (d.size : Int) ++ V.ints d ++ V.ints rest = ns.flatMap V.nums ++ (V.nums (d.size : Int) ++ V.ints d ++ V.ints rest) by simp, e1]
    simp only [Option.bind_some]
    rw [if_pos h3', List.drop_left, e2]
    simp only [Option.map_some, Option.some.injEq, Prod.mk.injEq, true_and]
    have el : (frB k ns d).length = 1 + (ns.flatMap V.nums).length + (V.nums (d.size : Int)).length + d.size := by
      simp only [frB, hm, List.length_cons, List.length_append, ints_size]; omega
    refine ⟨?_, by rw [hsz, el]⟩
    apply ints_inj
    rw [ints_extract, e0, hm]
    rw [show k :: (ns.flatMap V.nums ++ V.nums (d.size : Int) ++ V.ints d ++ V.ints rest) = (k :: ns.flatMap V.nums ++ V.nums (d.size : Int)) ++ (V.ints d ++ V.ints rest) by simp, List.drop_left' (by simp; omega), List.take_left' (by rw [ints_size]; omega)]
  · have hd0 := h3 h3'
    have hd : V.ints d = [] := List.eq_nil_of_length_eq_zero (by rw [ints_size]; exact hd0)
    have hm : mid k ns d = if k = 2 then enc (rgs ns) else ns.flatMap V.nums := by simp [mid, h3']
    have e1 := rdNums_back (k := k) (V.ints rest) h2 h4 h6
    rw [← hm] at e1
    unfold rdF
    rw [e0, hd, List.append_nil]
    simp only [h1]
    rw [if_neg (by simp), e1]
    simp only [Option.bind_some]
    rw [if_neg h3']
    simp only [Option.some.injEq, Prod.mk.injEq, true_and]
    refine ⟨ints_inj (by rw [hd]; rfl), ?_⟩
    rw [hsz]
    simp [frB, hd]; omega
/-- What is read is right, and is just the bytes that it was read of. -/
theorem rdF_inv {s : ByteArray} {k : Int} {ns : List Int} {d : ByteArray} {n : Nat} (h : rdF s = some ((k, ns, d), n)) : frF k ns d = 0 ∧ 1 ≤ n ∧ n ≤ s.size ∧ s.extract 0 n = frS k ns d := by
  have hby := bytes_ints s
  have hsz := ints_size s
  unfold rdF at h
  split at h
  · cases h
  · rename_i j l hs
    rw [hs] at hby hsz
    have hl : Bytes l := fun z hz => hby z (by simp [hz])
    simp only [List.length_cons] at hsz
    split at h
    · cases h
    · rename_i hkb
      have hkb' : kindB j = true := by simpa using hkb
      cases h1 : rdNums j l with
      | none => rw [h1] at h; cases h
      | some x =>
        obtain ⟨ms, c⟩ := x
        rw [h1] at h
        simp only [Option.bind_some] at h
        obtain ⟨i1, i2, i3, i4, i5⟩ := rdNums_inv hl h1
        split at h
        · rename_i hj
          unfold rdPiece at h
          cases hg : V.getI (l.drop c) with
          | none => rw [hg] at h; cases h
          | some y =>
            obtain ⟨q, e⟩ := y
            rw [hg] at h
            obtain ⟨g1, g2, g3⟩ := getI_inv (bytes_drop hl _) hg
            have gm := (mayB_iff _).1 g1
            have gl := V.lng_bd q
            simp only at h
            split at h
            · cases h
            · rename_i hq
              simp only [Option.map_some, Option.some.injEq, Prod.mk.injEq] at h
              obtain ⟨⟨rfl, rfl, rfl⟩, rfl⟩ := h
              rw [List.length_drop] at hq
              have hds : (s.extract (1 + c + e.toNat) (1 + c + e.toNat + q.toNat)).size = q.toNat := by
                rw [ByteArray.size_extract]; omega
              have hf : frF j ms (s.extract (1 + c + e.toNat) (1 + c + e.toNat + q.toNat)) = 0 :=
                frF_zero hkb' i1 (fun e => absurd hj e) i2 (by omega) i3
              refine ⟨hf, by omega, by omega, ?_⟩
              apply ints_inj
              rw [ints_frS hf, ints_extract, hs]
              simp only [frB, mid, hds]
              rw [if_neg (by omega), if_pos hj, ints_extract, hs]
              rw [if_neg (by omega)] at i4
              have e1 : e.toNat = (V.nums q).length := by have := nums_lng q; omega
              have e2 : ((q.toNat : Nat) : Int) = q := by omega
              have l1 : l = ms.flatMap V.nums ++ l.drop c := by rw [← i4, List.take_append_drop]
              have l2 : l.drop c = V.nums q ++ l.drop (c + e.toNat) := by rw [← List.drop_drop]; exact g3
              have hc : c = (ms.flatMap V.nums).length := by rw [← i4, List.length_take]; omega
              have d1 : (j :: l).drop (1 + c + e.toNat) = l.drop (c + e.toNat) := by
                rw [show 1 + c + e.toNat = (c + e.toNat) + 1 by omega]; rfl
              rw [d1, e2, show 1 + c + e.toNat + q.toNat - (1 + c + e.toNat) = q.toNat by omega, show 1 + c + e.toNat + q.toNat - 0 = (c + e.toNat + q.toNat) + 1 by omega]
              simp only [List.drop_zero, List.take_succ_cons, List.flatMap_append, List.flatMap_cons, List.flatMap_nil, List.append_nil, List.cons_append, List.cons.injEq, true_and]
              conv => lhs; rw [l1, l2, ← List.append_assoc]
              rw [show c + e.toNat + q.toNat = (ms.flatMap V.nums ++ V.nums q).length + q.toNat by rw [List.length_append]; omega, List.take_length_add_append]
        · rename_i hj
          simp only [Option.some.injEq, Prod.mk.injEq] at h
          obtain ⟨⟨rfl, rfl, rfl⟩, rfl⟩ := h
          have hf : frF j ms { data := #[] } = 0 := frF_zero hkb' i1 (fun _ => rfl) i2 (by decide) i3
          refine ⟨hf, by omega, by omega, ?_⟩
          apply ints_inj
          rw [ints_frS hf, ints_extract, hs]
          simp only [frB, mid]
          rw [show 1 + c - 0 = c + 1 by omega]
          simp only [List.drop_zero, List.take_succ_cons]
          have e0 : V.ints { data := #[] } = [] := rfl
          rw [i4, e0]
          by_cases h2 : j = 2
          · rw [if_pos h2, if_pos h2]; simp
          · rw [if_neg h2, if_neg h2, if_neg hj]; simp
end Go.Proofs.YtoabfilliiopmaaDoor
