/- What takeAck and takeNums answer. -/
import Derived.Test.YtoabfilliiopmaaDoorFH
namespace Go.Proofs.YtoabfilliiopmaaDoor
open Go.RowKit Go.Lib Go.Sort
set_option linter.unusedVariables false
set_option linter.unusedSimpArgs false


theorem rdAck_1 {l : List Int} (h : tk 3 l = none) : rdAck l = none := by simp [rdAck, h]
theorem rdAck_2 {l : List Int} {a m d : Int} {c : Nat} (h : tk 3 l = some ([a, m, d], c)) (hm : 12 ≤ m) : rdAck l = none := by simp [rdAck, h, hm]
theorem rdAck_3 {l : List Int} {a m d : Int} {c : Nat} (h : tk 3 l = some ([a, m, d], c)) (hm : ¬ 12 ≤ m) (h2 : tk (2 * m.toNat) (l.drop c) = none) : rdAck l = none := by simp [rdAck, h, hm, h2]
theorem rdAck_4 {l ms : List Int} {a m d : Int} {c c2 : Nat} (hl : Bytes l) (h : tk 3 l = some ([a, m, d], c)) (hm : ¬ 12 ≤ m) (h2 : tk (2 * m.toNat) (l.drop c) = some (ms, c2)) : rdAck l = (parse (l.take (c + c2))).map fun zs => (zs, c + c2) := by
  obtain ⟨i1, i2, i3, i4⟩ := tk_inv 3 l _ c hl h
  obtain ⟨j1, j2, j3, j4⟩ := tk_inv _ _ _ _ (bytes_drop hl _) h2
  have m0 := (i2 m (by simp)).1
  have hmm : Mays (a :: m :: d :: ms) := by
    intro z hz
    rcases List.mem_cons.1 hz with rfl | hz
    · exact i2 _ (by simp)
    rcases List.mem_cons.1 hz with rfl | hz
    · exact i2 _ (by simp)
    rcases List.mem_cons.1 hz with rfl | hz
    · exact i2 _ (by simp)
    · exact j2 z hz
  have e1 : l.take (c + c2) = (a :: m :: d :: ms).flatMap V.nums := by
    rw [List.take_add, tk_take hl h, tk_take (bytes_drop hl _) h2]
    simp only [List.flatMap_cons, List.flatMap_nil, List.append_nil, List.append_assoc]
  have e2 : parse (l.take (c + c2)) = parseN (a :: m :: d :: ms) := by
    unfold parse
    rw [e1, rd_back _ 25 hmm (by simp; omega)]
    rfl
  rw [e2]
  simp only [rdAck, h, Option.bind_some, parseN]
  rw [if_neg hm, h2]
  simp only [Option.bind_some]
  by_cases hlo : 0 ≤ lastLo (a - d) ms
  · rw [if_pos hlo, if_pos ⟨by omega, hlo⟩]; rfl
  · rw [if_neg hlo, if_neg (by rintro ⟨_, h⟩; exact hlo h)]; rfl

theorem take_no (s : ByteArray) (many : Nat) (w : World) (hF : V.Forms w) (hl : s.size ≤ maxLen) (hm : many ≤ 100) (h : tk many (V.ints s) = none) :
    Calls Tryd.prog 39 #[.string s, .int .i64 (many : Int)] w fun e w' => e = noNums ∧ Below w.heap.size w w' := by
  refine (take_calls s many w hF hl hm).mono ?_
  rintro e w' ⟨⟨_, he⟩ | ⟨ns, c, v, h1, _⟩, hb⟩
  · exact ⟨he, hb⟩
  · rw [h] at h1; cases h1
theorem take_yes (s : ByteArray) (many : Nat) (w : World) (hF : V.Forms w) (hl : s.size ≤ maxLen) (hm : many ≤ 100) (ns : List Int) (c : Nat) (h : tk many (V.ints s) = some (ns, c)) :
    Calls Tryd.prog 39 #[.string s, .int .i64 (many : Int)] w fun e w' => ∃ v, e = .returned (.tuple #[v, .string (s.extract c s.size), .nilIface]) ∧ OwnI w' w.heap.size v ns ∧ Below w.heap.size w w' := by
  refine (take_calls s many w hF hl hm).mono ?_
  rintro e w' ⟨⟨h1, _⟩ | ⟨ns', c', v, h1, he, ho⟩, hb⟩
  · rw [h] at h1; cases h1
  · rw [h] at h1; cases h1; exact ⟨v, he, ho, hb⟩

abbrev AckPost (s : ByteArray) (w : World) (e : Ending) (w' : World) : Prop :=
  ((rdAck (V.ints s) = none ∧ e = noNums) ∨ (∃ zs c v, rdAck (V.ints s) = some (zs, c) ∧ e = .returned (.tuple #[v, .string (s.extract c s.size), .nilIface]) ∧ OwnI w' w.heap.size v (unr zs))) ∧ Below w.heap.size w w'

set_option maxRecDepth 100000 in
set_option maxHeartbeats 4000000 in
theorem ack_1 (s : ByteArray) (w : World) (hF : V.Forms w) (hl : s.size ≤ maxLen) (h : tk 3 (V.ints s) = none) : Calls Tryd.prog 38 #[.string s] w (AckPost s w) := by
  have H3 := take_no s 3 w hF hl (by decide) h
  have HE : Hid (rdAck (V.ints s) = none) := rdAck_1 h
  simp only [noNums, errS] at H3
  clear h hF hl
  go_enter Tryd.func38, Tryd.ntmps38
  go_wp2_with (first | (go_at_call 39; refine H3.mono ?_; rintro e w1 ⟨rfl, hb1⟩))
  go_ret3
  exact ⟨.inl ⟨HE.out, rfl⟩, hb1⟩

set_option maxRecDepth 100000 in
set_option maxHeartbeats 4000000 in
theorem ack_2 (s : ByteArray) (w : World) (hF : V.Forms w) (hl : s.size ≤ maxLen) (a m d : Int) (c : Nat) (h : tk 3 (V.ints s) = some ([a, m, d], c)) (hm : 12 ≤ m) : Calls Tryd.prog 38 #[.string s] w (AckPost s w) := by
  have H3 := take_yes s 3 w hF hl (by decide) _ _ h
  have HE : Hid (rdAck (V.ints s) = none) := rdAck_2 h hm
  generalize s.extract c s.size = r1 at H3
  clear h hF hl
  go_enter Tryd.func38, Tryd.ntmps38
  go_wp2_with (first | (go_at_call 39; refine H3.mono ?_; rintro e w1 ⟨v, rfl, ho, hb1⟩; obtain ⟨g, cp, rfl, hcp, _, hg⟩ := ho.form (by simp); have q1 := ho.cell 1 (by simp); simp only [List.getElem?_cons_succ, List.getElem?_cons_zero, Option.getD_some, List.length_cons, List.length_nil, Nat.reduceAdd] at q1 hcp ⊢))
  go_ret3
  exact ⟨.inl ⟨HE.out, rfl⟩, hb1⟩

set_option maxRecDepth 100000 in
set_option maxHeartbeats 4000000 in
theorem ack_3 (s : ByteArray) (w : World) (hF : V.Forms w) (hl : s.size ≤ maxLen) (a d : Int) (m c : Nat) (h : tk 3 (V.ints s) = some ([a, (m : Int), d], c)) (hm : m < 12) (hc : c ≤ s.size) (h2 : tk (2 * m) ((V.ints s).drop c) = none) : Calls Tryd.prog 38 #[.string s] w (AckPost s w) := by
  have H3 := take_yes s 3 w hF hl (by decide) _ _ h
  have HE : Hid (rdAck (V.ints s) = none) := rdAck_3 h (by omega) (by rw [Int.toNat_natCast]; exact h2)
  have hd := ints_drop s c hc
  unfold maxLen at hl
  have hr : (s.extract c s.size).size ≤ maxLen := by unfold maxLen; rw [ByteArray.size_extract]; omega
  generalize s.extract c s.size = r1 at *
  have H4 := fun W (hW : V.Forms W) => take_no r1 (2 * m) W hW hr (by omega) (by rw [hd]; exact h2)
  rw [show ((2 * m : Nat) : Int) = 2 * (m : Int) by omega] at H4
  simp only [noNums, errS] at H4
  have gm : ¬ (12 : Int) ≤ (m : Int) := by omega
  have HF : Hid (V.Forms w) := hF
  clear h hF hl h2 hd hc hr
  go_enter Tryd.func38, Tryd.ntmps38
  go_wp2_with fail
  refine H3.mono ?_
  rintro e w1 ⟨v, rfl, ho, hb1⟩
  obtain ⟨g, cp, rfl, hcp, _, hg⟩ := ho.form (by simp)
  have q1 := ho.cell 1 (by simp)
  simp only [List.getElem?_cons_succ, List.getElem?_cons_zero, Option.getD_some, List.length_cons, List.length_nil, Nat.reduceAdd] at q1 hcp ⊢
  have HX := H4 _ (HF.out.below hb1)
  go_wp2_with (first | (go_at_call 39; refine HX.mono ?_; rintro e w2 ⟨rfl, hb2⟩))
  go_ret3
  exact ⟨.inl ⟨HE.out, rfl⟩, hb1.trans (hb2.mono hb1.size)⟩

set_option maxRecDepth 100000 in
set_option maxHeartbeats 4000000 in
theorem ack_4 (s : ByteArray) (w : World) (hF : V.Forms w) (hl : s.size ≤ maxLen) (a d : Int) (m c c2 : Nat) (ms : List Int) (h : tk 3 (V.ints s) = some ([a, (m : Int), d], c)) (hm : m < 12) (hc : c ≤ s.size) (h2 : tk (2 * m) ((V.ints s).drop c) = some (ms, c2)) (hc2 : c + c2 ≤ s.size) : Calls Tryd.prog 38 #[.string s] w (AckPost s w) := by
  have H3 := take_yes s 3 w hF hl (by decide) _ _ h
  have HE : Hid (rdAck (V.ints s) = (parse ((V.ints s).take (c + c2))).map fun zs => (zs, c + c2)) := rdAck_4 (bytes_ints s) h (by omega) (by rw [Int.toNat_natCast]; exact h2)
  have hd := ints_drop s c hc
  unfold maxLen at hl
  have hr : (s.extract c s.size).size ≤ maxLen := by unfold maxLen; rw [ByteArray.size_extract]; omega
  have ex := ext_ext s c c2 hc hc2
  generalize s.extract c s.size = r1 at *
  have H4 := fun W (hW : V.Forms W) => take_yes r1 (2 * m) W hW hr (by omega) _ _ (by rw [hd]; exact h2)
  rw [show ((2 * m : Nat) : Int) = 2 * (m : Int) by omega, ex] at H4
  generalize hC : c + c2 = C at *
  have hsl := run_upto s C (by omega) hl
  have hip : V.ints (s.extract 0 C) = (V.ints s).take C := by rw [ints_extract]; rfl
  have hpl : (s.extract 0 C).size ≤ maxLen := by unfold maxLen; rw [ByteArray.size_extract]; omega
  generalize s.extract 0 C = p at *
  have hr2 : (s.extract C s.size).size = s.size - C := by rw [ByteArray.size_extract]; omega
  obtain ⟨r2, hr2e⟩ : ∃ r2, s.extract C s.size = r2 := ⟨_, rfl⟩
  rw [hr2e] at H4 hr2
  have HR2 : Hid (s.extract C s.size = r2) := hr2e
  have hsub : (s.size : Int) - (r2.size : Int) = (C : Int) := by omega
  have gm : ¬ (12 : Int) ≤ (m : Int) := by omega
  have gr : (r2.size : Int) ≤ (s.size : Int) := by omega
  have HF : Hid (V.Forms w) := hF
  rw [← hip] at HE
  have HPn := fun W (hW : V.Forms W) => parse_no p W hW hpl
  have HPy := fun W (hW : V.Forms W) => parse_yes p W hW hpl
  have hby := bytes_ints p
  clear h hF h2 hd hc hr hr2e hr2 hip ex hC hc2 hpl
  generalize V.ints p = lp at *
  go_enter Tryd.func38, Tryd.ntmps38
  go_wp2_with fail
  refine H3.mono ?_
  rintro e w1 ⟨v, rfl, ho, hb1⟩
  obtain ⟨g, cp, rfl, hcp, _, hg⟩ := ho.form (by simp)
  have q1 := ho.cell 1 (by simp)
  simp only [List.getElem?_cons_succ, List.getElem?_cons_zero, Option.getD_some, List.length_cons, List.length_nil, Nat.reduceAdd] at q1 hcp ⊢
  have HX := H4 _ (HF.out.below hb1)
  clear H3 H4 ho
  go_wp2_with fail
  refine HX.mono ?_
  rintro e w2 ⟨v2, rfl, ho2, hb2⟩
  obtain ⟨a2, c2', rfl⟩ := ho2.shape
  have hB2 := hb1.trans (hb2.mono hb1.size)
  have hF2 := HF.out.below hB2
  clear HX
  cases hp : parse lp with
  | none =>
    have HE2 : Hid (rdAck (V.ints s) = none) := by show _ = _; rw [HE.out, hp]; rfl
    have HN := HPn _ hF2 hp
    clear HE HPn HPy hp
    go_wp2_with (first | (go_at_call 45; refine HN.mono ?_; rintro e w3 ⟨rfl, hb3⟩))
    go_ret3
    exact ⟨.inl ⟨HE2.out, rfl⟩, hB2.trans (hb3.mono hB2.size)⟩
  | some zs =>
    have HE2 : Hid (rdAck (V.ints s) = some (zs, C)) := by show _ = _; rw [HE.out, hp]; rfl
    obtain ⟨hz0, hzg, _⟩ := (parse_iff hby zs).1 hp
    have HN := HPy _ hF2 zs hp
    clear HE HPn HPy hp
    go_wp2_with fail
    refine HN.mono ?_
    rintro e w3 ⟨v3, rfl, hR3, hf3, hb3⟩
    have hB3 := hB2.trans (hb3.mono hB2.size)
    have HM := numsOf_calls v3 zs w3 hR3 hzg.1 hz0
    obtain ⟨a3, c3, hv3, _⟩ := id hR3
    subst hv3
    clear HN hR3
    go_wp2_with (first | (go_at_call 46; refine HM.mono ?_; rintro e w4 ⟨v4, rfl, ho4, hb4⟩; obtain ⟨a4, c4, hv4⟩ := id ho4.shape; subst hv4))
    go_ret3
    exact ⟨.inr ⟨zs, C, _, HE2.out, by rw [HR2.out]; rfl, own_mono ho4 hB3.size⟩, hB3.trans (hb4.mono hB3.size)⟩
theorem takeAck_calls (s : ByteArray) (w : World) (hF : V.Forms w) (hl : s.size ≤ maxLen) : Calls Tryd.prog 38 #[.string s] w (AckPost s w) := by
  cases h : tk 3 (V.ints s) with
  | none => exact ack_1 s w hF hl h
  | some x =>
    obtain ⟨ns, c⟩ := x
    obtain ⟨i1, i2, _, _⟩ := tk_inv 3 _ _ c (bytes_ints s) h
    have hc := tk_le (bytes_ints s) h
    rw [ints_length] at hc
    match ns, i1, i2, h with
    | [a, m, d], _, i2, h =>
      have m0 := (i2 m (by simp)).1
      by_cases hm : 12 ≤ m
      · exact ack_2 s w hF hl a m d c h hm
      · obtain ⟨mm, rfl⟩ : ∃ mm : Nat, m = (mm : Int) := ⟨m.toNat, by omega⟩
        cases h2 : tk (2 * mm) ((V.ints s).drop c) with
        | none => exact ack_3 s w hF hl a d mm c h (by omega) hc h2
        | some y =>
          obtain ⟨ms, c2⟩ := y
          have hc2 := tk_le (bytes_drop (bytes_ints s) _) h2
          rw [List.length_drop, ints_length] at hc2
          exact ack_4 s w hF hl a d mm c c2 ms h (by omega) hc h2 (by omega)
end Go.Proofs.YtoabfilliiopmaaDoor
