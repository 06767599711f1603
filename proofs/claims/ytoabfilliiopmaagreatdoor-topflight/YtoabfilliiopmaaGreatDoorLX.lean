/- The texts A,B,D,E,F,H,I,J,R of loss, at this seat. -/
import Derived.Test.YtoabfilliiopmaaGreatDoorGR
import Derived.Deep.LoopGhost
import Derived.Laws.AppendOwn
import Derived.Laws.AppendOwnNone
import Derived.Laws.IdiomCopy
import Derived.Lib.SliceRun
namespace Go.Proofs.YtoabfilliiopmaaGreatDoor.Lx
open Go.RowKit Go.Lib Go.Sort
set_option linter.unusedVariables false
set_option linter.unusedSimpArgs false


abbrev S3 := Int × Int × Int
def isT (t : Int) : Bool := decide (0 ≤ t) && decide (t ≤ 100000)
def isZ (n : Int) : Bool := decide (1 ≤ n) && decide (n ≤ 200)
def isW (n : Int) : Bool := decide (1 ≤ n) && decide (n ≤ 100000)
theorem isT_iff (t : Int) : isT t = true ↔ 0 ≤ t ∧ t ≤ 100000 := by simp [isT]
theorem isT_no (t : Int) : isT t = false ↔ t < 0 ∨ 100000 < t := by
  cases h : isT t with
  | true => have := (isT_iff t).1 h; simp; omega
  | false => simp only [true_iff]; by_cases h1 : 0 ≤ t
             · right; by_cases h2 : t ≤ 100000
               · rw [(isT_iff t).2 ⟨h1, h2⟩] at h; cases h
               · omega
             · left; omega
theorem isZ_iff (t : Int) : isZ t = true ↔ 1 ≤ t ∧ t ≤ 200 := by simp [isZ]
theorem isW_iff (t : Int) : isW t = true ↔ 1 ≤ t ∧ t ≤ 100000 := by simp [isW]
theorem isW_no (t : Int) : isW t = false ↔ t < 1 ∨ 100000 < t := by
  cases h : isW t with
  | true => have := (isW_iff t).1 h; simp; omega
  | false => simp only [true_iff]; by_cases h1 : 1 ≤ t
             · right; by_cases h2 : t ≤ 100000
               · rw [(isW_iff t).2 ⟨h1, h2⟩] at h; cases h
               · omega
             · left; omega
def okS (s : S3) : Bool := isN s.1 && isT s.2.1 && isZ s.2.2
theorem okS_iff (s : S3) : okS s = true ↔ (0 ≤ s.1 ∧ s.1 ≤ 1073741823) ∧ (0 ≤ s.2.1 ∧ s.2.1 ≤ 100000) ∧ 1 ≤ s.2.2 ∧ s.2.2 ≤ 200 := by
  simp [okS, isN_iff, isT_iff, isZ_iff, and_assoc]
/-- Whether s can have been sent behind q. -/
def behB (s q : S3) : Bool := decide (q.1 < s.1) && decide (q.2.1 ≤ s.2.1)
def badB : Option S3 → S3 → Bool
  | none, _ => false
  | some q, s => !behB s q
def scFrom : Option S3 → List S3 → Int
  | _, [] => 0
  | p, s :: ss => if okS s = false then 1 else if badB p s = true then 3 else scFrom (some s) ss
def sc (zs : List S3) : Int := if 30 < zs.length then 4 else scFrom none zs
theorem sc_1 (p : Option S3) (s : S3) (ss : List S3) (h : okS s = false) : scFrom p (s :: ss) = 1 := by rw [scFrom, if_pos h]
theorem sc_3 (p : Option S3) (s : S3) (ss : List S3) (h : okS s = true) (h2 : badB p s = true) : scFrom p (s :: ss) = 3 := by rw [scFrom, if_neg (by simp [h]), if_pos h2]
theorem sc_0 (p : Option S3) (s : S3) (ss : List S3) (h : okS s = true) (h2 : badB p s = false) : scFrom p (s :: ss) = scFrom (some s) ss := by rw [scFrom, if_neg (by simp [h]), if_neg (by simp [h2])]
theorem sc_ok : ∀ (zs : List S3) (p : Option S3), scFrom p zs = 0 → (∀ s, s ∈ zs → okS s = true) ∧ (∀ q, p = some q → ∀ s, s ∈ zs → q.1 < s.1) ∧ zs.Pairwise fun a b => a.1 < b.1
  | [], p, _ => ⟨fun s h => by simp at h, fun q _ s h => by simp at h, .nil⟩
  | a :: zs, p, h => by
    cases h1 : okS a with
    | false => rw [sc_1 p a zs h1] at h; cases h
    | true =>
      cases h2 : badB p a with
      | true => rw [sc_3 p a zs h1 h2] at h; cases h
      | false =>
        rw [sc_0 p a zs h1 h2] at h
        obtain ⟨i1, i2, i3⟩ := sc_ok zs (some a) h
        have i2' := i2 a rfl
        refine ⟨fun s hs => ?_, fun q hq s hs => ?_, .cons i2' i3⟩
        · rcases List.mem_cons.1 hs with rfl | hs
          · exact h1
          · exact i1 s hs
        · subst hq
          have hq : q.1 < a.1 := by
            have : behB a q = true := by simpa [badB] using h2
            simp [behB] at this; exact this.1
          rcases List.mem_cons.1 hs with rfl | hs
          · exact hq
          · have := i2' s hs; omega
theorem sc_good {zs : List S3} (h : sc zs = 0) : zs.length ≤ 30 ∧ (∀ s, s ∈ zs → okS s = true) ∧ zs.Pairwise fun a b => a.1 < b.1 := by
  unfold sc at h
  by_cases h30 : 30 < zs.length
  · rw [if_pos h30] at h; cases h
  · rw [if_neg h30] at h
    have := sc_ok zs none h
    exact ⟨by omega, this.1, this.2.2⟩
theorem sc_cases (p : Option S3) : ∀ zs, scFrom p zs = 0 ∨ scFrom p zs = 1 ∨ scFrom p zs = 3 := by
  intro zs
  induction zs generalizing p with
  | nil => exact .inl rfl
  | cons a zs ih =>
    rw [scFrom]
    split
    · exact .inr (.inl rfl)
    · split
      · exact .inr (.inr rfl)
      · exact ih _

/-- Those that did not come. -/
def leftL (acks : List R) (zs : List S3) : List S3 := zs.filter fun s => !memB acks s.1
/-- Whether n or any number above it came. -/
def reachB (acks : List R) (n : Int) : Bool := acks.any fun r => decide (n ≤ r.2)
def lostB (acks : List R) (now wait : Int) (s : S3) : Bool := reachB acks (s.1 + 3) || (reachB acks (s.1 + 1) && decide (wait ≤ now - s.2.1))
def lostL (acks : List R) (now wait : Int) (zs : List S3) : List Int := ((leftL acks zs).filter (lostB acks now wait)).map fun s => s.1
/-- What is wrong with packets, or else with what came. -/
def both (zs : List S3) (acks : List R) : Int := if sc zs = 0 then chk acks else sc zs
def lostF (zs : List S3) (acks : List R) (now wait : Int) : Int := if both zs acks = 0 then (if isT now = true ∧ isW wait = true then 0 else 1) else both zs acks
theorem both_0 {zs : List S3} {acks : List R} (h : both zs acks = 0) : sc zs = 0 ∧ chk acks = 0 := by
  unfold both at h
  by_cases h0 : sc zs = 0
  · rw [if_pos h0] at h; exact ⟨h0, h⟩
  · rw [if_neg h0] at h; exact absurd h h0
theorem both_mk {zs : List S3} {acks : List R} (h1 : sc zs = 0) (h2 : chk acks = 0) : both zs acks = 0 := by rw [both, if_pos h1, h2]
theorem left_length (acks : List R) (zs : List S3) : (leftL acks zs).length ≤ zs.length := List.length_filter_le _ _
theorem left_sub {acks : List R} {zs : List S3} {s : S3} (h : s ∈ leftL acks zs) : s ∈ zs ∧ memB acks s.1 = false := by
  have := List.mem_filter.1 h
  exact ⟨this.1, by simpa using this.2⟩
theorem lostL_mem {acks : List R} {now wait n : Int} {zs : List S3} : n ∈ lostL acks now wait zs ↔ ∃ s, s ∈ leftL acks zs ∧ lostB acks now wait s = true ∧ s.1 = n := by
  simp only [lostL, List.mem_map, List.mem_filter]
  constructor
  · rintro ⟨s, ⟨h1, h2⟩, h3⟩; exact ⟨s, h1, h2, h3⟩
  · rintro ⟨s, h1, h2, h3⟩; exact ⟨s, ⟨h1, h2⟩, h3⟩
theorem reach_none (n : Int) : reachB [] n = false := rfl
theorem reach_down {acks : List R} {m n : Int} (h : n ≤ m) (hr : reachB acks m = true) : reachB acks n = true := by
  simp only [reachB, List.any_eq_true, decide_eq_true_eq] at *
  obtain ⟨r, h1, h2⟩ := hr
  exact ⟨r, h1, by omega⟩
theorem lost_reach {acks : List R} {now wait : Int} {s : S3} (h : lostB acks now wait s = true) : reachB acks (s.1 + 1) = true := by
  simp only [lostB, Bool.or_eq_true, Bool.and_eq_true] at h
  rcases h with h | h
  · exact reach_down (by omega) h
  · exact h.1
theorem lost_less {acks : List R} {now wait more : Int} {s : S3} (hm : 0 ≤ more) (h : lostB acks now (wait + more) s = true) : lostB acks now wait s = true := by
  simp only [lostB, Bool.or_eq_true, Bool.and_eq_true, decide_eq_true_eq] at *
  rcases h with h | h
  · exact .inl h
  · exact .inr ⟨h.1, by omega⟩
theorem lostL_less {acks : List R} {now wait more n : Int} {zs : List S3} (hm : 0 ≤ more) (h : n ∈ lostL acks now (wait + more) zs) : n ∈ lostL acks now wait zs := by
  obtain ⟨s, h1, h2, h3⟩ := lostL_mem.1 h
  exact lostL_mem.2 ⟨s, h1, lost_less hm h2, h3⟩
theorem lostL_rise {acks : List R} {now wait : Int} {zs : List S3} (h : zs.Pairwise fun a b => a.1 < b.1) : (lostL acks now wait zs).Pairwise fun a b => a < b := by
  unfold lostL leftL
  rw [List.pairwise_map]
  exact (h.filter _).filter _
theorem left_none (zs : List S3) : leftL [] zs = zs := by
  unfold leftL
  exact List.filter_eq_self.2 fun s _ => rfl
theorem lost_none (now wait : Int) (zs : List S3) : lostL [] now wait zs = [] := by
  unfold lostL
  rw [List.filter_eq_nil_iff.2 (fun s _ => by simp [lostB, reachB])]
  rfl
def wayL (zs : List S3) : Int := (zs.map fun s => s.2.2).sum



def at3 (zs : List S3) (j : Nat) : S3 := zs[j]?.getD (0, 0, 0)
def Cells3 (w : World) (b off : Nat) (zs : List S3) : Prop := ∀ j, j < zs.length → w.cell? ⟨b, off + j * 3, none⟩ = some (.int .i64 (at3 zs j).1) ∧ w.cell? ⟨b, off + j * 3 + 1, none⟩ = some (.int .i64 (at3 zs j).2.1) ∧ w.cell? ⟨b, off + j * 3 + 2, none⟩ = some (.int .i64 (at3 zs j).2.2)
/-- The slice's value v holds the packets zs in the world w. -/
def Row3 (w : World) (v : Value) (zs : List S3) : Prop := ∃ ao c, v = .slice ao zs.length c ∧ zs.length ≤ 9223372036854775807 ∧ (ao = none → c = 0) ∧ (zs = [] ∨ ∃ b off, ao = some ⟨b, off, none⟩ ∧ b < w.heap.size ∧ Cells3 w b off zs)
theorem Cells3.below {w w' : World} {b off : Nat} {zs : List S3} (h : Cells3 w b off zs) (hb : b < w.heap.size) (bel : Below w.heap.size w w') : Cells3 w' b off zs := fun j hj =>
  ⟨(bel.cell (p := ⟨b, off + j * 3, none⟩) hb).trans (h j hj).1, (bel.cell (p := ⟨b, off + j * 3 + 1, none⟩) hb).trans (h j hj).2.1, (bel.cell (p := ⟨b, off + j * 3 + 2, none⟩) hb).trans (h j hj).2.2⟩
theorem Row3.below {w w' : World} {v : Value} {zs : List S3} (h : Row3 w v zs) (bel : Below w.heap.size w w') : Row3 w' v zs := by
  obtain ⟨ao, c, rfl, hl, hn, h⟩ := h
  refine ⟨ao, c, rfl, hl, hn, ?_⟩
  rcases h with h | ⟨b, off, rfl, hb, hc⟩
  · exact .inl h
  · exact .inr ⟨b, off, rfl, Nat.lt_of_lt_of_le hb bel.size, hc.below hb bel⟩
theorem Row3.nil (w : World) : Row3 w (.slice none 0 0) [] := ⟨none, 0, rfl, by simp, fun _ => rfl, .inl rfl⟩
theorem at3_mem {zs : List S3} {j : Nat} (h : j < zs.length) : at3 zs j ∈ zs := by simp [at3, h]
theorem drop3 {zs : List S3} {j : Nat} (h : j < zs.length) : zs.drop j = at3 zs j :: zs.drop (j + 1) := by
  rw [List.drop_eq_getElem_cons h]; simp [at3, h]
theorem wrap_small (n : Int) (h0 : -10000000000 ≤ n) (h1 : n ≤ 10000000000) : IntKind.i64.wrap n = n := by simp [IntKind.wrap, IntKind.bits, IntKind.signed]; omega
theorem errV_f {f : Int} (h : f ≠ 0) : errV f = .iface 108 (.int .i64 f) := if_neg h

set_option maxRecDepth 100000 in
set_option maxHeartbeats 2000000 in
theorem sn_calls' (n : Int) (w : World) : Calls Tryz.prog 115 #[.int .i64 n] w fun e w' => e = .returned (.bool (decide (0 ≤ n) && decide (n ≤ 1073741823))) ∧ w' = w := by
  by_cases h1 : 0 ≤ n
  · by_cases h2 : n ≤ 1073741823
    · go_enter Tryz.func115, Tryz.ntmps115
      go_wp2
      go_ret
      exact ⟨by simp [h1, h2], rfl⟩
    · go_enter Tryz.func115, Tryz.ntmps115
      go_wp2
      go_ret
      exact ⟨by simp [h1, h2], rfl⟩
  · go_enter Tryz.func115, Tryz.ntmps115
    go_wp2
    go_ret
    exact ⟨by simp; omega, rfl⟩

set_option maxRecDepth 100000 in
set_option maxHeartbeats 2000000 in
theorem st_calls' (n : Int) (w : World) : Calls Tryz.prog 69 #[.int .i64 n] w fun e w' => e = .returned (.bool (decide (0 ≤ n) && decide (n ≤ 100000))) ∧ w' = w := by
  by_cases h1 : 0 ≤ n
  · by_cases h2 : n ≤ 100000
    · go_enter Tryz.func69, Tryz.ntmps69
      go_wp2
      go_ret
      exact ⟨by simp [h1, h2], rfl⟩
    · go_enter Tryz.func69, Tryz.ntmps69
      go_wp2
      go_ret
      exact ⟨by simp [h1, h2], rfl⟩
  · go_enter Tryz.func69, Tryz.ntmps69
    go_wp2
    go_ret
    exact ⟨by simp; omega, rfl⟩

set_option maxRecDepth 100000 in
set_option maxHeartbeats 2000000 in
theorem sz_calls' (n : Int) (w : World) : Calls Tryz.prog 116 #[.int .i64 n] w fun e w' => e = .returned (.bool (decide (1 ≤ n) && decide (n ≤ 200))) ∧ w' = w := by
  by_cases h1 : 1 ≤ n
  · by_cases h2 : n ≤ 200
    · go_enter Tryz.func116, Tryz.ntmps116
      go_wp2
      go_ret
      exact ⟨by simp [h1, h2], rfl⟩
    · go_enter Tryz.func116, Tryz.ntmps116
      go_wp2
      go_ret
      exact ⟨by simp [h1, h2], rfl⟩
  · go_enter Tryz.func116, Tryz.ntmps116
    go_wp2
    go_ret
    exact ⟨by simp; omega, rfl⟩

set_option maxRecDepth 100000 in
set_option maxHeartbeats 2000000 in
theorem sw_calls' (n : Int) (w : World) : Calls Tryz.prog 70 #[.int .i64 n] w fun e w' => e = .returned (.bool (decide (1 ≤ n) && decide (n ≤ 100000))) ∧ w' = w := by
  by_cases h1 : 1 ≤ n
  · by_cases h2 : n ≤ 100000
    · go_enter Tryz.func70, Tryz.ntmps70
      go_wp2
      go_ret
      exact ⟨by simp [h1, h2], rfl⟩
    · go_enter Tryz.func70, Tryz.ntmps70
      go_wp2
      go_ret
      exact ⟨by simp [h1, h2], rfl⟩
  · go_enter Tryz.func70, Tryz.ntmps70
    go_wp2
    go_ret
    exact ⟨by simp; omega, rfl⟩

theorem sn_calls (n : Int) (w : World) : Calls Tryz.prog 115 #[.int .i64 n] w fun e w' => e = .returned (.bool (isN n)) ∧ w' = w := sn_calls' n w
theorem st_calls (n : Int) (w : World) : Calls Tryz.prog 69 #[.int .i64 n] w fun e w' => e = .returned (.bool (isT n)) ∧ w' = w := st_calls' n w
theorem sz_calls (n : Int) (w : World) : Calls Tryz.prog 116 #[.int .i64 n] w fun e w' => e = .returned (.bool (isZ n)) ∧ w' = w := sz_calls' n w
theorem sw_calls (n : Int) (w : World) : Calls Tryz.prog 70 #[.int .i64 n] w fun e w' => e = .returned (.bool (isW n)) ∧ w' = w := sw_calls' n w
set_option maxRecDepth 100000 in
set_option maxHeartbeats 2000000 in
theorem beh_grow (s q : S3) (w : World) : Calls Tryz.prog 117 #[.agg #[.int .i64 s.1, .int .i64 s.2.1, .int .i64 s.2.2], .agg #[.int .i64 q.1, .int .i64 q.2.1, .int .i64 q.2.2]] w fun e w' => e = .returned (.bool (behB s q)) ∧ ∃ m os', w' = grow (w.drewN m) os' := by
  obtain ⟨a, b, c⟩ := s
  obtain ⟨d, e, f⟩ := q
  unfold behB
  by_cases h1 : d < a
  · go_enter Tryz.func117, Tryz.ntmps117
    go_wp2
    go_ret
    exact ⟨by simp [h1], 0, _, by rw [alloc_eq_grow, alloc_eq_grow, grow_grow]; rfl⟩
  · go_enter Tryz.func117, Tryz.ntmps117
    go_wp2
    go_ret
    exact ⟨by simp; omega, 0, _, by rw [alloc_eq_grow, alloc_eq_grow, grow_grow]; rfl⟩

def prv3 (zs : List S3) (k : Nat) : Option S3 := if k = 0 then none else some (at3 zs (k - 1))
theorem prv3_succ (zs : List S3) (k : Nat) : prv3 zs (k + 1) = some (at3 zs k) := by simp [prv3]

set_option maxRecDepth 100000 in
set_option maxHeartbeats 2000000 in
theorem scheck_full (a : Option Addr) (len cap : Nat) (w : World) (h : 30 < len) (hm : len ≤ 9223372036854775807) :
    Calls Tryz.prog 75 #[.slice a len cap] w fun e w' => e = .returned (.iface 108 (.int .i64 4)) ∧ Below w.heap.size w w' := by
  have h' : (30 : Int) < (len : Int) := by omega
  go_enter Tryz.func75, Tryz.ntmps75
  go_wp2_with fail
  go_ret
  exact ⟨rfl, Below.refl _ _⟩
set_option maxRecDepth 100000 in
set_option maxHeartbeats 2000000 in
theorem scheck_none (a : Option Addr) (cap : Nat) (w : World) :
    Calls Tryz.prog 75 #[.slice a 0 cap] w fun e w' => e = .returned .nilIface ∧ Below w.heap.size w w' := by
  go_enter Tryz.func75, Tryz.ntmps75
  go_wp2_with fail
  refine wp_loop_rounds 1 ?_
  rw [rounds_succ]
  go_wp2_with fail
  go_ret
  exact ⟨rfl, Below.refl _ _⟩
set_option maxRecDepth 100000 in
set_option maxHeartbeats 2000000 in
theorem scheck_some (b0 off len cap : Nat) (zs : List S3) (w : World) (hlen : zs.length = len) (h30 : len ≤ 30) (hb : b0 < w.heap.size) (hc : Cells3 w b0 off zs) :
    Calls Tryz.prog 75 #[.slice (some ⟨b0, off, none⟩) len cap] w fun e w' => e = .returned (errV (scFrom none zs)) ∧ Below w.heap.size w w' := by
  have h30' : ¬ (30 : Int) < (len : Int) := by omega
  have HL : Hid (zs.length = len) := hlen
  have HC : Hid (Cells3 w b0 off zs) := hc
  clear hlen hc
  go_enter Tryz.func75, Tryz.ntmps75
  go_wp2_with fail
  go_loopw [11] (fun i wr => ∃ k : Nat, k ≤ len ∧ i = .int .i64 k ∧ Hid (scFrom none zs = scFrom (prv3 zs k) (zs.drop k)) ∧ Below w.heap.size w wr) (fun i _ => len - (intOf i).toNat)
  case atStart => exact ⟨0, Nat.zero_le _, rfl, rfl, Below.refl _ _⟩
  case round =>
    obtain ⟨k, hk, rfl, hE, hB⟩ := hrel
    by_cases hlt : k < len
    · have g1 : (k : Int) < (len : Int) := by omega
      have hkl : k < zs.length := by have := HL.out; omega
      have c0 := (HC.out.below hb hB k hkl).1
      have c1 := (HC.out.below hb hB k hkl).2.1
      have c2 := (HC.out.below hb hB k hkl).2.2
      have HD : Hid (zs.drop k = at3 zs k :: zs.drop (k + 1)) := drop3 hkl
      have HP : Hid (prv3 zs (k + 1) = some (at3 zs k)) := prv3_succ zs k
      have HK : Hid (0 < k → Cells3 wr b0 off zs) := fun _ => HC.out.below hb hB
      have hbr : b0 < wr.heap.size := Nat.lt_of_lt_of_le hb hB.size
      generalize hr : at3 zs k = r at c0 c1 c2 HD HP
      obtain ⟨a, b, c⟩ := r
      clear hr hkl
      simp only at c0 c1 c2
      have H1 : Hid (okS (a, b, c) = false → scFrom none zs = 1) := by
        show _ → _
        intro h
        rw [hE.out, HD.out]; exact sc_1 _ _ _ h
      cases n1 : isN a with
      | false =>
        have HF : Hid (scFrom none zs = 1) := H1.out (by simp [okS, n1])
        clear hE H1 HD HP HK
        go_wp2_with (go_at_call_of 115 a; refine (sn_calls a _).mono ?_; rintro e w1 ⟨rfl, rfl⟩; rw [n1])
        go_ret
        exact ⟨by rw [HF.out, errV1]; rfl, hB.alloc hB.size _⟩
      | true =>
        cases n2 : isT b with
        | false =>
          have HF : Hid (scFrom none zs = 1) := H1.out (by simp [okS, n1, n2])
          clear hE H1 HD HP HK
          go_wp2_with (first | (go_at_call_of 115 a; refine (sn_calls a _).mono ?_; rintro e w1 ⟨rfl, rfl⟩; rw [n1]) | (go_at_call_of 69 b; refine (st_calls b _).mono ?_; rintro e w1 ⟨rfl, rfl⟩; rw [n2]))
          go_ret
          exact ⟨by rw [HF.out, errV1]; rfl, hB.alloc hB.size _⟩
        | true =>
          cases n3 : isZ c with
          | false =>
            have HF : Hid (scFrom none zs = 1) := H1.out (by simp [okS, n1, n2, n3])
            clear hE H1 HD HP HK
            go_wp2_with (first | (go_at_call_of 115 a; refine (sn_calls a _).mono ?_; rintro e w1 ⟨rfl, rfl⟩; rw [n1]) | (go_at_call_of 69 b; refine (st_calls b _).mono ?_; rintro e w1 ⟨rfl, rfl⟩; rw [n2]) | (go_at_call_of 116 c; refine (sz_calls c _).mono ?_; rintro e w1 ⟨rfl, rfl⟩; rw [n3]))
            go_ret
            exact ⟨by rw [HF.out, errV1]; rfl, hB.alloc hB.size _⟩
          | true =>
            have hok : okS (a, b, c) = true := by simp [okS, n1, n2, n3]
            clear H1
            by_cases h0 : k = 0
            · subst h0
              have HF : Hid (scFrom none zs = scFrom (prv3 zs 1) (zs.drop 1)) := by
                show _ = _
                rw [hE.out, HD.out, HP.out]; exact sc_0 _ _ _ hok rfl
              simp only [Nat.zero_mul, Nat.add_zero] at c0 c1 c2
              clear hE HK HD HP hok
              go_wp2_with (first | (go_at_call_of 115 a; refine (sn_calls a _).mono ?_; rintro e w1 ⟨rfl, rfl⟩; rw [n1]) | (go_at_call_of 69 b; refine (st_calls b _).mono ?_; rintro e w1 ⟨rfl, rfl⟩; rw [n2]) | (go_at_call_of 116 c; refine (sz_calls c _).mono ?_; rintro e w1 ⟨rfl, rfl⟩; rw [n3]))
              go_quiet (fail)
              go_wp2_with fail
              exact ⟨⟨1, by omega, by go_num, HF, below_drewN (hB.alloc hB.size _) _⟩, by simp [intOf]; omega⟩
            · have g2 : (0 : Int) < (k : Int) := by omega
              have hkl' : k - 1 < zs.length := by have := HL.out; omega
              have d0 := (HK.out (by omega) (k - 1) hkl').1
              have d1 := (HK.out (by omega) (k - 1) hkl').2.1
              have d2 := (HK.out (by omega) (k - 1) hkl').2.2
              have HQ : Hid (prv3 zs k = some (at3 zs (k - 1))) := by
                show _ = _
                unfold prv3; rw [if_neg h0]
              obtain ⟨j, rfl⟩ : ∃ j, k = j + 1 := ⟨k - 1, by omega⟩
              simp only [Nat.add_sub_cancel] at d0 d1 d2 HQ
              generalize at3 zs j = q at d0 d1 d2 HQ
              obtain ⟨qa, qb, qc⟩ := q
              simp only at d0 d1 d2 HQ
              clear HK hkl'
              cases h4 : behB (a, b, c) (qa, qb, qc) with
              | false =>
                have HF : Hid (scFrom none zs = 3) := by
                  show _ = _
                  rw [hE.out, HD.out, HQ.out]; exact sc_3 _ _ _ hok (by simp [badB, h4])
                clear hE HD HP HQ hok
                go_wp2_with (first | (go_at_call_of 115 a; refine (sn_calls a _).mono ?_; rintro e w1 ⟨rfl, rfl⟩; rw [n1]) | (go_at_call_of 69 b; refine (st_calls b _).mono ?_; rintro e w1 ⟨rfl, rfl⟩; rw [n2]) | (go_at_call_of 116 c; refine (sz_calls c _).mono ?_; rintro e w1 ⟨rfl, rfl⟩; rw [n3]))
                generalize hW : wr.alloc (.cells #[.int .i64 a, .int .i64 b, .int .i64 c] 77) = W1
                have e0 : ∀ n os, (grow (W1.drewN n) os).cell? ⟨wr.heap.size, 0, none⟩ = some (.int .i64 a) := cell_grown (by rw [← hW]; simp) (by rw [← hW]; simp)
                have e1 : ∀ n os, (grow (W1.drewN n) os).cell? ⟨wr.heap.size, 1, none⟩ = some (.int .i64 b) := cell_grown (by rw [← hW]; simp) (by rw [← hW]; simp)
                have e2 : ∀ n os, (grow (W1.drewN n) os).cell? ⟨wr.heap.size, 2, none⟩ = some (.int .i64 c) := cell_grown (by rw [← hW]; simp) (by rw [← hW]; simp)
                have e3 : ∀ n os, (grow (W1.drewN n) os).cell? ⟨b0, off + j * 3, none⟩ = some (.int .i64 qa) := cell_grown (by rw [← hW]; show b0 < _; simp; omega) (by rw [← hW, Below.cell (((Below.refl wr.heap.size wr).alloc (Nat.le_refl _) _)) (by exact hbr)]; exact d0)
                have e4 : ∀ n os, (grow (W1.drewN n) os).cell? ⟨b0, off + j * 3 + 1, none⟩ = some (.int .i64 qb) := cell_grown (by rw [← hW]; show b0 < _; simp; omega) (by rw [← hW, Below.cell (((Below.refl wr.heap.size wr).alloc (Nat.le_refl _) _)) (by exact hbr)]; exact d1)
                have e5 : ∀ n os, (grow (W1.drewN n) os).cell? ⟨b0, off + j * 3 + 2, none⟩ = some (.int .i64 qc) := cell_grown (by rw [← hW]; show b0 < _; simp; omega) (by rw [← hW, Below.cell (((Below.refl wr.heap.size wr).alloc (Nat.le_refl _) _)) (by exact hbr)]; exact d2)
                have hB1 : Below w.heap.size w W1 := by rw [← hW]; exact hB.alloc hB.size _
                clear hW c0 c1 c2 d0 d1 d2
                have mx := mixed
                have wj : IntKind.i64.wrap (j : Int) = (j : Int) := by simp [IntKind.wrap, IntKind.bits, IntKind.signed]; omega
                have gj : (j : Int) < (len : Int) := by omega
                have gj0 : ¬ (j : Int) < 0 := by omega
                have hbeh := fun W => beh_grow (a, b, c) (qa, qb, qc) W
                generalize behB (a, b, c) (qa, qb, qc) = bb at hbeh h4
                subst h4
                go_quiet_grown (first | (go_at_call 117; refine Calls.grown_of (hbeh _)))
                go_wp2_with fail
                go_ret
                exact ⟨by rw [HF.out, errV3]; rfl, below_grow (below_drewN hB1 _) hB1.size _⟩
              | true =>
                have HF : Hid (scFrom none zs = scFrom (prv3 zs (j + 1 + 1)) (zs.drop (j + 1 + 1))) := by
                  show _ = _
                  rw [hE.out, HD.out, HQ.out, HP.out]; exact sc_0 _ _ _ hok (by simp [badB, h4])
                clear hE HD HP HQ hok
                go_wp2_with (first | (go_at_call_of 115 a; refine (sn_calls a _).mono ?_; rintro e w1 ⟨rfl, rfl⟩; rw [n1]) | (go_at_call_of 69 b; refine (st_calls b _).mono ?_; rintro e w1 ⟨rfl, rfl⟩; rw [n2]) | (go_at_call_of 116 c; refine (sz_calls c _).mono ?_; rintro e w1 ⟨rfl, rfl⟩; rw [n3]))
                generalize hW : wr.alloc (.cells #[.int .i64 a, .int .i64 b, .int .i64 c] 77) = W1
                have e0 : ∀ n os, (grow (W1.drewN n) os).cell? ⟨wr.heap.size, 0, none⟩ = some (.int .i64 a) := cell_grown (by rw [← hW]; simp) (by rw [← hW]; simp)
                have e1 : ∀ n os, (grow (W1.drewN n) os).cell? ⟨wr.heap.size, 1, none⟩ = some (.int .i64 b) := cell_grown (by rw [← hW]; simp) (by rw [← hW]; simp)
                have e2 : ∀ n os, (grow (W1.drewN n) os).cell? ⟨wr.heap.size, 2, none⟩ = some (.int .i64 c) := cell_grown (by rw [← hW]; simp) (by rw [← hW]; simp)
                have e3 : ∀ n os, (grow (W1.drewN n) os).cell? ⟨b0, off + j * 3, none⟩ = some (.int .i64 qa) := cell_grown (by rw [← hW]; show b0 < _; simp; omega) (by rw [← hW, Below.cell (((Below.refl wr.heap.size wr).alloc (Nat.le_refl _) _)) (by exact hbr)]; exact d0)
                have e4 : ∀ n os, (grow (W1.drewN n) os).cell? ⟨b0, off + j * 3 + 1, none⟩ = some (.int .i64 qb) := cell_grown (by rw [← hW]; show b0 < _; simp; omega) (by rw [← hW, Below.cell (((Below.refl wr.heap.size wr).alloc (Nat.le_refl _) _)) (by exact hbr)]; exact d1)
                have e5 : ∀ n os, (grow (W1.drewN n) os).cell? ⟨b0, off + j * 3 + 2, none⟩ = some (.int .i64 qc) := cell_grown (by rw [← hW]; show b0 < _; simp; omega) (by rw [← hW, Below.cell (((Below.refl wr.heap.size wr).alloc (Nat.le_refl _) _)) (by exact hbr)]; exact d2)
                have hB1 : Below w.heap.size w W1 := by rw [← hW]; exact hB.alloc hB.size _
                clear hW c0 c1 c2 d0 d1 d2
                have mx := mixed
                have wj : IntKind.i64.wrap (j : Int) = (j : Int) := by simp [IntKind.wrap, IntKind.bits, IntKind.signed]; omega
                have gj : (j : Int) < (len : Int) := by omega
                have gj0 : ¬ (j : Int) < 0 := by omega
                have hbeh := fun W => beh_grow (a, b, c) (qa, qb, qc) W
                generalize behB (a, b, c) (qa, qb, qc) = bb at hbeh h4
                subst h4
                go_quiet_grown (first | (go_at_call 117; refine Calls.grown_of (hbeh _)))
                go_wp2_with fail
                exact ⟨⟨j + 1 + 1, by omega, by go_num, HF, below_grow (below_drewN hB1 _) hB1.size _⟩, by simp [intOf]; omega⟩
    · obtain rfl : k = len := by omega
      have HF : Hid (scFrom none zs = 0) := by
        show _ = _
        rw [hE.out, List.drop_eq_nil_of_le (by have := HL.out; omega)]; rfl
      clear hE
      go_wp2_with fail
      go_ret
      exact ⟨by rw [HF.out, errV0]; rfl, hB⟩
theorem scheck_calls (v : Value) (zs : List S3) (w : World) (h : Row3 w v zs) :
    Calls Tryz.prog 75 #[v] w fun e w' => e = .returned (errV (sc zs)) ∧ Below w.heap.size w w' := by
  obtain ⟨ao, c, rfl, hl, hn, h⟩ := h
  unfold sc
  by_cases h30 : 30 < zs.length
  · rw [if_pos h30]
    exact scheck_full ao _ c w h30 hl
  · rw [if_neg h30]
    rcases h with rfl | ⟨b, off, rfl, hb, hc⟩
    · exact scheck_none ao c w
    · exact scheck_some b off _ c zs w rfl (by omega) hb hc



set_option maxRecDepth 100000 in
set_option maxHeartbeats 2000000 in
theorem idxR_near (g : Nat) (lb : Array Value) (p : R → Bool) (eg : ∀ args w, (callFunc g args).run Tryz.prog w = .ok (.enter g args) w) (ao : Option Addr) (len cap : Nat) (zs : List R) (w : World) (hlen : zs.length = len) (hl : len ≤ 9223372036854775807) (hz : zs = [] ∨ ∃ b off, ao = some ⟨b, off, none⟩ ∧ b < w.heap.size ∧ Cells w b off zs)
    (hp : ∀ W (r : R), Below w.heap.size w W → Calls Tryz.prog g (#[.agg #[.int .i64 r.1, .int .i64 r.2]] ++ lb) W fun e w' => e = .returned (.bool (p r)) ∧ Below w.heap.size w w') :
    Calls Tryz.prog 110 #[.slice ao len cap, .func (.func g) #[] lb] w fun e w' => ∃ i, e = .returned (.int .i64 i) ∧ ((i = -1 ∧ ∀ j, j < len → p (at' zs j) = false) ∨ ∃ k : Nat, i = (k : Int) ∧ k < len ∧ p (at' zs k) = true ∧ ∀ j, j < k → p (at' zs j) = false) ∧ Below w.heap.size w w' := by
  have HL : Hid (zs.length = len) := hlen
  have HZ : Hid (zs = [] ∨ ∃ b off, ao = some ⟨b, off, none⟩ ∧ b < w.heap.size ∧ Cells w b off zs) := hz
  have HP : Hid (∀ W (r : R), Below w.heap.size w W → Calls Tryz.prog g (#[.agg #[.int .i64 r.1, .int .i64 r.2]] ++ lb) W fun e w' => e = .returned (.bool (p r)) ∧ Below w.heap.size w w') := hp
  clear hlen hz hp
  go_enter Tryz.func110, Tryz.ntmps110
  go_wp2_with fail
  go_loopg [5, 8] len (fun gg _ s8 wr => ∃ kk : Nat, kk ≤ len ∧ len - kk ≤ gg ∧ s8 = .int .i64 kk ∧ Hid (Below w.heap.size w wr) ∧ Hid (∀ j, j < kk → p (at' zs j) = false))
  case atStart => exact ⟨0, Nat.zero_le _, by omega, rfl, Below.refl _ w, fun j hj => absurd hj (Nat.not_lt_zero _)⟩
  case round =>
    obtain ⟨kk, hkk, hg, rfl, BW, HA⟩ := hrel
    by_cases hlt : kk < len
    · have hltz : (kk : Int) < (len : Int) := by omega
      have hkl : kk < zs.length := by have := HL.out; omega
      obtain ⟨b, off, rfl, hb, hC⟩ : ∃ b off, ao = some ⟨b, off, none⟩ ∧ b < w.heap.size ∧ Cells w b off zs := by
        rcases HZ.out with h | h
        · rw [h] at hkl; simp at hkl
        · exact h
      obtain ⟨c0, c1⟩ := hC.below hb BW.out kk hkl
      have hcall := HP.out wr (at' zs kk) BW.out
      clear hC hkl
      generalize hy : at' zs kk = y at c0 c1 hcall
      have B : Hid (at' zs kk = y) := hy
      clear hy
      obtain ⟨lo, hi⟩ := y
      simp only at c0 c1 hcall
      cases hq : p (lo, hi) with
      | true =>
        rw [hq] at hcall
        go_wp2_with (go_at_fn g; refine hcall.mono ?_; rintro e w' ⟨rfl, hb'⟩)
        go_ret
        exact ⟨_, rfl, .inr ⟨kk, by go_num, hlt, by rw [B.out]; exact hq, HA.out⟩, hb'⟩
      | false =>
        rw [hq] at hcall
        go_wp2_with (go_at_fn g; refine hcall.mono ?_; rintro e w' ⟨rfl, hb'⟩)
        go_roundg (len - (kk + 1))
        case measure => omega
        case rel =>
          refine ⟨kk + 1, by omega, by omega, by go_num, hb', (show Hid _ from fun j hj => ?_)⟩
          by_cases e : j = kk
          · subst e
            rw [B.out]; exact hq
          · exact HA.out j (by omega)
    · have hltz : ¬ (kk : Int) < (len : Int) := by omega
      obtain rfl : kk = len := by omega
      go_wp2_with fail
      go_ret
      exact ⟨-1, rfl, .inl ⟨rfl, HA.out⟩, BW.out⟩
set_option maxRecDepth 100000 in
set_option maxHeartbeats 2000000 in
theorem idxS_near (g : Nat) (lb : Array Value) (p : S3 → Bool) (eg : ∀ args w, (callFunc g args).run Tryz.prog w = .ok (.enter g args) w) (ao : Option Addr) (len cap : Nat) (zs : List S3) (w : World) (hlen : zs.length = len) (hl : len ≤ 9223372036854775807) (hz : zs = [] ∨ ∃ b off, ao = some ⟨b, off, none⟩ ∧ b < w.heap.size ∧ Cells3 w b off zs)
    (hp : ∀ W (r : S3), Below w.heap.size w W → Calls Tryz.prog g (#[.agg #[.int .i64 r.1, .int .i64 r.2.1, .int .i64 r.2.2]] ++ lb) W fun e w' => e = .returned (.bool (p r)) ∧ Below w.heap.size w w') :
    Calls Tryz.prog 149 #[.slice ao len cap, .func (.func g) #[] lb] w fun e w' => ∃ i, e = .returned (.int .i64 i) ∧ ((i = -1 ∧ ∀ j, j < len → p (at3 zs j) = false) ∨ ∃ k : Nat, i = (k : Int) ∧ k < len ∧ p (at3 zs k) = true ∧ ∀ j, j < k → p (at3 zs j) = false) ∧ Below w.heap.size w w' := by
  have HL : Hid (zs.length = len) := hlen
  have HZ : Hid (zs = [] ∨ ∃ b off, ao = some ⟨b, off, none⟩ ∧ b < w.heap.size ∧ Cells3 w b off zs) := hz
  have HP : Hid (∀ W (r : S3), Below w.heap.size w W → Calls Tryz.prog g (#[.agg #[.int .i64 r.1, .int .i64 r.2.1, .int .i64 r.2.2]] ++ lb) W fun e w' => e = .returned (.bool (p r)) ∧ Below w.heap.size w w') := hp
  clear hlen hz hp
  go_enter Tryz.func149, Tryz.ntmps149
  go_wp2_with fail
  go_loopg [5, 8] len (fun gg _ s8 wr => ∃ kk : Nat, kk ≤ len ∧ len - kk ≤ gg ∧ s8 = .int .i64 kk ∧ Hid (Below w.heap.size w wr) ∧ Hid (∀ j, j < kk → p (at3 zs j) = false))
  case atStart => exact ⟨0, Nat.zero_le _, by omega, rfl, Below.refl _ w, fun j hj => absurd hj (Nat.not_lt_zero _)⟩
  case round =>
    obtain ⟨kk, hkk, hg, rfl, BW, HA⟩ := hrel
    by_cases hlt : kk < len
    · have hltz : (kk : Int) < (len : Int) := by omega
      have hkl : kk < zs.length := by have := HL.out; omega
      obtain ⟨b, off, rfl, hb, hC⟩ : ∃ b off, ao = some ⟨b, off, none⟩ ∧ b < w.heap.size ∧ Cells3 w b off zs := by
        rcases HZ.out with h | h
        · rw [h] at hkl; simp at hkl
        · exact h
      obtain ⟨c0, c1, c2⟩ := hC.below hb BW.out kk hkl
      have hcall := HP.out wr (at3 zs kk) BW.out
      clear hC hkl
      generalize hy : at3 zs kk = y at c0 c1 c2 hcall
      have B : Hid (at3 zs kk = y) := hy
      clear hy
      obtain ⟨a, b2, c⟩ := y
      simp only at c0 c1 c2 hcall
      cases hq : p (a, b2, c) with
      | true =>
        rw [hq] at hcall
        go_wp2_with (go_at_fn g; refine hcall.mono ?_; rintro e w' ⟨rfl, hb'⟩)
        go_ret
        exact ⟨_, rfl, .inr ⟨kk, by go_num, hlt, by rw [B.out]; exact hq, HA.out⟩, hb'⟩
      | false =>
        rw [hq] at hcall
        go_wp2_with (go_at_fn g; refine hcall.mono ?_; rintro e w' ⟨rfl, hb'⟩)
        go_roundg (len - (kk + 1))
        case measure => omega
        case rel =>
          refine ⟨kk + 1, by omega, by omega, by go_num, hb', (show Hid _ from fun j hj => ?_)⟩
          by_cases e : j = kk
          · subst e
            rw [B.out]; exact hq
          · exact HA.out j (by omega)
    · have hltz : ¬ (kk : Int) < (len : Int) := by omega
      obtain rfl : kk = len := by omega
      go_wp2_with fail
      go_ret
      exact ⟨-1, rfl, .inl ⟨rfl, HA.out⟩, BW.out⟩

theorem any_at {p : R → Bool} {zs : List R} : (zs.any p = true) ↔ ∃ j, j < zs.length ∧ p (at' zs j) = true := by
  rw [List.any_eq_true]
  constructor
  · rintro ⟨r, hr, h⟩
    obtain ⟨j, hj, e⟩ := List.getElem_of_mem hr
    exact ⟨j, hj, by simp [at', hj, e, h]⟩
  · rintro ⟨j, hj, h⟩
    exact ⟨_, at_mem hj, h⟩
set_option maxRecDepth 100000 in
set_option maxHeartbeats 2000000 in
theorem contR_calls (g : Nat) (lb : Array Value) (p : R → Bool) (eg : ∀ args w, (callFunc g args).run Tryz.prog w = .ok (.enter g args) w) (v : Value) (zs : List R) (w : World) (hR : Row w v zs)
    (hp : ∀ W (r : R), Below w.heap.size w W → Calls Tryz.prog g (#[.agg #[.int .i64 r.1, .int .i64 r.2]] ++ lb) W fun e w' => e = .returned (.bool (p r)) ∧ Below w.heap.size w w') :
    Calls Tryz.prog 72 #[v, .func (.func g) #[] lb] w fun e w' => e = .returned (.bool (zs.any p)) ∧ Below w.heap.size w w' := by
  obtain ⟨ao, c, rfl, hl, hn, hz⟩ := hR
  have hcon := idxR_near g lb p eg ao zs.length c zs w rfl hl hz hp
  have hcon' : Calls Tryz.prog 110 #[.slice ao zs.length c, .func (.func g) #[] lb] w fun e w' => ∃ i : Int, e = .returned (.int .i64 i) ∧ (decide (0 ≤ i) = zs.any p) ∧ Below w.heap.size w w' := by
    refine hcon.mono fun e w' ⟨i, he, hi, hb⟩ => ⟨i, he, ?_, hb⟩
    rcases hi with ⟨rfl, h⟩ | ⟨k, rfl, hk, h, _⟩
    · have : zs.any p = false := by
        cases e : zs.any p with
        | false => rfl
        | true => obtain ⟨j, hj, hh⟩ := any_at.1 e; rw [h j hj] at hh; cases hh
      rw [this]; rfl
    · rw [any_at.2 ⟨k, hk, h⟩]; simp
  clear hcon hp hz hn
  generalize zs.any p = res at hcon' ⊢
  generalize zs.length = len at *
  go_enter Tryz.func72, Tryz.ntmps72
  go_wp2_with (go_at_call 110; refine hcon'.mono ?_; rintro e w' ⟨i, rfl, hi, hb1⟩)
  go_ret
  exact ⟨by rw [← hi]; rfl, hb1⟩

set_option maxRecDepth 100000 in
set_option maxHeartbeats 2000000 in
theorem in_closure (lo hi n : Int) (B : Nat) (W : World) (hc : W.cell? ⟨B, 0, none⟩ = some (.int .i64 n)) :
    Calls Tryz.prog 112 #[.agg #[.int .i64 lo, .int .i64 hi], .pointer (some ⟨B, 0, none⟩)] W fun e w' => e = .returned (.bool (inB (lo, hi) n)) ∧ Below W.heap.size W w' := by
  have hB : B < W.heap.size := World.block_lt_of_cell? W _ hc
  have hc1 : (W.alloc (.cells #[.int .i64 lo, .int .i64 hi] 82)).cell? ⟨B, 0, none⟩ = some (.int .i64 n) := (Below.cell (((Below.refl W.heap.size W).alloc (Nat.le_refl _) _)) (by exact hB)).trans hc
  by_cases h1 : lo ≤ n
  · by_cases h2 : n ≤ hi
    · go_enter Tryz.func112, Tryz.ntmps112
      go_wp2
      go_ret
      exact ⟨by simp [inB, h1, h2], (Below.refl _ _).alloc (Nat.le_refl _) _⟩
    · go_enter Tryz.func112, Tryz.ntmps112
      go_wp2
      go_ret
      exact ⟨by rw [show inB (lo, hi) n = false by simp [inB]; omega]; rfl, (Below.refl _ _).alloc (Nat.le_refl _) _⟩
  · go_enter Tryz.func112, Tryz.ntmps112
    go_wp2
    go_ret
    exact ⟨by rw [show inB (lo, hi) n = false by simp [inB]; omega]; rfl, (Below.refl _ _).alloc (Nat.le_refl _) _⟩
set_option maxRecDepth 100000 in
set_option maxHeartbeats 2000000 in
theorem reach_closure (lo hi n : Int) (B : Nat) (W : World) (hc : W.cell? ⟨B, 0, none⟩ = some (.int .i64 n)) :
    Calls Tryz.prog 73 #[.agg #[.int .i64 lo, .int .i64 hi], .pointer (some ⟨B, 0, none⟩)] W fun e w' => e = .returned (.bool (decide (n ≤ hi))) ∧ Below W.heap.size W w' := by
  have hB : B < W.heap.size := World.block_lt_of_cell? W _ hc
  have hc1 : (W.alloc (.cells #[.int .i64 lo, .int .i64 hi] 82)).cell? ⟨B, 0, none⟩ = some (.int .i64 n) := (Below.cell (((Below.refl W.heap.size W).alloc (Nat.le_refl _) _)) (by exact hB)).trans hc
  go_enter Tryz.func73, Tryz.ntmps73
  go_wp2
  go_ret
  exact ⟨by simp, (Below.refl _ _).alloc (Nat.le_refl _) _⟩

set_option maxRecDepth 100000 in
set_option maxHeartbeats 2000000 in
/-- came: whether a packet's number is in acks. -/
theorem came_calls (n b c : Int) (P : Nat) (v : Value) (acks : List R) (w : World) (hP : w.cell? ⟨P, 0, none⟩ = some v) (hR : Row w v acks) :
    Calls Tryz.prog 111 #[.agg #[.int .i64 n, .int .i64 b, .int .i64 c], .pointer (some ⟨P, 0, none⟩)] w fun e w' => e = .returned (.bool (memB acks n)) ∧ Below w.heap.size w w' := by
  have hPl : P < w.heap.size := World.block_lt_of_cell? w _ hP
  have bel : Below w.heap.size w (w.alloc (.cells #[.int .i64 n, .int .i64 b, .int .i64 c] 77)) := (Below.refl _ _).alloc (Nat.le_refl _) _
  have hP' := (bel.cell (p := ⟨P, 0, none⟩) hPl).trans hP
  have hcon := contR_calls 112 #[.pointer (some ⟨w.heap.size, 0, none⟩)] (fun r => inB r n) (enters_of Tryz.func112 (by kernel_rfl) rfl) v acks (w.alloc (.cells #[.int .i64 n, .int .i64 b, .int .i64 c] 77)) (hR.below bel)
    (fun W r hb' => (in_closure r.1 r.2 n w.heap.size W ((hb'.cell (p := ⟨w.heap.size, 0, none⟩) (by simp)).trans (by simp))).mono fun _ _ ⟨he, h2⟩ => ⟨he, hb'.trans (h2.mono hb'.size)⟩)
  have he : (acks.any fun r => inB r n) = memB acks n := rfl
  rw [he] at hcon
  obtain ⟨ao, c, rfl, hl, hn, hz⟩ := hR
  clear he hz hn hP
  generalize memB acks n = res at hcon ⊢
  generalize acks.length = len at *
  go_enter Tryz.func111, Tryz.ntmps111
  go_wp2_with (go_at_call 72; refine hcon.mono ?_; rintro e w' ⟨rfl, hb1⟩)
  go_ret
  exact ⟨rfl, bel.trans (hb1.mono bel.size)⟩

set_option maxRecDepth 100000 in
set_option maxHeartbeats 2000000 in
/-- reach: whether a number, or any above it, is in acks. -/
theorem reach_calls (n : Int) (P : Nat) (v : Value) (acks : List R) (w : World) (hP : w.cell? ⟨P, 0, none⟩ = some v) (hR : Row w v acks) :
    Calls Tryz.prog 71 #[.int .i64 n, .pointer (some ⟨P, 0, none⟩)] w fun e w' => e = .returned (.bool (reachB acks n)) ∧ Below w.heap.size w w' := by
  have hPl : P < w.heap.size := World.block_lt_of_cell? w _ hP
  have bel : Below w.heap.size w (w.alloc (.cells #[.int .i64 n] 3)) := (Below.refl _ _).alloc (Nat.le_refl _) _
  have hP' := (bel.cell (p := ⟨P, 0, none⟩) hPl).trans hP
  have hcon := contR_calls 73 #[.pointer (some ⟨w.heap.size, 0, none⟩)] (fun r => decide (n ≤ r.2)) (enters_of Tryz.func73 (by kernel_rfl) rfl) v acks (w.alloc (.cells #[.int .i64 n] 3)) (hR.below bel)
    (fun W r hb' => (reach_closure r.1 r.2 n w.heap.size W ((hb'.cell (p := ⟨w.heap.size, 0, none⟩) (by simp)).trans (by simp))).mono fun _ _ ⟨he, h2⟩ => ⟨he, hb'.trans (h2.mono hb'.size)⟩)
  have he : (acks.any fun r => decide (n ≤ r.2)) = reachB acks n := rfl
  rw [he] at hcon
  obtain ⟨ao, c, rfl, hl, hn, hz⟩ := hR
  clear he hz hn hP
  generalize reachB acks n = res at hcon ⊢
  generalize acks.length = len at *
  go_enter Tryz.func71, Tryz.ntmps71
  go_wp2_with (go_at_call 72; refine hcon.mono ?_; rintro e w' ⟨rfl, hb1⟩)
  go_ret
  exact ⟨rfl, bel.trans (hb1.mono bel.size)⟩



def enc3 (s : S3) : List Value := [.int .i64 s.1, .int .i64 s.2.1, .int .i64 s.2.2]
def flat3 (zs : List S3) : List Value := zs.flatMap enc3
theorem flat3_length (zs : List S3) : (flat3 zs).length = zs.length * 3 := by
  induction zs with
  | nil => rfl
  | cons r rs ih => simp only [flat3, List.flatMap_cons, List.length_append] at *; rw [ih]; simp [enc3]; omega
theorem flat3_append (a b : List S3) : flat3 (a ++ b) = flat3 a ++ flat3 b := by simp [flat3]
theorem flat3_get : ∀ (zs : List S3) (j : Nat), j < zs.length → (flat3 zs)[j * 3]? = some (.int .i64 (at3 zs j).1) ∧ (flat3 zs)[j * 3 + 1]? = some (.int .i64 (at3 zs j).2.1) ∧ (flat3 zs)[j * 3 + 2]? = some (.int .i64 (at3 zs j).2.2)
  | [], j, h => by simp at h
  | r :: rs, 0, _ => by simp [flat3, enc3, at3]
  | r :: rs, j + 1, h => by
    have i := flat3_get rs j (by simpa using h)
    have e1 : (j + 1) * 3 = j * 3 + 1 + 1 + 1 := by omega
    have e2 : flat3 (r :: rs) = .int .i64 r.1 :: .int .i64 r.2.1 :: .int .i64 r.2.2 :: flat3 rs := rfl
    have e3 : at3 (r :: rs) (j + 1) = at3 rs j := by simp [at3]
    rw [e1, e2, e3]
    simpa using i
theorem flat3_one {zs : List S3} : ∀ u, u ∈ flat3 zs → u.oneCell' = true := by
  intro u hu
  simp only [flat3, List.mem_flatMap] at hu
  obtain ⟨r, _, h⟩ := hu
  simp [enc3] at h
  rcases h with rfl | rfl | rfl <;> rfl
theorem flat3_cells {w : World} {b off : Nat} {zs : List S3} (h : Cells3 w b off zs) (j : Nat) (u : Value) (hu : (flat3 zs)[j]? = some u) : w.cell? ((⟨b, off, none⟩ : Addr).add j) = some u := by
  have hl : j < (flat3 zs).length := (List.getElem?_eq_some_iff.1 hu).1
  rw [flat3_length] at hl
  have hq : j / 3 < zs.length := by omega
  have g := flat3_get zs (j / 3) hq
  have c := h (j / 3) hq
  rcases (show j = j / 3 * 3 ∨ j = j / 3 * 3 + 1 ∨ j = j / 3 * 3 + 2 by omega) with e | e | e
  · rw [e] at hu ⊢
    rw [g.1] at hu
    rw [Addr.add_lit, ← hu]; exact c.1
  · rw [e] at hu ⊢
    rw [g.2.1] at hu
    rw [Addr.add_lit, ← hu, ← Nat.add_assoc]; exact c.2.1
  · rw [e] at hu ⊢
    rw [g.2.2] at hu
    rw [Addr.add_lit, ← hu, ← Nat.add_assoc]; exact c.2.2
theorem info3 : (Tryz.prog.info? 77).map (fun i => (i.zero, i.size, i.bytes)) = some (some (.agg #[.int .i64 0, .int .i64 0, .int .i64 0]), 3, 24) := by kernel_rfl
theorem cells3_of_own {w : World} {base g n cap : Nat} {zs : List S3} (h : w.ownsRow base 77 3 (.slice (some ⟨g, 0, none⟩) n cap) n (flat3 zs)) : Cells3 w g 0 zs := by
  intro j hj
  have f := flat3_get zs j hj
  have c0 := h.cells (g := g) rfl _ _ f.1
  have c1 := h.cells (g := g) rfl _ _ f.2.1
  have c2 := h.cells (g := g) rfl _ _ f.2.2
  rw [Addr.add_lit] at c0 c1 c2
  exact ⟨c0, by rw [← Nat.add_assoc] at c1; exact c1, by rw [← Nat.add_assoc] at c2; exact c2⟩
theorem own3_length {w : World} {base n : Nat} {v : Value} {zs : List S3} (h : w.ownsRow base 77 3 v n (flat3 zs)) : zs.length = n := by
  have := h.1; rw [flat3_length] at this; omega
theorem row3_of_own {w : World} {base n : Nat} {v : Value} {zs : List S3} (h : w.ownsRow base 77 3 v n (flat3 zs)) (hl : zs.length ≤ 1000000) : Row3 w v zs := by
  have hn := own3_length h
  rcases h.2 with ⟨rfl, h0⟩ | ⟨g, cap, cur, rfl, hb, hg, hr⟩
  · exact ⟨none, 0, by rw [hn, h0], by omega, fun _ => rfl, .inl (List.eq_nil_of_length_eq_zero (by omega))⟩
  · exact ⟨some ⟨g, 0, none⟩, cap, by rw [hn], by omega, (fun x => by cases x), .inr ⟨g, 0, rfl, (h.lt g rfl).2, cells3_of_own h⟩⟩
theorem nilEq (w : World) (a : Option Addr) (n c n' c' : Nat) : (binOp .eql 60 (.slice a n c) (.slice none n' c')).run Tryz.prog w = .ok (.bool a.isNone) w := Lib.run_eql_slice_nil w _ _ a n c n' c' Tryz.underlying60

set_option maxRecDepth 100000 in
set_option maxHeartbeats 2000000 in
theorem clone_none (n c : Nat) (w : World) : Calls Tryz.prog 114 #[.slice none n c] w fun e w' => e = .returned (.slice none 0 0) ∧ w' = w := by
  have hq := nilEq
  go_enter Tryz.func114, Tryz.ntmps114
  go_wp2
  go_ret
  exact ⟨rfl, rfl⟩
set_option maxRecDepth 100000 in
set_option maxHeartbeats 2000000 in
theorem clone_some (ad : Addr) (cap : Nat) (zs : List S3) (w : World) (hl : zs.length ≤ 1000000) (hz : zs = [] ∨ ∃ b off, some ad = some ⟨b, off, none⟩ ∧ b < w.heap.size ∧ Cells3 w b off zs) :
    Calls Tryz.prog 114 #[.slice (some ad) zs.length cap] w fun e w' => ∃ u, e = .returned u ∧ w'.ownsRow w.heap.size 77 3 u zs.length (flat3 zs) ∧ Below w.heap.size w w' := by
  obtain ⟨i0, hi, hz0, hz1, hz2⟩ := info_parts info3
  have hq := nilEq
  have HC : Hid (∀ j u, (flat3 zs)[j]? = some u → (w.alloc (.cells #[] 77)).cell? (ad.add j) = some u) := by
    rcases hz with rfl | ⟨b, off, e, hb, hc⟩
    · intro j u hu; simp [flat3] at hu
    · cases e
      intro j u hu
      exact Lib.cell?_alloc_some _ (flat3_cells hc j u hu)
  clear hz
  go_enter Tryz.func114, Tryz.ntmps114
  go_wp2_with (at_builtin; refine wpList_append_own _ rfl _ _ 60 rfl w.heap.size 77 i0 _ 3 24 Tryz.underlying60 hi hz0 hz1 hz2 rfl (by decide) _ _ _ rfl (World.ownsRow_made w #[] 0 (Nat.le_refl _) (Nat.zero_le _) (by simp)) ad zs.length cap (flat3 zs) rfl (flat3_length zs) HC.out (fun u hu => flat3_one u hu) (by unfold maxLen; omega) (by omega) (by simp) ?_; intro u w1 hown hgrow _)
  go_ret
  exact ⟨u, rfl, by simpa using hown, ((Below.refl _ w).alloc (Nat.le_refl _) _).grown hgrow (by simp) (fun k hk => Nat.le_of_eq (Option.some.inj hk))⟩
theorem clone_calls (v : Value) (zs : List S3) (w : World) (hR : Row3 w v zs) (hl : zs.length ≤ 1000000) :
    Calls Tryz.prog 114 #[v] w fun e w' => ∃ u, e = .returned u ∧ w'.ownsRow w.heap.size 77 3 u zs.length (flat3 zs) ∧ Below w.heap.size w w' := by
  obtain ⟨ao, c, rfl, _, hn, hz⟩ := hR
  cases ao with
  | none =>
    have e : zs = [] := by
      rcases hz with h | ⟨b, off, h, _⟩
      · exact h
      · cases h
    subst e
    exact (clone_none _ _ w).mono fun e w' ⟨he, hw⟩ => ⟨_, he, World.ownsRow_nil _ _ _ _, hw ▸ Below.refl _ _⟩
  | some ad => exact clone_some ad c zs w hl hz

/-- The block g holds the packets L from its first cell on, and may be written. -/
structure Held (w : World) (g : Nat) (L : List S3) : Prop where
  cells : Cells3 w g 0 L
  fz : ∀ t, w.frozen? ⟨g, t, none⟩ = false
theorem Held.below {w w' : World} {g : Nat} {L : List S3} (h : Held w g L) (hg : g < w.heap.size) (hb : Below w.heap.size w w') : Held w' g L :=
  ⟨h.cells.below hg hb, fun t => (hb.frozen (p := ⟨g, t, none⟩) hg).trans (h.fz t)⟩
theorem at3_set {L : List S3} {i j : Nat} {s : S3} (hi : i < L.length) : at3 (L.set i s) j = if j = i then s else at3 L j := by
  by_cases e : j = i
  · subst e; simp [at3, hi]
  · rw [if_neg e]; simp [at3, List.getElem?_set, show ¬ i = j from fun x => e x.symm]
theorem Held.put {w : World} {g : Nat} {L : List S3} (h : Held w g L) {i : Nat} (hi : i < L.length) (a b c : Int) :
    Held (((w.setCell ⟨g, i * 3, none⟩ (.int .i64 a)).setCell ⟨g, i * 3 + 1, none⟩ (.int .i64 b)).setCell ⟨g, i * 3 + 2, none⟩ (.int .i64 c)) g (L.set i (a, b, c)) := by
  have ne : ∀ (w : World) (o o' : Nat) (u : Value), o ≠ o' → (w.setCell ⟨g, o', none⟩ u).cell? ⟨g, o, none⟩ = w.cell? ⟨g, o, none⟩ := fun w o o' u e => World.cell?_setCell_other _ _ _ _ (by simp [e])
  have own := h.cells i hi
  simp only [Nat.zero_add] at own
  refine ⟨fun j hj => ?_, fun t => by simpa using h.fz t⟩
  have hj' : j < L.length := by simpa using hj
  have c0 := h.cells j hj'
  simp only [Nat.zero_add] at c0 ⊢
  rw [at3_set hi]
  by_cases e : j = i
  · subst e
    rw [if_pos rfl]
    have s0 : (w.setCell ⟨g, j * 3, none⟩ (.int .i64 a)).cell? ⟨g, j * 3, none⟩ = some (.int .i64 a) := World.cell?_setCell_same _ _ _ own.1
    have s1 : (w.setCell ⟨g, j * 3, none⟩ (.int .i64 a)).cell? ⟨g, j * 3 + 1, none⟩ = some (.int .i64 (at3 L j).2.1) := by rw [ne _ _ _ _ (by omega)]; exact own.2.1
    have s2 : ((w.setCell ⟨g, j * 3, none⟩ (.int .i64 a)).setCell ⟨g, j * 3 + 1, none⟩ (.int .i64 b)).cell? ⟨g, j * 3 + 2, none⟩ = some (.int .i64 (at3 L j).2.2) := by rw [ne _ _ _ _ (by omega), ne _ _ _ _ (by omega)]; exact own.2.2
    refine ⟨?_, ?_, World.cell?_setCell_same _ _ _ s2⟩
    · rw [ne _ _ _ _ (by omega), ne _ _ _ _ (by omega)]; exact s0
    · rw [ne _ _ _ _ (by omega)]; exact World.cell?_setCell_same _ _ _ s1
  · rw [if_neg e]
    refine ⟨?_, ?_, ?_⟩
    · rw [ne _ _ _ _ (by omega), ne _ _ _ _ (by omega), ne _ _ _ _ (by omega)]; exact c0.1
    · rw [ne _ _ _ _ (by omega), ne _ _ _ _ (by omega), ne _ _ _ _ (by omega)]; exact c0.2.1
    · rw [ne _ _ _ _ (by omega), ne _ _ _ _ (by omega), ne _ _ _ _ (by omega)]; exact c0.2.2
theorem Held.cell {w : World} {g : Nat} {L : List S3} (h : Held w g L) {t : Nat} (ht : t < L.length * 3) : (w.cell? ⟨g, t, none⟩).isSome = true := by
  have hq : t / 3 < L.length := by omega
  have c := h.cells (t / 3) hq
  simp only [Nat.zero_add] at c
  rcases (show t = t / 3 * 3 ∨ t = t / 3 * 3 + 1 ∨ t = t / 3 * 3 + 2 by omega) with e | e | e
  · rw [e, c.1]; rfl
  · rw [e, c.2.1]; rfl
  · rw [e, c.2.2]; rfl
theorem zero3 (w : World) : (zeroValue 77).run Tryz.prog w = .ok (.agg #[.int .i64 0, .int .i64 0, .int .i64 0]) w := by kernel_rfl
/-- The zeros that clear lays. -/
def zeros (m : Nat) : List Value := (Builtin.zeroCells (Value.agg #[.int .i64 0, .int .i64 0, .int .i64 0]).cells m).toList
theorem zeros_length (m : Nat) : (zeros m).length = m * 3 := by
  unfold zeros
  rw [Array.length_toList, size_zeroCells]
  rfl
theorem zeros_one (m : Nat) : ∀ u, u ∈ zeros m → u.oneCell' = true := by
  intro u hu
  have e : (Value.agg #[.int .i64 0, .int .i64 0, .int .i64 0]).cells = #[.int .i64 0, .int .i64 0, .int .i64 0] := by kernel_rfl
  unfold zeros at hu
  rw [e] at hu
  simp only [Builtin.zeroCells, Array.toList_map, List.mem_map] at hu
  obtain ⟨i, _, rfl⟩ := hu
  have h3 : i % 3 < 3 := Nat.mod_lt _ (by omega)
  have e3 : (#[Value.int .i64 0, Value.int .i64 0, Value.int .i64 0] : Array Value).size = 3 := rfl
  rw [e3]
  rcases (show i % 3 = 0 ∨ i % 3 = 1 ∨ i % 3 = 2 by omega) with h | h | h <;> rw [h] <;> rfl
theorem clear3 (W : World) (ty : TypeId) (g o m c : Nat) (hm : 0 < m) (hc : ∀ j, j < m * 3 → (W.cell? ⟨g, o + j, none⟩).isSome = true) (hf : ∀ j, W.frozen? ⟨g, j, none⟩ = false) :
    (Builtin.clear_ #[60] ty #[.slice (some ⟨g, o, none⟩) m c]).run Tryz.prog W = .ok (.tuple #[]) (W.setCells g o (zeros m)) := by
  have hst := run_storeCells_cells (P := Tryz.prog) g o (zeros m) 0 W (fun j hj => by rw [zeros_length] at hj; exact hc j hj) (fun j hj => hf _) (zeros_one m)
  simp only [Nat.add_zero] at hst
  unfold zeros at hst ⊢
  obtain ⟨k, rfl⟩ : ∃ k, m = k + 1 := ⟨m - 1, by omega⟩
  simp [Builtin.clear_, run_underlying Tryz.underlying60, zero3, hst]
theorem below_setCells {B g : Nat} {a : World} (hg : B ≤ g) : ∀ (vs : List Value) (o : Nat) {w : World}, Below B a w → Below B a (w.setCells g o vs)
  | [], o, w, h => h
  | v :: vs, o, w, h => below_setCells hg vs (o + 1) (h.setCell (p := ⟨g, o, none⟩) hg v)
theorem left_next (acks : List R) {zs : List S3} {j : Nat} (hj : j < zs.length) : leftL acks (zs.take (j + 1)) = leftL acks (zs.take j) ++ (if memB acks (at3 zs j).1 = true then [] else [at3 zs j]) := by
  have e : at3 zs j = zs[j] := by simp [at3, hj]
  rw [e, List.take_succ_eq_append_getElem hj]
  unfold leftL
  rw [List.filter_append]
  congr 1
  cases h : memB acks zs[j].1 <;> simp [h]
theorem left_all (acks : List R) {zs : List S3} (h : ∀ j, j < zs.length → memB acks (at3 zs j).1 = false) : leftL acks zs = zs := by
  unfold leftL
  refine List.filter_eq_self.2 fun s hs => ?_
  obtain ⟨j, hj, e⟩ := List.getElem_of_mem hs
  have := h j hj
  simp [at3, hj, e] at this
  simp [this]
/-- How far slices.DeleteFunc is: j looked at, i kept, the row holds L. -/
structure Kept (acks : List R) (zs L : List S3) (i j : Nat) : Prop where
  len : L.length = zs.length
  lt : i < j
  le : j ≤ zs.length
  num : (leftL acks (zs.take j)).length = i
  low : L.take i = leftL acks (zs.take j)
  high : L.drop j = zs.drop j
theorem Kept.start {acks : List R} {zs : List S3} {k : Nat} (hk : k < zs.length) (ht : memB acks (at3 zs k).1 = true) (ha : ∀ j, j < k → memB acks (at3 zs j).1 = false) : Kept acks zs zs k (k + 1) := by
  have e : leftL acks (zs.take k) = zs.take k := left_all acks fun j hj => by
    have hj' : j < k := by simp at hj; omega
    have e : at3 (zs.take k) j = at3 zs j := by simp [at3, List.getElem?_take_of_lt hj']
    rw [e]; exact ha j hj'
  have e2 : leftL acks (zs.take (k + 1)) = zs.take k := by rw [left_next acks hk, if_pos ht, e, List.append_nil]
  exact ⟨rfl, by omega, by omega, by rw [e2, List.length_take]; omega, e2.symm, rfl⟩
theorem Kept.at {acks : List R} {zs L : List S3} {i j : Nat} (h : Kept acks zs L i j) (hj : j < zs.length) : at3 L j = at3 zs j := by
  have := congrArg (fun l => l[0]?) h.high
  simp at this
  simp [at3, this]
theorem Kept.skip {acks : List R} {zs L : List S3} {i j : Nat} (h : Kept acks zs L i j) (hj : j < zs.length) (ht : memB acks (at3 zs j).1 = true) : Kept acks zs L i (j + 1) := by
  have e : leftL acks (zs.take (j + 1)) = leftL acks (zs.take j) := by rw [left_next acks hj, if_pos ht, List.append_nil]
  have := h.lt
  refine ⟨h.len, by omega, by omega, by rw [e]; exact h.num, by rw [e]; exact h.low, ?_⟩
  rw [← List.drop_drop, ← List.drop_drop, h.high]
theorem Kept.keep {acks : List R} {zs L : List S3} {i j : Nat} (h : Kept acks zs L i j) (hj : j < zs.length) (ht : memB acks (at3 zs j).1 = false) : Kept acks zs (L.set i (at3 zs j)) (i + 1) (j + 1) := by
  have e : leftL acks (zs.take (j + 1)) = leftL acks (zs.take j) ++ [at3 zs j] := by rw [left_next acks hj, if_neg (by simp [ht])]
  have h1 := h.lt
  have h2 := h.len
  have hi : i < L.length := by omega
  refine ⟨by simpa using h.len, by omega, by omega, by rw [e, List.length_append, h.num]; rfl, ?_, ?_⟩
  · rw [e, List.take_succ_eq_append_getElem (by simpa using hi), List.take_set_of_le (Nat.le_refl _), h.low]
    simp
  · rw [List.drop_set_of_lt (by omega), ← List.drop_drop, ← List.drop_drop, h.high]

set_option maxRecDepth 100000 in
set_option maxHeartbeats 2000000 in
theorem delf_stay (P : Nat) (ao : Option Addr) (len cap : Nat) (B : Nat) (w0 w : World) (hB : Below B w0 w) (hBw : B ≤ w.heap.size) (hl : len ≤ 1000000)
    (hcon : Calls Tryz.prog 149 #[.slice ao len cap, .func (.func 111) #[] #[.pointer (some ⟨P, 0, none⟩)]] w fun e w' => e = .returned (.int .i64 (-1)) ∧ Below w.heap.size w w') :
    Calls Tryz.prog 113 #[.slice ao len cap, .func (.func 111) #[] #[.pointer (some ⟨P, 0, none⟩)]] w fun e w' => e = .returned (.slice ao len cap) ∧ Below w.heap.size w w' := by
  go_enter Tryz.func113, Tryz.ntmps113
  go_wp2_with (go_at_call 149; refine hcon.mono ?_; rintro e w' ⟨rfl, hb1⟩)
  go_ret
  exact ⟨rfl, hb1⟩



theorem World.cell_new0 (w : World) (a b c : Int) : (w.alloc (.cells #[.int .i64 a, .int .i64 b, .int .i64 c] 77)).cell? ⟨w.heap.size, 0, none⟩ = some (.int .i64 a) := by simp
theorem World.cell_new1 (w : World) (a b c : Int) : (w.alloc (.cells #[.int .i64 a, .int .i64 b, .int .i64 c] 77)).cell? ⟨w.heap.size, 1, none⟩ = some (.int .i64 b) := by simp
theorem World.cell_new2 (w : World) (a b c : Int) : (w.alloc (.cells #[.int .i64 a, .int .i64 b, .int .i64 c] 77)).cell? ⟨w.heap.size, 2, none⟩ = some (.int .i64 c) := by simp
set_option maxRecDepth 100000 in
set_option maxHeartbeats 2000000 in
theorem delf_go (P g n cap k0 : Nat) (v : Value) (acks : List R) (zs : List S3) (w0 w : World) (hn : zs.length = n) (hnc : n ≤ cap) (hl : n ≤ 1000000) (hg0 : w0.heap.size ≤ g) (hg : g < w.heap.size) (hB : Below w0.heap.size w0 w) (hH : Held w g zs)
    (hP : w0.cell? ⟨P, 0, none⟩ = some v) (hR : Row w0 v acks) (hk : k0 < n) (ht : memB acks (at3 zs k0).1 = true) (ha : ∀ j, j < k0 → memB acks (at3 zs j).1 = false)
    (hcon : Calls Tryz.prog 149 #[.slice (some ⟨g, 0, none⟩) n cap, .func (.func 111) #[] #[.pointer (some ⟨P, 0, none⟩)]] w fun e w' => e = .returned (.int .i64 (k0 : Int)) ∧ Below w.heap.size w w') :
    Calls Tryz.prog 113 #[.slice (some ⟨g, 0, none⟩) n cap, .func (.func 111) #[] #[.pointer (some ⟨P, 0, none⟩)]] w fun e w' => ∃ u, e = .returned u ∧ Row3 w' u (leftL acks zs) ∧ Below w0.heap.size w0 w' := by
  have eg : ∀ args w, (callFunc 111 args).run Tryz.prog w = .ok (.enter 111 args) w := enters_of Tryz.func111 (by kernel_rfl) rfl
  have hPl : P < w0.heap.size := World.block_lt_of_cell? w0 _ hP
  have HN : Hid (zs.length = n) := hn
  have HS : Hid (Kept acks zs zs k0 (k0 + 1)) := Kept.start (by omega) ht ha
  have HC : Hid (∀ W (a b c : Int), Below w0.heap.size w0 W → Calls Tryz.prog 111 #[.agg #[.int .i64 a, .int .i64 b, .int .i64 c], .pointer (some ⟨P, 0, none⟩)] W fun e w' => e = .returned (.bool (memB acks a)) ∧ Below W.heap.size W w') := fun W a b c hb =>
    came_calls a b c P v acks W ((hb.cell (p := ⟨P, 0, none⟩) hPl).trans hP) (hR.below hb)
  have HH : Hid (Held w g zs) := hH
  have HB : Hid (Below w0.heap.size w0 w) := hB
  have hw0 := hB.size
  have kn : ((k0 : Int) == -1) = false := beq_eq_false_iff_ne.2 (by omega)
  clear hP hR ht ha hH hB hn
  go_enter Tryz.func113, Tryz.ntmps113
  go_wp2_with (go_at_call 149; refine hcon.mono ?_; rintro e w' ⟨rfl, hb1⟩)
  go_loopg [5, 6, 7] n (fun gg s5 s6 _ wr => ∃ (i j : Nat) (L : List S3), s5 = .int .i64 i ∧ s6 = .int .i64 j ∧ j ≤ n ∧ n - j ≤ gg ∧ g < wr.heap.size ∧ Hid (Kept acks zs L i j) ∧ Hid (Held wr g L) ∧ Hid (Below w0.heap.size w0 wr))
  case atStart => exact ⟨k0, k0 + 1, zs, rfl, by go_num, by omega, by omega, Nat.lt_of_lt_of_le hg hb1.size, HS, HH.out.below hg hb1, HB.out.trans (hb1.mono hw0)⟩
  case round =>
    obtain ⟨i, j, L, rfl, rfl, hjn, hgg, hgr, HK, HL, HW⟩ := hrel
    have hij := HK.out.lt
    have hin : i < n := by omega
    have hLn : L.length = n := HK.out.len.trans HN.out
    by_cases hlt : j < n
    · have hltz : (j : Int) < (n : Int) := by omega
      have hiz : (i : Int) < (n : Int) := by omega
      have hjl : j < zs.length := by have := HN.out; omega
      obtain ⟨c0, c1, c2⟩ := HL.out.cells j (by omega)
      obtain ⟨d0, d1, d2⟩ := HL.out.cells i (by omega)
      simp only [Nat.zero_add] at c0 c1 c2 d0 d1 d2
      rw [HK.out.at hjl] at c0 c1 c2
      have f0 := HL.out.fz (i * 3)
      have f1 := HL.out.fz (i * 3 + 1)
      have f2 := HL.out.fz (i * 3 + 2)
      have HM : Hid (memB acks (at3 zs j).1 = true → Kept acks zs L i (j + 1)) := HK.out.skip hjl
      have HM2 : Hid (memB acks (at3 zs j).1 = false → Kept acks zs (L.set i (at3 zs j)) (i + 1) (j + 1)) := HK.out.keep hjl
      generalize at3 zs j = s at c0 c1 c2 HM HM2
      generalize at3 L i = o at d0 d1 d2
      obtain ⟨a, b, c⟩ := s
      obtain ⟨o0, o1, o2⟩ := o
      simp only at c0 c1 c2 d0 d1 d2
      have hcall := HC.out (wr.alloc (.cells #[.int .i64 a, .int .i64 b, .int .i64 c] 77)) a b c (HW.out.alloc (by have := HW.out.size; omega) _)
      cases hq : memB acks a with
      | true =>
        rw [hq] at hcall
        have HM1 : Hid (Kept acks zs L i (j + 1)) := HM.out hq
        clear HM HM2
        go_wp2_with ((first | go_at_fn 111 | go_at_call 111); refine hcall.mono ?_; rintro e w1 ⟨rfl, hb'⟩; have hBW : Below wr.heap.size wr w1 := ((Below.refl _ wr).alloc (Nat.le_refl _) _).trans (hb'.mono (by simp)); have x0 := (hb'.cell (p := ⟨wr.heap.size, 0, none⟩) (by simp)).trans (World.cell_new0 wr a b c); have x1 := (hb'.cell (p := ⟨wr.heap.size, 1, none⟩) (by simp)).trans (World.cell_new1 wr a b c); have x2 := (hb'.cell (p := ⟨wr.heap.size, 2, none⟩) (by simp)).trans (World.cell_new2 wr a b c); have y0 := (hBW.cell (p := ⟨g, i * 3, none⟩) hgr).trans d0; have y1 := (hBW.cell (p := ⟨g, i * 3 + 1, none⟩) hgr).trans d1; have y2 := (hBW.cell (p := ⟨g, i * 3 + 2, none⟩) hgr).trans d2; have z0 := (hBW.frozen (p := ⟨g, i * 3, none⟩) hgr).trans f0; have z1 := (hBW.frozen (p := ⟨g, i * 3 + 1, none⟩) hgr).trans f1; have z2 := (hBW.frozen (p := ⟨g, i * 3 + 2, none⟩) hgr).trans f2)
        go_roundg (n - (j + 1))
        case measure => omega
        case rel => exact ⟨i, j + 1, L, rfl, by go_num, by omega, Nat.le_refl _, Nat.lt_of_lt_of_le hgr hBW.size, HM1, HL.out.below hgr hBW, HW.out.trans (hBW.mono HW.out.size)⟩
      | false =>
        rw [hq] at hcall
        have HM1 : Hid (Kept acks zs (L.set i (a, b, c)) (i + 1) (j + 1)) := HM2.out hq
        clear HM HM2
        go_wp2_with ((first | go_at_fn 111 | go_at_call 111); refine hcall.mono ?_; rintro e w1 ⟨rfl, hb'⟩; have hBW : Below wr.heap.size wr w1 := ((Below.refl _ wr).alloc (Nat.le_refl _) _).trans (hb'.mono (by simp)); have x0 := (hb'.cell (p := ⟨wr.heap.size, 0, none⟩) (by simp)).trans (World.cell_new0 wr a b c); have x1 := (hb'.cell (p := ⟨wr.heap.size, 1, none⟩) (by simp)).trans (World.cell_new1 wr a b c); have x2 := (hb'.cell (p := ⟨wr.heap.size, 2, none⟩) (by simp)).trans (World.cell_new2 wr a b c); have y0 := (hBW.cell (p := ⟨g, i * 3, none⟩) hgr).trans d0; have y1 := (hBW.cell (p := ⟨g, i * 3 + 1, none⟩) hgr).trans d1; have y2 := (hBW.cell (p := ⟨g, i * 3 + 2, none⟩) hgr).trans d2; have z0 := (hBW.frozen (p := ⟨g, i * 3, none⟩) hgr).trans f0; have z1 := (hBW.frozen (p := ⟨g, i * 3 + 1, none⟩) hgr).trans f1; have z2 := (hBW.frozen (p := ⟨g, i * 3 + 2, none⟩) hgr).trans f2)
        go_roundg (n - (j + 1))
        case measure => omega
        case rel =>
          refine ⟨i + 1, j + 1, L.set i (a, b, c), by go_num, by go_num, by omega, Nat.le_refl _, by simp; exact Nat.lt_of_lt_of_le hgr hBW.size, HM1, (HL.out.below hgr hBW).put (by omega) a b c, ?_⟩
          exact ((((HW.out.trans (hBW.mono HW.out.size)).setCell (p := ⟨g, i * 3, none⟩) hg0 _).setCell (p := ⟨g, i * 3 + 1, none⟩) hg0 _).setCell (p := ⟨g, i * 3 + 2, none⟩) hg0 _)
    · obtain rfl : j = n := by omega
      have hltz : ¬ (j : Int) < (j : Int) := by omega
      have hcl : ∀ ty, (Builtin.clear_ #[60] ty #[.slice (some ⟨g, i * 3, none⟩) (j - i) (cap - i)]).run Tryz.prog wr = .ok (.tuple #[]) (wr.setCells g (i * 3) (zeros (j - i))) :=
        fun ty => clear3 wr ty g _ _ _ (by omega) (fun t ht => HL.out.cell (by omega)) HL.out.fz
      have HLL : Hid (L.take i = leftL acks zs) := by
        show _ = _
        rw [HK.out.low, List.take_of_length_le (by have := HN.out; omega)]
      have q1 : (i : Int) ≤ (j : Int) := by omega
      have q2 : (j : Int) ≤ (cap : Int) := by omega
      have q3 : (i : Int) ≤ (cap : Int) := by omega
      have q4 : ¬ cap = i := by omega
      have q5 : ((i : Int)).toNat = i := by omega
      go_wp2_with fail
      go_ret
      refine ⟨_, rfl, ?_, below_setCells hg0 _ _ HW.out⟩
      rw [← HLL.out]
      have hli : (L.take i).length = i := by rw [List.length_take]; omega
      refine ⟨some ⟨g, 0, none⟩, cap, by rw [hli]; rfl, by omega, (fun x => by cases x), .inr ⟨g, 0, rfl, Nat.lt_of_lt_of_le hgr (below_setCells (Nat.zero_le g) _ _ (Below.refl 0 wr)).size, fun t ht => ?_⟩⟩
      rw [hli] at ht
      have e : at3 (L.take i) t = at3 L t := by simp [at3, List.getElem?_take_of_lt ht]
      have h3 := HL.out.cells t (by omega)
      rw [e]
      simp only [Nat.zero_add] at h3 ⊢
      refine ⟨?_, ?_, ?_⟩
      · rw [World.cell?_setCells_out g _ _ _ _ (fun _ _ => by left; show t * 3 < _; omega)]; exact h3.1
      · rw [World.cell?_setCells_out g _ _ _ _ (fun _ _ => by left; show t * 3 + 1 < _; omega)]; exact h3.2.1
      · rw [World.cell?_setCells_out g _ _ _ _ (fun _ _ => by left; show t * 3 + 2 < _; omega)]; exact h3.2.2
theorem delf_calls (P : Nat) (u v : Value) (acks : List R) (zs : List S3) (w0 w : World) (hl : zs.length ≤ 1000000) (hB : Below w0.heap.size w0 w) (hown : w.ownsRow w0.heap.size 77 3 u zs.length (flat3 zs)) (hP : w0.cell? ⟨P, 0, none⟩ = some v) (hR : Row w0 v acks) :
    Calls Tryz.prog 113 #[u, .func (.func 111) #[] #[.pointer (some ⟨P, 0, none⟩)]] w fun e w' => ∃ u', e = .returned u' ∧ Row3 w' u' (leftL acks zs) ∧ Below w0.heap.size w0 w' := by
  have hPl : P < w0.heap.size := World.block_lt_of_cell? w0 _ hP
  have hrow := row3_of_own hown hl
  obtain ⟨ao, cap, rfl, _, hn, hz⟩ := hrow
  have eg : ∀ args w, (callFunc 111 args).run Tryz.prog w = .ok (.enter 111 args) w := enters_of Tryz.func111 (by kernel_rfl) rfl
  have hidx := idxS_near 111 #[.pointer (some ⟨P, 0, none⟩)] (fun s => memB acks s.1) eg ao zs.length cap zs w rfl (by omega) hz
    (fun W r hb => (came_calls r.1 r.2.1 r.2.2 P v acks W (((hB.trans (hb.mono hB.size)).cell (p := ⟨P, 0, none⟩) hPl).trans hP) (hR.below (hB.trans (hb.mono hB.size)))).mono fun _ _ ⟨he, h2⟩ => ⟨he, hb.trans (h2.mono hb.size)⟩)
  by_cases hex : ∃ k, k < zs.length ∧ memB acks (at3 zs k).1 = true ∧ ∀ j, j < k → memB acks (at3 zs j).1 = false
  · obtain ⟨k, hk, hkt, hka⟩ := hex
    have hcon : Calls Tryz.prog 149 #[.slice ao zs.length cap, .func (.func 111) #[] #[.pointer (some ⟨P, 0, none⟩)]] w fun e w' => e = .returned (.int .i64 (k : Int)) ∧ Below w.heap.size w w' := by
      refine hidx.mono fun e w' ⟨i, he, hi, hb⟩ => ⟨?_, hb⟩
      rcases hi with ⟨_, h⟩ | ⟨k', rfl, hk', ht', ha'⟩
      · have := h k hk; rw [hkt] at this; cases this
      · have : k' = k := by
          rcases Nat.lt_trichotomy k' k with h | h | h
          · have := hka k' h; rw [show memB acks (at3 zs k').1 = true from ht'] at this; cases this
          · exact h
          · have := ha' k h; rw [show memB acks (at3 zs k).1 = true from hkt] at this; cases this
        rw [he, this]
    rcases hown.2 with ⟨e, e0⟩ | ⟨g, cap', cur, e, hb, hg, hnc, _⟩
    · omega
    · injection e with e1 e2 e3
      subst e1; subst e3
      have hgl := (Array.getElem?_eq_some_iff.1 hg).1
      exact delf_go P g zs.length cap k v acks zs w0 w rfl hnc hl hb hgl hB ⟨cells3_of_own hown, fun t => by simp [World.frozen?, hg]⟩ hP hR hk hkt hka hcon
  · have hall : ∀ n j, j < n → j < zs.length → memB acks (at3 zs j).1 = false := by
      intro n
      induction n with
      | zero => intro j hj; omega
      | succ n ih =>
        intro j hj hjl
        cases e : memB acks (at3 zs j).1 with
        | false => rfl
        | true => exact absurd ⟨j, hjl, e, fun t ht => ih t (by omega) (by omega)⟩ hex
    have hcon : Calls Tryz.prog 149 #[.slice ao zs.length cap, .func (.func 111) #[] #[.pointer (some ⟨P, 0, none⟩)]] w fun e w' => e = .returned (.int .i64 (-1)) ∧ Below w.heap.size w w' := by
      refine hidx.mono fun e w' ⟨i, he, hi, hb⟩ => ⟨?_, hb⟩
      rcases hi with ⟨rfl, _⟩ | ⟨k', rfl, hk', ht', _⟩
      · exact he
      · have := hall (k' + 1) k' (by omega) hk'
        rw [show memB acks (at3 zs k').1 = true from ht'] at this; cases this
    have e : leftL acks zs = zs := left_all acks fun j hj => hall zs.length j hj hj
    rw [e]
    refine (delf_stay P ao zs.length cap w0.heap.size w0 w hB hB.size hl hcon).mono fun e w' ⟨he, hb⟩ => ⟨_, he, (row3_of_own hown hl).below hb, hB.trans (hb.mono hB.size)⟩
set_option maxRecDepth 100000 in
set_option maxHeartbeats 2000000 in
theorem left_calls (u v : Value) (zs : List S3) (acks : List R) (w : World) (hl : zs.length ≤ 1000000) (hZ : Row3 w u zs) (hR : Row w v acks) :
    Calls Tryz.prog 74 #[u, v] w fun e w' => ∃ u', e = .returned u' ∧ Row3 w' u' (leftL acks zs) ∧ Below w.heap.size w w' := by
  have bel : Below w.heap.size w (w.alloc (.cells #[v] 32)) := (Below.refl _ _).alloc (Nat.le_refl _) _
  have hcl := clone_calls u zs (w.alloc (.cells #[v] 32)) (hZ.below bel) hl
  have HD : Hid (∀ (w1 : World) (u1 : Value), w1.ownsRow (w.alloc (.cells #[v] 32)).heap.size 77 3 u1 zs.length (flat3 zs) → Below (w.alloc (.cells #[v] 32)).heap.size (w.alloc (.cells #[v] 32)) w1 →
      Calls Tryz.prog 113 #[u1, .func (.func 111) #[] #[.pointer (some ⟨w.heap.size, 0, none⟩)]] w1 fun e w' => ∃ u', e = .returned u' ∧ Row3 w' u' (leftL acks zs) ∧ Below (w.alloc (.cells #[v] 32)).heap.size (w.alloc (.cells #[v] 32)) w') := fun w1 u1 ho hb =>
    delf_calls w.heap.size u1 v acks zs (w.alloc (.cells #[v] 32)) w1 hl hb ho (by simp) (hR.below bel)
  obtain ⟨ao, c, rfl, _, hn, hz⟩ := hZ
  obtain ⟨bo, d, rfl, _, hn2, hz2⟩ := hR
  clear hn hz hn2 hz2
  generalize acks.length = m at *
  generalize hlen : zs.length = len at *
  clear hlen
  go_enter Tryz.func74, Tryz.ntmps74
  go_wp2_with (first | (go_at_call 114; refine hcl.mono ?_; rintro e w1 ⟨u1, rfl, ho1, hb1⟩) | (go_at_call 113; refine (HD.out w1 u1 ho1 hb1).mono ?_; rintro e w2 ⟨u2, rfl, ho2, hb2⟩))
  go_ret
  exact ⟨u2, rfl, ho2, bel.trans (hb2.mono bel.size)⟩



def ints (xs : List Int) : List Value := xs.map fun n => .int .i64 n
def iat (xs : List Int) (j : Nat) : Int := xs[j]?.getD 0
theorem ints_length (xs : List Int) : (ints xs).length = xs.length := by simp [ints]
theorem ints_append (xs ys : List Int) : ints (xs ++ ys) = ints xs ++ ints ys := by simp [ints]
theorem ints_get (xs : List Int) (j : Nat) (h : j < xs.length) : (ints xs)[j]? = some (.int .i64 (iat xs j)) := by simp [ints, iat, h]
theorem iat_mem {xs : List Int} {j : Nat} (h : j < xs.length) : iat xs j ∈ xs := by simp [iat, h]
def ICells (w : World) (b off : Nat) (xs : List Int) : Prop := ∀ j, j < xs.length → w.cell? ⟨b, off + j, none⟩ = some (.int .i64 (iat xs j))
/-- The slice's value v holds the integers xs in the world w. -/
def IRow (w : World) (v : Value) (xs : List Int) : Prop := ∃ ao c, v = .slice ao xs.length c ∧ xs.length ≤ 9223372036854775807 ∧ (xs = [] ∨ ∃ b off, ao = some ⟨b, off, none⟩ ∧ b < w.heap.size ∧ ICells w b off xs)
theorem ICells.below {w w' : World} {b off : Nat} {xs : List Int} (h : ICells w b off xs) (hb : b < w.heap.size) (bel : Below w.heap.size w w') : ICells w' b off xs := fun j hj => (bel.cell (p := ⟨b, off + j, none⟩) hb).trans (h j hj)
theorem IRow.below {w w' : World} {v : Value} {xs : List Int} (h : IRow w v xs) (bel : Below w.heap.size w w') : IRow w' v xs := by
  obtain ⟨ao, c, rfl, hl, h⟩ := h
  refine ⟨ao, c, rfl, hl, ?_⟩
  rcases h with h | ⟨b, off, rfl, hb, hc⟩
  · exact .inl h
  · exact .inr ⟨b, off, rfl, Nat.lt_of_lt_of_le hb bel.size, hc.below hb bel⟩
theorem irow_of_own {w : World} {base n : Nat} {v : Value} {xs : List Int} (h : w.ownsRow base 3 1 v n (ints xs)) (hl : xs.length ≤ 1000000) : IRow w v xs := by
  have hn : xs.length = n := by have := h.1; rw [ints_length] at this; omega
  rcases h.2 with ⟨rfl, h0⟩ | ⟨g, cap, cur, rfl, hb, hg, hr⟩
  · exact ⟨none, 0, by rw [hn, h0], by omega, .inl (List.eq_nil_of_length_eq_zero (by omega))⟩
  · refine ⟨some ⟨g, 0, none⟩, cap, by rw [hn], by omega, .inr ⟨g, 0, rfl, (h.lt g rfl).2, fun j hj => ?_⟩⟩
    have := h.cells (g := g) rfl _ _ (ints_get xs j hj)
    rw [Addr.add_lit] at this
    exact this
theorem infoI : (Tryz.prog.info? 3).map (fun i => (i.zero, i.size, i.bytes)) = some (some (.int .i64 0), 1, 8) := by kernel_rfl
theorem cell_one_new (w : World) (u : Value) (t : TypeId) : ∀ (j : Nat) (u' : Value), [u][j]? = some u' → (w.alloc (.cells #[u] t)).cell? ((⟨w.heap.size, 0, none⟩ : Addr).add j) = some u' := by
  intro j u' h
  match j, h with
  | 0, h => simp at h; subst h; rw [Addr.add_lit]; simp
  | j + 1, h => simp at h
theorem own_below' {w w' : World} {B e size n : Nat} {v : Value} {xs : List Value} (h : w.ownsRow B e size v n xs) (hb : Below w.heap.size w w') : w'.ownsRow B e size v n xs := by
  refine ⟨h.1, ?_⟩
  rcases h.2 with hn | ⟨g, cap, cur, rfl, hB, hgg, hr⟩
  · exact .inl hn
  · exact .inr ⟨g, cap, cur, rfl, hB, (hb.block g (Array.getElem?_eq_some_iff.1 hgg).1).trans hgg, hr⟩
theorem own_mono' {w : World} {B B' e size n : Nat} {v : Value} {xs : List Value} (h : w.ownsRow B e size v n xs) (hb : B' ≤ B) : w.ownsRow B' e size v n xs := by
  refine ⟨h.1, ?_⟩
  rcases h.2 with hn | ⟨g, cap, cur, rfl, hB, hr⟩
  · exact .inl hn
  · exact .inr ⟨g, cap, cur, rfl, Nat.le_trans hb hB, hr⟩
set_option maxRecDepth 100000 in
set_option maxHeartbeats 2000000 in
theorem both_calls (u v : Value) (zs : List S3) (acks : List R) (w : World) (hZ : Row3 w u zs) (hR : Row w v acks) :
    Calls Tryz.prog 68 #[u, v] w fun e w' => e = .returned (errV (both zs acks)) ∧ Below w.heap.size w w' := by
  have h1 := scheck_calls u zs w hZ
  by_cases h0 : sc zs = 0
  · have e : both zs acks = chk acks := by rw [both, if_pos h0]
    rw [e]
    rw [h0, errV0] at h1
    have HC : Hid (∀ w1, Below w.heap.size w w1 → Calls Tryz.prog 78 #[v] w1 fun e w' => e = .returned (errV (chk acks)) ∧ Below w1.heap.size w1 w') := fun w1 hb => check_calls v acks w1 (hR.below hb)
    clear hZ hR e
    generalize chk acks = f at HC ⊢
    go_enter Tryz.func68, Tryz.ntmps68
    go_wp2_with (first | (go_at_call 75; refine h1.mono ?_; rintro e w1 ⟨rfl, hb1⟩) | (go_at_call 78; refine (HC.out w1 hb1).mono ?_; rintro e w2 ⟨rfl, hb2⟩))
    go_ret
    exact ⟨rfl, hb1.trans (hb2.mono hb1.size)⟩
  · have e : both zs acks = sc zs := by rw [both, if_neg h0]
    rw [e, errV_f h0]
    rw [errV_f h0] at h1
    clear hZ hR e
    generalize sc zs = f at h1 ⊢
    go_enter Tryz.func68, Tryz.ntmps68
    go_wp2_with (go_at_call 75; refine h1.mono ?_; rintro e w1 ⟨rfl, hb1⟩)
    go_ret
    exact ⟨rfl, hb1⟩
theorem both_len {zs : List S3} {acks : List R} (h : both zs acks = 0) : zs.length ≤ 1000000 := by have := (sc_good (both_0 h).1).1; omega
set_option maxRecDepth 100000 in
set_option maxHeartbeats 2000000 in
theorem leftx_no (u v : Value) (zs : List S3) (acks : List R) (w : World) (hZ : Row3 w u zs) (hR : Row w v acks) (h : both zs acks ≠ 0) :
    Calls Tryz.prog 28 #[u, v] w fun e w' => e = .returned (.tuple #[.slice none 0 0, errV (both zs acks)]) ∧ Below w.heap.size w w' := by
  have h1 := both_calls u v zs acks w hZ hR
  rw [errV_f h] at h1 ⊢
  clear hZ hR h
  generalize both zs acks = f at h1 ⊢
  go_enter Tryz.func28, Tryz.ntmps28
  go_wp2_with (go_at_call 68; refine h1.mono ?_; rintro e w1 ⟨rfl, hb1⟩)
  go_ret2
  exact ⟨rfl, hb1⟩
set_option maxRecDepth 100000 in
set_option maxHeartbeats 2000000 in
theorem leftx_yes (u v : Value) (zs : List S3) (acks : List R) (w : World) (hZ : Row3 w u zs) (hR : Row w v acks) (h : both zs acks = 0) :
    Calls Tryz.prog 28 #[u, v] w fun e w' => ∃ u', e = .returned (.tuple #[u', .nilIface]) ∧ Row3 w' u' (leftL acks zs) ∧ Below w.heap.size w w' := by
  have h1 := both_calls u v zs acks w hZ hR
  rw [h, errV0] at h1
  have HL : Hid (∀ w1, Below w.heap.size w w1 → Calls Tryz.prog 74 #[u, v] w1 fun e w' => ∃ u', e = .returned u' ∧ Row3 w' u' (leftL acks zs) ∧ Below w1.heap.size w1 w') := fun w1 hb => left_calls u v zs acks w1 (both_len h) (hZ.below hb) (hR.below hb)
  clear hZ hR h
  go_enter Tryz.func28, Tryz.ntmps28
  go_wp2_with (first | (go_at_call 68; refine h1.mono ?_; rintro e w1 ⟨rfl, hb1⟩) | (go_at_call 74; refine (HL.out w1 hb1).mono ?_; rintro e w2 ⟨u2, rfl, ho2, hb2⟩))
  go_ret2
  exact ⟨u2, rfl, ho2, hb1.trans (hb2.mono hb1.size)⟩

theorem box_row (w : World) (v : Value) (t : TypeId) : (w.alloc (.cells #[v] t)).cell? ⟨w.heap.size, 0, none⟩ = some v := by simp
set_option maxRecDepth 100000 in
set_option maxHeartbeats 2000000 in
theorem lost_no (u v : Value) (zs : List S3) (acks : List R) (now wait : Int) (w : World) (hZ : Row3 w u zs) (hR : Row w v acks) (h : both zs acks ≠ 0) :
    Calls Tryz.prog 27 #[u, v, .int .i64 now, .int .i64 wait] w fun e w' => e = .returned (.tuple #[.slice none 0 0, errV (both zs acks)]) ∧ Below w.heap.size w w' := by
  have bel : Below w.heap.size w (w.alloc (.cells #[v] 32)) := (Below.refl _ _).alloc (Nat.le_refl _) _
  have h1 := both_calls u v zs acks _ (hZ.below bel) (hR.below bel)
  rw [errV_f h] at h1 ⊢
  obtain ⟨bo, d, rfl, _, _, _⟩ := hR
  clear hZ h
  generalize acks.length = m at *
  generalize both zs acks = f at h1 ⊢
  go_enter Tryz.func27, Tryz.ntmps27
  go_wp2_with (go_at_call 68; refine h1.mono ?_; rintro e w1 ⟨rfl, hb1⟩)
  go_ret2
  exact ⟨rfl, bel.trans (hb1.mono bel.size)⟩
set_option maxRecDepth 100000 in
set_option maxHeartbeats 2000000 in
theorem lost_range (u v : Value) (zs : List S3) (acks : List R) (now wait : Int) (w : World) (hZ : Row3 w u zs) (hR : Row w v acks) (h : both zs acks = 0) (ht : ¬ (isT now = true ∧ isW wait = true)) :
    Calls Tryz.prog 27 #[u, v, .int .i64 now, .int .i64 wait] w fun e w' => e = .returned (.tuple #[.slice none 0 0, .iface 108 (.int .i64 1)]) ∧ Below w.heap.size w w' := by
  have bel : Below w.heap.size w (w.alloc (.cells #[v] 32)) := (Below.refl _ _).alloc (Nat.le_refl _) _
  have h1 := both_calls u v zs acks _ (hZ.below bel) (hR.below bel)
  rw [h, errV0] at h1
  obtain ⟨bo, d, rfl, _, _, _⟩ := hR
  clear hZ h
  generalize acks.length = m at *
  have hT := st_calls now
  have hW := sw_calls wait
  cases h2 : isT now with
  | false =>
    rw [h2] at hT
    clear ht hW
    go_enter Tryz.func27, Tryz.ntmps27
    go_wp2_with (first | (go_at_call 68; refine h1.mono ?_; rintro e w1 ⟨rfl, hb1⟩) | (go_at_call 69; refine (hT _).mono ?_; rintro e w2 ⟨rfl, rfl⟩))
    go_ret2
    exact ⟨rfl, bel.trans (hb1.mono bel.size)⟩
  | true =>
    have h3 : isW wait = false := by
      cases e : isW wait with
      | false => rfl
      | true => exact absurd ⟨h2, e⟩ ht
    rw [h2] at hT
    rw [h3] at hW
    clear ht
    go_enter Tryz.func27, Tryz.ntmps27
    go_wp2_with (first | (go_at_call 68; refine h1.mono ?_; rintro e w1 ⟨rfl, hb1⟩) | (go_at_call 69; refine (hT _).mono ?_; rintro e w2 ⟨rfl, rfl⟩) | (go_at_call 70; refine (hW _).mono ?_; rintro e w2 ⟨rfl, rfl⟩))
    go_ret2
    exact ⟨rfl, bel.trans (hb1.mono bel.size)⟩

/-- Which of the first k are lost. -/
def lostT (acks : List R) (now wait : Int) (ls : List S3) (k : Nat) : List Int := ((ls.take k).filter (lostB acks now wait)).map fun s => s.1
theorem lostT_next (acks : List R) (now wait : Int) {ls : List S3} {k : Nat} (hk : k < ls.length) : lostT acks now wait ls (k + 1) = lostT acks now wait ls k ++ (if lostB acks now wait (at3 ls k) = true then [(at3 ls k).1] else []) := by
  have e : at3 ls k = ls[k] := by simp [at3, hk]
  unfold lostT
  rw [e, List.take_succ_eq_append_getElem hk, List.filter_append, List.map_append]
  congr 1
  cases h : lostB acks now wait ls[k] <;> simp [h]
theorem lostT_yes {acks : List R} {now wait : Int} {ls : List S3} {k : Nat} (hk : k < ls.length) (h : lostB acks now wait (at3 ls k) = true) : lostT acks now wait ls (k + 1) = lostT acks now wait ls k ++ [(at3 ls k).1] := by rw [lostT_next acks now wait hk, if_pos h]
theorem lostT_not {acks : List R} {now wait : Int} {ls : List S3} {k : Nat} (hk : k < ls.length) (h : lostB acks now wait (at3 ls k) = false) : lostT acks now wait ls (k + 1) = lostT acks now wait ls k := by rw [lostT_next acks now wait hk, if_neg (by simp [h]), List.append_nil]
theorem lostT_le (acks : List R) (now wait : Int) (ls : List S3) (k : Nat) : (lostT acks now wait ls k).length ≤ k := by
  unfold lostT
  rw [List.length_map]
  exact Nat.le_trans (List.length_filter_le _ _) (by rw [List.length_take]; omega)



set_option maxRecDepth 100000 in
set_option maxHeartbeats 2000000 in
theorem lost_yes (u v : Value) (zs : List S3) (acks : List R) (now wait : Int) (w : World) (hZ : Row3 w u zs) (hR : Row w v acks) (h : both zs acks = 0) (hnow : isT now = true) (hwait : isW wait = true) :
    Calls Tryz.prog 27 #[u, v, .int .i64 now, .int .i64 wait] w fun e w' => ∃ vo, e = .returned (.tuple #[vo, .nilIface]) ∧ IRow w' vo (lostL acks now wait zs) ∧ Below w.heap.size w w' := by
  have eg : ∀ args w, (callFunc 71 args).run Tryz.prog w = .ok (.enter 71 args) w := enters_of Tryz.func71 (by kernel_rfl) rfl
  have bel : Below w.heap.size w (w.alloc (.cells #[v] 32)) := (Below.refl _ _).alloc (Nat.le_refl _) _
  have h1 := both_calls u v zs acks _ (hZ.below bel) (hR.below bel)
  rw [h, errV0] at h1
  have hT := st_calls now
  have hW := sw_calls wait
  rw [hnow] at hT
  rw [hwait] at hW
  have HL : Hid (∀ w1, Below w.heap.size w w1 → Calls Tryz.prog 74 #[u, v] w1 fun e w' => ∃ u', e = .returned u' ∧ Row3 w' u' (leftL acks zs) ∧ Below w1.heap.size w1 w') := fun w1 hb => left_calls u v zs acks w1 (both_len h) (hZ.below hb) (hR.below hb)
  have HO : Hid (∀ s, s ∈ leftL acks zs → okS s = true) := fun s hs => (sc_good (both_0 h).1).2.1 s (left_sub hs).1
  have HN : Hid ((leftL acks zs).length ≤ 30) := Nat.le_trans (left_length acks zs) (sc_good (both_0 h).1).1
  have HP : Hid (∀ w1 (n : Int), Below (w.alloc (.cells #[v] 32)).heap.size (w.alloc (.cells #[v] 32)) w1 → Calls Tryz.prog 71 #[.int .i64 n, .pointer (some ⟨w.heap.size, 0, none⟩)] w1 fun e w' => e = .returned (.bool (reachB acks n)) ∧ Below w1.heap.size w1 w') := fun w1 n hb =>
    reach_calls n w.heap.size v acks w1 ((hb.cell (p := ⟨w.heap.size, 0, none⟩) (by simp)).trans (box_row w v 32)) (hR.below (bel.trans (hb.mono bel.size)))
  have HE : Hid (lostL acks now wait zs = lostT acks now wait (leftL acks zs) (leftL acks zs).length) := by
    show _ = _
    unfold lostL lostT
    rw [List.take_length]
  have tnow := (isT_iff now).1 hnow
  have twait := (isW_iff wait).1 hwait
  obtain ⟨i0, hi0, hz0, hz1, hz2⟩ := info_parts infoI
  obtain ⟨bo, d, rfl, hx1, hx2, hx3⟩ := hR
  obtain ⟨ao, cc, rfl, hx4, hx5, hx6⟩ := hZ
  clear h hnow hwait hx1 hx2 hx3 hx4 hx5 hx6
  generalize leftL acks zs = ls at HL HO HN HE
  generalize acks.length = m at *
  generalize zs.length = len at *
  go_enter Tryz.func27, Tryz.ntmps27
  go_wp2_with (first | (go_at_call 68; refine h1.mono ?_; rintro e w1 ⟨rfl, hb1⟩; have hk1 := (hb1.cell (p := ⟨w.heap.size, 0, none⟩) (by simp)).trans (box_row w _ 32)) | (go_at_call 69; refine (hT _).mono ?_; rintro e w1' ⟨rfl, rfl⟩) | (go_at_call 70; refine (hW _).mono ?_; rintro e w1' ⟨rfl, rfl⟩) | (go_at_call 74; refine (HL.out _ (bel.trans (hb1.mono bel.size))).mono ?_; rintro e w2 ⟨u2, rfl, ho2, hb2⟩; obtain ⟨co, ce, rfl, hl2, hn2, hz2'⟩ := ho2))
  have HZ2 : Hid (ls = [] ∨ ∃ b off, co = some ⟨b, off, none⟩ ∧ b < w2.heap.size ∧ Cells3 w2 b off ls) := hz2'
  have hB2 := hb1.trans (hb2.mono hb1.size)
  have hBs := hB2.size
  have hN30 : ls.length ≤ 30 := HN.out
  have HM2 : Hid (ls.length = ls.length) := rfl
  generalize hlen2 : ls.length = m2 at hl2 hN30 HN HE HM2 ⊢
  replace HM2 : Hid (ls.length = m2) := hlen2
  clear hlen2 hz2' hn2 h1 hT hW HL hk1
  go_loopg [12, 14, 35] m2 (fun gg s12 _ s35 wr => ∃ k : Nat, k ≤ m2 ∧ m2 - k ≤ gg ∧ s35 = .int .i64 k ∧ wr.ownsRow w2.heap.size 3 1 s12 (lostT acks now wait ls k).length (ints (lostT acks now wait ls k)) ∧ Hid (Below w2.heap.size w2 wr))
  case atStart => exact ⟨0, Nat.zero_le _, by omega, rfl, by simpa [lostT, ints] using World.ownsRow_nil w2 w2.heap.size 3 1, Below.refl _ _⟩
  case round =>
    obtain ⟨k, hk, hgg, rfl, hrow, HBr⟩ := hrel
    have hBr := HBr.out
    by_cases hlt : k < m2
    · have hltz : (k : Int) < (m2 : Int) := by omega
      have hkl : k < ls.length := by have := HM2.out; omega
      obtain ⟨b0, off, rfl, hb0, hC⟩ : ∃ b off, co = some ⟨b, off, none⟩ ∧ b < w2.heap.size ∧ Cells3 w2 b off ls := by
        rcases HZ2.out with h | h
        · rw [h] at hkl; simp at hkl
        · exact h
      obtain ⟨c0, c1, c2⟩ := hC.below hb0 hBr k hkl
      have hok := (okS_iff _).1 (HO.out _ (at3_mem hkl))
      have HY : Hid (lostB acks now wait (at3 ls k) = true → lostT acks now wait ls (k + 1) = lostT acks now wait ls k ++ [(at3 ls k).1]) := lostT_yes hkl
      have HX : Hid (lostB acks now wait (at3 ls k) = false → lostT acks now wait ls (k + 1) = lostT acks now wait ls k) := lostT_not hkl
      have hle := lostT_le acks now wait ls k
      clear hC hkl
      generalize at3 ls k = s at c0 c1 c2 hok HY HX
      obtain ⟨a, b, c⟩ := s
      simp only at c0 c1 c2 hok
      have v3 : IntKind.i64.wrap (a + 3) = a + 3 := wrap_small _ (by omega) (by omega)
      have v1 : IntKind.i64.wrap (a + 1) = a + 1 := wrap_small _ (by omega) (by omega)
      have vb : IntKind.i64.wrap (now - b) = now - b := wrap_small _ (by omega) (by omega)
      have hBa : Below (w.alloc (.cells #[.slice bo m d] 32)).heap.size (w.alloc (.cells #[.slice bo m d] 32)) (wr.alloc (.cells #[.int .i64 a, .int .i64 b, .int .i64 c] 77)) := (hB2.trans (hBr.mono hBs)).alloc (by have := hBr.size; omega) _
      have hbox : Below wr.heap.size wr (wr.alloc (.cells #[.int .i64 a, .int .i64 b, .int .i64 c] 77)) := (Below.refl _ _).alloc (Nat.le_refl _) _
      have hr3 := fun W hb => HP.out W (a + 3) hb
      have hr1 := fun W hb => HP.out W (a + 1) hb
      clear hBr
      cases h3 : reachB acks (a + 3) with
      | true =>
        have HF : Hid (lostT acks now wait ls (k + 1) = lostT acks now wait ls k ++ [a]) := HY.out (by simp [lostB, h3])
        rw [h3] at hr3
        clear HX HY hr1 v1 vb
        go_wp2_with (first | ((first | go_at_fn 71 | go_at_call 71); refine (hr3 _ hBa).mono ?_; rintro e w3 ⟨rfl, hb3⟩; have hB3 := hBa.trans (hb3.mono hBa.size); have hbw := hbox.trans (hb3.mono hbox.size); have x0 := (hb3.cell (p := ⟨wr.heap.size, 0, none⟩) (by simp)).trans (World.cell_new0 wr a b c); have x1 := (hb3.cell (p := ⟨wr.heap.size, 1, none⟩) (by simp)).trans (World.cell_new1 wr a b c); have hl3 : wr.heap.size < w3.heap.size := Nat.lt_of_lt_of_le (by simp) hb3.size) | (at_builtin; refine wpList_append_own _ rfl (.tmp 59) (.tmp 62) 38 rfl w2.heap.size 3 i0 _ 1 8 Tryz.underlying38 hi0 hz0 hz1 hz2 rfl (by decide) _ _ (ints (lostT acks now wait ls k)) rfl (own_below' hrow (hbw.alloc hbw.size _)) ⟨w3.heap.size, 0, none⟩ 1 1 (ints [a]) rfl rfl (cell_one_new _ _ _) (by intro u hu; simp [ints] at hu; subst hu; rfl) (by unfold maxLen; omega) (by omega) (by have := HBr.out.size; have := hbw.size; simp; omega) ?_; intro v5 w5 ho5 hg5 _))
        go_roundg (m2 - (k + 1))
        case measure => omega
        case rel =>
          refine ⟨k + 1, by omega, Nat.le_refl _, by go_num, ?_, ?_⟩
          · rw [HF.out]
            simpa [ints_append, ints_length] using ho5
          · exact HBr.out.trans (((hbw.mono HBr.out.size).alloc (by have := hbw.size; have := HBr.out.size; omega) _).grown hg5 (by have := hbw.size; have := HBr.out.size; simp; omega) (fun j e => (hrow.lt j e).1))
      | false =>
        rw [h3] at hr3
        cases h4 : reachB acks (a + 1) with
        | false =>
          have HF : Hid (lostT acks now wait ls (k + 1) = lostT acks now wait ls k) := HX.out (by simp [lostB, h3, h4])
          rw [h4] at hr1
          clear HX HY vb
          go_wp2_with (first | ((first | go_at_fn 71 | go_at_call 71); refine (hr3 _ hBa).mono ?_; rintro e w3 ⟨rfl, hb3⟩; have hB3 := hBa.trans (hb3.mono hBa.size); have hbw := hbox.trans (hb3.mono hbox.size); have x0 := (hb3.cell (p := ⟨wr.heap.size, 0, none⟩) (by simp)).trans (World.cell_new0 wr a b c); have x1 := (hb3.cell (p := ⟨wr.heap.size, 1, none⟩) (by simp)).trans (World.cell_new1 wr a b c); have hl3 : wr.heap.size < w3.heap.size := Nat.lt_of_lt_of_le (by simp) hb3.size) | ((first | go_at_fn 71 | go_at_call 71); refine (hr1 _ hB3).mono ?_; rintro e w4 ⟨rfl, hb4⟩; have hbw4 := hbw.trans (hb4.mono hbw.size); have y0 := (hb4.cell (p := ⟨wr.heap.size, 0, none⟩) hl3).trans x0; have y1 := (hb4.cell (p := ⟨wr.heap.size, 1, none⟩) hl3).trans x1))
          go_roundg (m2 - (k + 1))
          case measure => omega
          case rel => exact ⟨k + 1, by omega, Nat.le_refl _, by go_num, by rw [HF.out]; exact own_below' hrow hbw4, HBr.out.trans (hbw4.mono HBr.out.size)⟩
        | true =>
          rw [h4] at hr1
          by_cases h5 : wait ≤ now - b
          · have HF : Hid (lostT acks now wait ls (k + 1) = lostT acks now wait ls k ++ [a]) := HY.out (by simp [lostB, h4, h5])
            clear HX HY
            go_wp2_with (first | ((first | go_at_fn 71 | go_at_call 71); refine (hr3 _ hBa).mono ?_; rintro e w3 ⟨rfl, hb3⟩; have hB3 := hBa.trans (hb3.mono hBa.size); have hbw := hbox.trans (hb3.mono hbox.size); have x0 := (hb3.cell (p := ⟨wr.heap.size, 0, none⟩) (by simp)).trans (World.cell_new0 wr a b c); have x1 := (hb3.cell (p := ⟨wr.heap.size, 1, none⟩) (by simp)).trans (World.cell_new1 wr a b c); have hl3 : wr.heap.size < w3.heap.size := Nat.lt_of_lt_of_le (by simp) hb3.size) | ((first | go_at_fn 71 | go_at_call 71); refine (hr1 _ hB3).mono ?_; rintro e w4 ⟨rfl, hb4⟩; have hbw4 := hbw.trans (hb4.mono hbw.size); have y0 := (hb4.cell (p := ⟨wr.heap.size, 0, none⟩) hl3).trans x0; have y1 := (hb4.cell (p := ⟨wr.heap.size, 1, none⟩) hl3).trans x1) | (at_builtin; refine wpList_append_own _ rfl (.tmp 59) (.tmp 62) 38 rfl w2.heap.size 3 i0 _ 1 8 Tryz.underlying38 hi0 hz0 hz1 hz2 rfl (by decide) _ _ (ints (lostT acks now wait ls k)) rfl (own_below' hrow (hbw4.alloc hbw4.size _)) ⟨w4.heap.size, 0, none⟩ 1 1 (ints [a]) rfl rfl (cell_one_new _ _ _) (by intro u hu; simp [ints] at hu; subst hu; rfl) (by unfold maxLen; omega) (by omega) (by have := HBr.out.size; have := hbw4.size; simp; omega) ?_; intro v5 w5 ho5 hg5 _))
            go_roundg (m2 - (k + 1))
            case measure => omega
            case rel =>
              refine ⟨k + 1, by omega, Nat.le_refl _, by go_num, ?_, ?_⟩
              · rw [HF.out]
                simpa [ints_append, ints_length] using ho5
              · exact HBr.out.trans (((hbw4.mono HBr.out.size).alloc (by have := hbw4.size; have := HBr.out.size; omega) _).grown hg5 (by have := hbw4.size; have := HBr.out.size; simp; omega) (fun j e => (hrow.lt j e).1))
          · have HF : Hid (lostT acks now wait ls (k + 1) = lostT acks now wait ls k) := HX.out (by simp [lostB, h3, h5])
            clear HX HY
            go_wp2_with (first | ((first | go_at_fn 71 | go_at_call 71); refine (hr3 _ hBa).mono ?_; rintro e w3 ⟨rfl, hb3⟩; have hB3 := hBa.trans (hb3.mono hBa.size); have hbw := hbox.trans (hb3.mono hbox.size); have x0 := (hb3.cell (p := ⟨wr.heap.size, 0, none⟩) (by simp)).trans (World.cell_new0 wr a b c); have x1 := (hb3.cell (p := ⟨wr.heap.size, 1, none⟩) (by simp)).trans (World.cell_new1 wr a b c); have hl3 : wr.heap.size < w3.heap.size := Nat.lt_of_lt_of_le (by simp) hb3.size) | ((first | go_at_fn 71 | go_at_call 71); refine (hr1 _ hB3).mono ?_; rintro e w4 ⟨rfl, hb4⟩; have hbw4 := hbw.trans (hb4.mono hbw.size); have y0 := (hb4.cell (p := ⟨wr.heap.size, 0, none⟩) hl3).trans x0; have y1 := (hb4.cell (p := ⟨wr.heap.size, 1, none⟩) hl3).trans x1))
            go_roundg (m2 - (k + 1))
            case measure => omega
            case rel => exact ⟨k + 1, by omega, Nat.le_refl _, by go_num, by rw [HF.out]; exact own_below' hrow hbw4, HBr.out.trans (hbw4.mono HBr.out.size)⟩
    · obtain rfl : k = m2 := by omega
      have hltz : ¬ (k : Int) < (k : Int) := by omega
      have HF : Hid (lostL acks now wait zs = lostT acks now wait ls k) := by
        show _ = _
        rw [HE.out]
      have hle := lostT_le acks now wait ls k
      go_wp2_with fail
      go_ret2
      refine ⟨_, rfl, ?_, bel.trans ((hB2.trans (hBr.mono hBs)).mono bel.size)⟩
      rw [HF.out]
      exact irow_of_own hrow (by omega)



theorem struct3 : Tryz.prog.underlying 77 = some (.struct (Tryz.prog.fieldsOf 77)) := by kernel_rfl
theorem stood3 : Tryz.prog.stoodInHeld 77 = false := by kernel_rfl
theorem guard3 (op : BinOp) (x y : Operand) (xs ys : Array Value) (w : World) : (eqGuard op 77 x y (.agg xs) (.agg ys)).run Tryz.prog w = .ok () w := run_eqGuard_agg w op 77 x y xs ys (by kernel_rfl)
theorem neq3 (a b c d e f : Int) (w : World) : (binOp .neq 77 (.agg #[.int .i64 a, .int .i64 b, .int .i64 c]) (.agg #[.int .i64 d, .int .i64 e, .int .i64 f])).run Tryz.prog w = .ok (.bool (!(a == d && (b == e && c == f)))) w := by
  have u3 := Tryz.underlying3
  have a3 := Tryz.isAgg3
  have z3 := Tryz.sizeOf3
  rw [run_neq_struct, show (10000 : Nat) = 9999 + 1 from rfl, run_equalIn_agg w 9999 77 _ _ struct3 stood3]
  simp only [Program.fieldsOf, Tryz.underlying77]
  go_simp
  by_cases h1 : a = d <;> by_cases h2 : b = e <;> by_cases h3 : c = f <;> simp [h1, h2, h3]
theorem neq3_same (a b c : Int) (w : World) : (binOp .neq 77 (.agg #[.int .i64 a, .int .i64 b, .int .i64 c]) (.agg #[.int .i64 a, .int .i64 b, .int .i64 c])).run Tryz.prog w = .ok (.bool false) w := by
  rw [neq3]; simp
theorem neq3_diff (a b c d e f : Int) (h : (a, b, c) ≠ (d, e, f)) (w : World) : (binOp .neq 77 (.agg #[.int .i64 a, .int .i64 b, .int .i64 c]) (.agg #[.int .i64 d, .int .i64 e, .int .i64 f])).run Tryz.prog w = .ok (.bool true) w := by
  rw [neq3]
  have : (a == d && (b == e && c == f)) = false := by
    cases q : (a == d && (b == e && c == f))
    · rfl
    · simp at q; exact absurd (by rw [q.1, q.2.1, q.2.2]) h
  rw [this]; rfl

theorem take3_next {xs ys : List S3} {k : Nat} (h : xs.take k = ys.take k) (h1 : k < xs.length) (h2 : k < ys.length) (e : at3 xs k = at3 ys k) : xs.take (k + 1) = ys.take (k + 1) := by
  rw [List.take_succ_eq_append_getElem h1, List.take_succ_eq_append_getElem h2, h]
  simp [at3, h1, h2] at e
  rw [e]




set_option maxRecDepth 100000 in
set_option maxHeartbeats 2000000 in
theorem rin_near (ao : Option Addr) (len cap : Nat) (zs : List R) (n : Int) (w : World) (hlen : zs.length = len) (hl : len ≤ 9223372036854775807) (hz : zs = [] ∨ ∃ b off, ao = some ⟨b, off, none⟩ ∧ b < w.heap.size ∧ Cells w b off zs) :
    Calls Tryz.prog 61 #[.slice ao len cap, .int .i64 n] w fun e w' => e = .returned (.bool (memB zs n)) ∧ Below w.heap.size w w' := by
  have HL : Hid (zs.length = len) := hlen
  have HZ : Hid (zs = [] ∨ ∃ b off, ao = some ⟨b, off, none⟩ ∧ b < w.heap.size ∧ Cells w b off zs) := hz
  clear hlen hz
  go_enter Tryz.func61, Tryz.ntmps61
  go_wp2_with fail
  go_loopw [5] (fun i wr => ∃ k : Nat, k ≤ len ∧ i = .int .i64 k ∧ Hid (memB zs n = memB (zs.drop k) n) ∧ Below w.heap.size w wr) (fun i _ => len - (intOf i).toNat)
  case atStart => exact ⟨0, Nat.zero_le _, rfl, rfl, Below.refl _ _⟩
  case round =>
    obtain ⟨k, hk, rfl, hE, hB⟩ := hrel
    by_cases hlt : k < len
    · have g1 : (k : Int) < (len : Int) := by omega
      have hkl : k < zs.length := by have := HL.out; omega
      obtain ⟨b, off, rfl, hb, hC⟩ : ∃ b off, ao = some ⟨b, off, none⟩ ∧ b < w.heap.size ∧ Cells w b off zs := by
        rcases HZ.out with h | h
        · rw [h] at hkl; simp at hkl
        · exact h
      have c0 := (hC.below hb hB k hkl).1
      have c1 := (hC.below hb hB k hkl).2
      have HD : Hid (memB zs n = (inB (at' zs k) n || memB (zs.drop (k + 1)) n)) := by
        show _ = _
        rw [hE.out, drop_at hkl]; rfl
      clear hC hkl hE
      generalize at' zs k = r at c0 c1 HD
      obtain ⟨lo, hi⟩ := r
      simp only at c0 c1
      by_cases h1 : lo ≤ n
      · by_cases h2 : n ≤ hi
        · have HF : Hid (memB zs n = true) := by
            show _ = _
            rw [HD.out]; simp [inB, h1, h2]
          clear HD
          go_wp2_with fail
          go_ret
          exact ⟨by rw [HF.out]; rfl, hB⟩
        · have HF : Hid (memB zs n = memB (zs.drop (k + 1)) n) := by
            show _ = _
            rw [HD.out, show inB (lo, hi) n = false by simp [inB]; omega]; rfl
          clear HD
          go_wp2_with fail
          exact ⟨⟨k + 1, by omega, by go_num, HF, hB⟩, by simp [intOf]; omega⟩
      · have HF : Hid (memB zs n = memB (zs.drop (k + 1)) n) := by
          show _ = _
          rw [HD.out, show inB (lo, hi) n = false by simp [inB]; omega]; rfl
        clear HD
        go_wp2_with fail
        exact ⟨⟨k + 1, by omega, by go_num, HF, hB⟩, by simp [intOf]; omega⟩
    · obtain rfl : k = len := by omega
      have e1 : zs.drop k = [] := List.drop_eq_nil_of_le (by have := HL.out; omega)
      have HF : Hid (memB zs n = false) := by
        show _ = _
        rw [hE.out, e1]; rfl
      clear hE e1
      go_wp2_with fail
      go_ret
      exact ⟨by rw [HF.out]; rfl, hB⟩
theorem rin_calls (v : Value) (zs : List R) (n : Int) (w : World) (h : Row w v zs) :
    Calls Tryz.prog 61 #[v, .int .i64 n] w fun e w' => e = .returned (.bool (memB zs n)) ∧ Below w.heap.size w w' := by
  obtain ⟨ao, c, rfl, hl, hn, h⟩ := h
  exact rin_near ao _ c zs n w rfl hl h
end Go.Proofs.YtoabfilliiopmaaGreatDoor.Lx
