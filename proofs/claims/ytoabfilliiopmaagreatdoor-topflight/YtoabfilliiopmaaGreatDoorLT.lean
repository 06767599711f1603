/- The texts T of loss, at this seat. -/
import Derived.Test.YtoabfilliiopmaaGreatDoorLX
import Derived.Test.YtoabfilliiopmaaGreatDoorK
import Derived.Maps.AppendAt
namespace Go.Proofs.YtoabfilliiopmaaGreatDoor.Lx
open Go.RowKit Go.Lib Go.Sort
set_option linter.unusedVariables false
set_option linter.unusedSimpArgs false


theorem way_next {zs : List S3} {k : Nat} (hk : k < zs.length) : wayL (zs.take (k + 1)) = wayL (zs.take k) + (at3 zs k).2.2 := by
  have e : at3 zs k = zs[k] := by simp [at3, hk]
  rw [e, List.take_succ_eq_append_getElem hk]
  unfold wayL
  rw [List.map_append, List.sum_append]
  simp
theorem way_small {zs : List S3} (h : ∀ s, s ∈ zs → okS s = true) : ∀ k, k ≤ zs.length → 0 ≤ wayL (zs.take k) ∧ wayL (zs.take k) ≤ 200 * k
  | 0, _ => by simp [wayL]
  | k + 1, hk => by
    have i := way_small h k (by omega)
    have hs := (okS_iff _).1 (h _ (at3_mem (show k < zs.length by omega)))
    rw [way_next (by omega)]
    omega
set_option maxRecDepth 100000 in
set_option maxHeartbeats 2000000 in
theorem way_no (u : Value) (zs : List S3) (w : World) (hZ : Row3 w u zs) (h : sc zs ≠ 0) :
    Calls Tryz.prog 29 #[u] w fun e w' => e = .returned (.tuple #[.int .i64 0, errV (sc zs)]) ∧ Below w.heap.size w w' := by
  have h1 := scheck_calls u zs w hZ
  rw [errV_f h] at h1 ⊢
  clear hZ h
  generalize sc zs = f at h1 ⊢
  go_enter Tryz.func29, Tryz.ntmps29
  go_wp2_with (go_at_call 75; refine h1.mono ?_; rintro e w1 ⟨rfl, hb1⟩)
  go_ret2
  exact ⟨rfl, hb1⟩
set_option maxRecDepth 100000 in
set_option maxHeartbeats 2000000 in
theorem way_yes (u : Value) (zs : List S3) (w : World) (hZ : Row3 w u zs) (h : sc zs = 0) :
    Calls Tryz.prog 29 #[u] w fun e w' => e = .returned (.tuple #[.int .i64 (wayL zs), .nilIface]) ∧ Below w.heap.size w w' := by
  have h1 := scheck_calls u zs w hZ
  rw [h, errV0] at h1
  have h30 := (sc_good h).1
  have HO : Hid (∀ s, s ∈ zs → okS s = true) := (sc_good h).2.1
  obtain ⟨ao, c, rfl, hl, hn, hz⟩ := hZ
  have HZ : Hid (zs = [] ∨ ∃ b off, ao = some ⟨b, off, none⟩ ∧ b < w.heap.size ∧ Cells3 w b off zs) := hz
  clear hz hn h
  generalize hlen : zs.length = len at h1 h30 hl ⊢
  have HL : Hid (zs.length = len) := hlen
  clear hlen
  go_enter Tryz.func29, Tryz.ntmps29
  go_wp2_with (go_at_call 75; refine h1.mono ?_; rintro e w1 ⟨rfl, hb1⟩)
  go_loopg [5, 7, 15] len (fun gg s5 _ s15 wr => ∃ k : Nat, k ≤ len ∧ len - k ≤ gg ∧ s15 = .int .i64 k ∧ s5 = .int .i64 (wayL (zs.take k)) ∧ Hid (Below w.heap.size w wr))
  case atStart => exact ⟨0, Nat.zero_le _, by omega, rfl, by simp [wayL], hb1⟩
  case round =>
    obtain ⟨k, hk, hgg, rfl, rfl, HB⟩ := hrel
    by_cases hlt : k < len
    · have hltz : (k : Int) < (len : Int) := by omega
      have hkl : k < zs.length := by have := HL.out; omega
      obtain ⟨b0, off, rfl, hb, hC⟩ : ∃ b off, ao = some ⟨b, off, none⟩ ∧ b < w.heap.size ∧ Cells3 w b off zs := by
        rcases HZ.out with h | h
        · rw [h] at hkl; simp at hkl
        · exact h
      obtain ⟨c0, c1, c2⟩ := hC.below hb HB.out k hkl
      have hs := (okS_iff _).1 (HO.out _ (at3_mem hkl))
      have hw := way_small HO.out k (by omega)
      have HN : Hid (wayL (zs.take (k + 1)) = wayL (zs.take k) + (at3 zs k).2.2) := way_next hkl
      clear hC hkl
      generalize at3 zs k = s at c0 c1 c2 hs HN
      obtain ⟨a, b, z⟩ := s
      simp only at c0 c1 c2 hs HN
      generalize wayL (zs.take k) = y at hw HN
      have vz : IntKind.i64.wrap (y + z) = y + z := wrap_small _ (by omega) (by omega)
      go_wp2_with fail
      go_roundg (len - (k + 1))
      case measure => omega
      case rel => exact ⟨k + 1, by omega, Nat.le_refl _, by go_num, by rw [HN.out], HB.out.alloc HB.out.size _⟩
    · obtain rfl : k = len := by omega
      have hltz : ¬ (k : Int) < (k : Int) := by omega
      have HF : Hid (wayL (zs.take k) = wayL zs) := by
        show _ = _
        rw [List.take_of_length_le (by have := HL.out; omega)]
      go_wp2_with fail
      go_ret2
      exact ⟨by rw [HF.out]; rfl, HB.out⟩
/-- What Way answers beside the fault. -/
def wayE (zs : List S3) : Int := if sc zs = 0 then wayL zs else 0
theorem way_calls (u : Value) (zs : List S3) (w : World) (hZ : Row3 w u zs) : Calls Tryz.prog 29 #[u] w fun e w' => e = .returned (.tuple #[.int .i64 (wayE zs), errV (sc zs)]) ∧ Below w.heap.size w w' := by
  by_cases h : sc zs = 0
  · have := way_yes u zs w hZ h
    rw [wayE, if_pos h, h]; exact this
  · have := way_no u zs w hZ h
    rw [wayE, if_neg h]; exact this

theorem takeI_next {xs ys : List Int} {k : Nat} (h : xs.take k = ys.take k) (h1 : k < xs.length) (h2 : k < ys.length) (e : iat xs k = iat ys k) : xs.take (k + 1) = ys.take (k + 1) := by
  rw [List.take_succ_eq_append_getElem h1, List.take_succ_eq_append_getElem h2, h]
  simp [iat, h1, h2] at e
  rw [e]
theorem err_eq (f : Int) (w : World) (hH : Handle w) : Calls Tryz.prog 17 #[errV f, .int .i64 f] w fun e w' => e = .returned (.bool true) ∧ Below w.heap.size w w' := by
  by_cases h : f = 0
  · subst h
    have := same_nil 0 w
    simpa [errV0] using this
  · rw [errV_f h]
    have := same_err f f w hH
    simpa using this

/-- What Left and Lost answer beside the fault. -/
def leftE (zs : List S3) (acks : List R) : List S3 := if both zs acks = 0 then leftL acks zs else []
def lostE (zs : List S3) (acks : List R) (now wait : Int) : List Int := if lostF zs acks now wait = 0 then lostL acks now wait zs else []
theorem IRow.nil (w : World) : IRow w (.slice none 0 0) [] := ⟨none, 0, rfl, by simp, .inl rfl⟩
theorem leftx_calls (u v : Value) (zs : List S3) (acks : List R) (w : World) (hZ : Row3 w u zs) (hR : Row w v acks) :
    Calls Tryz.prog 28 #[u, v] w fun e w' => ∃ u', e = .returned (.tuple #[u', errV (both zs acks)]) ∧ Row3 w' u' (leftE zs acks) ∧ Below w.heap.size w w' := by
  by_cases h : both zs acks = 0
  · rw [leftE, if_pos h, h]
    exact leftx_yes u v zs acks w hZ hR h
  · rw [leftE, if_neg h]
    exact (leftx_no u v zs acks w hZ hR h).mono fun e w' ⟨he, hb⟩ => ⟨_, he, Row3.nil _, hb⟩
theorem lost_calls (u v : Value) (zs : List S3) (acks : List R) (now wait : Int) (w : World) (hZ : Row3 w u zs) (hR : Row w v acks) :
    Calls Tryz.prog 27 #[u, v, .int .i64 now, .int .i64 wait] w fun e w' => ∃ vo, e = .returned (.tuple #[vo, errV (lostF zs acks now wait)]) ∧ IRow w' vo (lostE zs acks now wait) ∧ Below w.heap.size w w' := by
  by_cases h0 : both zs acks = 0
  · by_cases h1 : isT now = true ∧ isW wait = true
    · have e : lostF zs acks now wait = 0 := by rw [lostF, if_pos h0, if_pos h1]
      rw [lostE, if_pos e, e]
      exact lost_yes u v zs acks now wait w hZ hR h0 h1.1 h1.2
    · have e : lostF zs acks now wait = 1 := by rw [lostF, if_pos h0, if_neg h1]
      rw [lostE, e, if_neg (by decide)]
      exact (lost_range u v zs acks now wait w hZ hR h0 h1).mono fun e w' ⟨he, hb⟩ => ⟨_, he, IRow.nil _, hb⟩
  · have e : lostF zs acks now wait = both zs acks := by rw [lostF, if_neg h0]
    rw [lostE, e, if_neg h0]
    exact (lost_no u v zs acks now wait w hZ hR h0).mono fun e w' ⟨he, hb⟩ => ⟨_, he, IRow.nil _, hb⟩

/-- The law's own two rows: packets in v, integers in x, not below the block B, and apart. -/
structure Duo (w : World) (B : Nat) (v : Value) (L : List S3) (x : Value) (X : List Int) : Prop where
  r1 : w.ownsRow B 77 3 v L.length (flat3 L)
  r2 : w.ownsRow B 3 1 x X.length (ints X)
  ne : ∀ k, v.ownBlock = some k → x.ownBlock = some k → False
  le : B ≤ w.heap.size
theorem Duo.new (w : World) : Duo w w.heap.size (.slice none 0 0) [] (.slice none 0 0) [] := ⟨World.ownsRow_nil _ _ _ _, World.ownsRow_nil _ _ _ _, (fun k h => by cases h), Nat.le_refl _⟩
section
variable {w w' : World} {B : Nat} {v v' x x' : Value} {L : List S3} {X : List Int}
theorem Duo.below (h : Duo w B v L x X) (hb : Below w.heap.size w w') : Duo w' B v L x X := ⟨own_below' h.r1 hb, own_below' h.r2 hb, h.ne, Nat.le_trans h.le hb.size⟩
theorem Duo.lt1 (h : Duo w B v L x X) {k : Nat} (e : v.ownBlock = some k) : B ≤ k ∧ k < w.heap.size := h.r1.lt k e
theorem Duo.lt2 (h : Duo w B v L x X) {k : Nat} (e : x.ownBlock = some k) : B ≤ k ∧ k < w.heap.size := h.r2.lt k e
theorem Duo.app1 (h : Duo w B v L x X) {s : S3} (ho : w'.ownsRow B 77 3 v' (L.length + 1) (flat3 L ++ flat3 [s])) (hg : w.grownBy w' v.ownBlock) (hv : v'.ownBlock = v.ownBlock ∨ v'.ownBlock = some w.heap.size) : Duo w' B v' (L ++ [s]) x X := by
  refine ⟨by rw [flat3_append]; simpa using ho, h.r2.kept hg ?_, fun k e1 e2 => ?_, Nat.le_trans h.le hg.size⟩
  · cases e : x.ownBlock with
    | none => exact .inl rfl
    | some k => exact .inr fun e2 => h.ne k e2.symm e
  · rcases hv with e | e
    · exact h.ne k (e ▸ e1) e2
    · rw [e] at e1
      have := Option.some.inj e1
      have := (h.lt2 e2).2
      omega
theorem Duo.app2 (h : Duo w B v L x X) {n : Int} (ho : w'.ownsRow B 3 1 x' (X.length + 1) (ints X ++ ints [n])) (hg : w.grownBy w' x.ownBlock) (hv : x'.ownBlock = x.ownBlock ∨ x'.ownBlock = some w.heap.size) : Duo w' B v L x' (X ++ [n]) := by
  refine ⟨h.r1.kept hg ?_, by rw [ints_append]; simpa using ho, fun k e1 e2 => ?_, Nat.le_trans h.le hg.size⟩
  · cases e : v.ownBlock with
    | none => exact .inl rfl
    | some k => exact .inr fun e2 => h.ne k e e2.symm
  · rcases hv with e | e
    · exact h.ne k e1 (e ▸ e2)
    · rw [e] at e2
      have := Option.some.inj e2
      have := (h.lt1 e1).2
      omega
end
theorem cell_three_new (w : World) (s : S3) (t : TypeId) : ∀ (j : Nat) (u' : Value), (flat3 [s])[j]? = some u' → (w.alloc (.cells #[.int .i64 s.1, .int .i64 s.2.1, .int .i64 s.2.2] t)).cell? ((⟨w.heap.size, 0, none⟩ : Addr).add j) = some u' := by
  intro j u' h
  rw [Addr.add_lit]
  match j, h with
  | 0, h => simp [flat3, enc3] at h; subst h; simp
  | 1, h => simp [flat3, enc3] at h; subst h; simp
  | 2, h => simp [flat3, enc3] at h; subst h; simp
  | j + 3, h => simp [flat3, enc3] at h
end Go.Proofs.YtoabfilliiopmaaGreatDoor.Lx
