/- LossTells' walk, all cases joined. -/
import Derived.Test.YtingcgadolcanaaDoorA1
import Derived.Test.YtingcgadolcanaaDoorB1
import Derived.Test.YtingcgadolcanaaDoorD1
import Derived.Test.YtingcgadolcanaaDoorS
import Derived.Test.YtingcgadolcanaaDoorR
namespace Go.Proofs.YtingcgadolcanaaDoor
open Go.RowKit Go.Lib Go.Sort
set_option linter.unusedVariables false

theorem sc_len {zs : List S3} (h : sc zs ≠ 0) : 0 < zs.length := by
  rcases Nat.eq_zero_or_pos zs.length with h0 | h0
  · rw [List.eq_nil_of_length_eq_zero h0] at h; exact absurd rfl h
  · exact h0
theorem tells_walk {u v : Value} {zs : List S3} {acks : List R} (now wait : Int) {w : World} (hZ : Row3 w u zs) (hR : Row w v acks) (hH : Handle w) :
    Calls Tryd.prog 3 #[u, v, .int .i64 now, .int .i64 wait] w fun e w' => e = .returned (.bool true) ∧ Below w.heap.size w w' := by
  have KR := fun w1 (hb : Below w.heap.size w w1) => rsent_calls u zs w1 (hZ.below hb)
  have KC := fun w1 (hb : Below w.heap.size w w1) => scheck_calls u zs w1 (hZ.below hb)
  have KE := fun w1 (f : Int) (hb : Below w.heap.size w w1) => err_eq f w1 (hH.below hb)
  have KW := fun w1 (hb : Below w.heap.size w w1) => way_calls u zs w1 (hZ.below hb)
  have KN := fun w1 (hb : Below w.heap.size w w1) => rranges_calls v acks w1 (hR.below hb)
  have KI := fun w1 (n : Int) (hb : Below w.heap.size w w1) => rin_calls v acks n w1 (hR.below hb)
  have KL := fun w1 (hb : Below w.heap.size w w1) => leftx_calls u v zs acks w1 (hZ.below hb) (hR.below hb)
  have KO := fun w1 (hb : Below w.heap.size w w1) => lost_calls u v zs acks now wait w1 (hZ.below hb) (hR.below hb)
  obtain ⟨ao, cap, rfl, hl, _, hz⟩ := hZ
  obtain ⟨ro, rc, rfl, hml, _, haz⟩ := hR
  by_cases hs : sc zs = 0
  · have hgood := sc_good hs
    have ew : wayE zs = wayL zs := by rw [wayE, if_pos hs]
    rw [ew] at KW
    by_cases hc : chk acks = 0
    · have hb := both_mk hs hc
      have el : leftE zs acks = leftL acks zs := by rw [leftE, if_pos hb]
      by_cases ht : isT now = true ∧ isW wait = true
      · have hf : lostF zs acks now wait = 0 := by rw [lostF, if_pos hb, if_pos ht]
        have eo : lostE zs acks now wait = lostL acks now wait zs := by rw [lostE, if_pos hf]
        have t1 := (isT_iff now).1 ht.1
        have t2 := (isW_iff wait).1 ht.2
        rw [hs] at KR KC KW
        rw [hc] at KN
        rw [hb, el] at KL
        rw [hf, eo] at KO
        exact tells_D ao zs.length cap ro acks.length rc now wait w zs rfl hgood.1 hgood.2.1 hz _ rfl acks rfl hml haz (by omega) (by omega) (by omega) (by omega) KR KC KE KW KN KL KO KI
      · have hf : lostF zs acks now wait = 1 := by rw [lostF, if_pos hb, if_neg ht]
        have eo : lostE zs acks now wait = [] := by rw [lostE, hf, if_neg (by decide)]
        have hor : now < 0 ∨ (¬ now < 0 ∧ 100000 < now) ∨ (¬ now < 0 ∧ ¬ 100000 < now ∧ wait < 1) ∨ (¬ now < 0 ∧ ¬ 100000 < now ∧ ¬ wait < 1 ∧ 100000 < wait) := by
          rw [isT_iff, isW_iff] at ht
          omega
        rw [hs] at KR KC KW
        rw [hc] at KN
        rw [hb, el] at KL
        rw [hf, eo] at KO
        exact tells_C ao zs.length cap ro acks.length rc now wait w zs rfl hgood.1 hgood.2.1 hz _ rfl acks rfl hml haz hor KR KC KE KW KN KL KO KI
    · have hb : both zs acks = chk acks := by rw [both, if_pos hs]
      have el : leftE zs acks = [] := by rw [leftE, if_neg (by rw [hb]; exact hc)]
      have hf : lostF zs acks now wait = chk acks := by rw [lostF, if_neg (by rw [hb]; exact hc), hb]
      have eo : lostE zs acks now wait = [] := by rw [lostE, if_neg (by rw [hf]; exact hc)]
      rw [hs] at KR KC KW
      rw [hb, el] at KL
      rw [hf, eo] at KO
      exact tells_B ao zs.length cap ro acks.length rc now wait w zs rfl hgood.1 hgood.2.1 hz _ rfl (chk acks) hc KR KC KE KW KN KL KO
  · have hb : both zs acks = sc zs := by rw [both, if_neg hs]
    have ew : wayE zs = 0 := by rw [wayE, if_neg hs]
    have el : leftE zs acks = [] := by rw [leftE, if_neg (by rw [hb]; exact hs)]
    have hf : lostF zs acks now wait = sc zs := by rw [lostF, if_neg (by rw [hb]; exact hs), hb]
    have eo : lostE zs acks now wait = [] := by rw [lostE, if_neg (by rw [hf]; exact hs)]
    rw [ew] at KW
    rw [hb, el] at KL
    rw [hf, eo] at KO
    exact tells_A ao zs.length cap ro acks.length rc now wait (sc zs) w (sc_len hs) hl hs KR KC KE KW KL KO
end Go.Proofs.YtingcgadolcanaaDoor
