/- The walk of the law PacketTells. -/
import Derived.Test.YtjpdembofiadbaaDoorQL
import Derived.Test.YtjpdembofiadbaaDoorQM
import Derived.Test.YtjpdembofiadbaaDoorK
namespace Go.Proofs.YtjpdembofiadbaaDoor
open Go.RowKit Go.Lib Go.Sort
set_option linter.unusedVariables false
set_option linter.unusedSimpArgs false
set_option linter.unusedSimpArgs false

set_option maxRecDepth 100000 in
set_option maxHeartbeats 4000000 in
theorem tells_yy (n k next : Int) (v : Value) (l : List F) (b : ByteArray) (w : World) (hH : (V.Forms w ∧ Cnts w) ∧ Handle w) (hR : FRow w v l) (hb : b.size ≤ 9223372036854775807) (h1 : pkF n k l = 0) (h2 : opF b next = 0) : Calls Tryd.prog 3 #[.int .i64 n, .int .i64 k, v, .string b, .int .i64 next] w fun e w' => e = .returned (.bool true) ∧ Below w.heap.size w w' := by
  have CP := fun W (hb' : Below w.heap.size w W) => dpkt_ok n k v l W (hR.below hb') h1
  have CQ := fun W (hb' : Below w.heap.size w W) => pkt_print_ok n k v l W (hH.1.1.below hb') (hH.1.2.below hb') (hR.below hb') h1
  have CE := fun W (hb' : Below w.heap.size w W) => same_nil 0 W
  have hss : ((pkS n k l).toList == (pkS n k l).toList) = true := by simp
  generalize pkS n k l = sp at *
  obtain ⟨hm, h200, n0, l0, hrd⟩ := opF_yes h2
  have CO := fun W (hb' : Below w.heap.size w W) => dopen_yes b next W hm h200 n0 l0 hrd
  have CX := fun W (hb' : Below w.heap.size w W) => pkt_parse_yes b next W (hH.1.1.below hb') (hH.1.2.below hb') hm h200 n0 l0 hrd
  have CE2 := fun W (hb' : Below w.heap.size w W) => same_nil 0 W
  obtain ⟨c0, hrn, hfn⟩ := rdP_yes hrd
  have hl0 : l0.length ≤ 12 := by
    cases hq : rdL (b.extract c0 b.size) with
    | none => rw [hq] at hfn; cases hfn
    | some y =>
      rw [hq] at hfn
      simp only [fin, Option.bind_some] at hfn
      split at hfn
      · cases hfn
      · cases hfn; omega
  clear hrd hm h200 hrn hfn
  obtain ⟨ao, c, rfl⟩ := hR.shape
  have hB0 : Below w.heap.size w w := Below.refl _ w
  clear hH hR h1 h2 hb
  generalize l.length = m at *
  obtain ⟨w0, hw0⟩ : ∃ w0, w0 = w := ⟨_, rfl⟩
  have hB0' : Below w.heap.size w w0 := by rw [hw0]; exact hB0
  have CP0 := CP w0 hB0'
  rw [hw0] at CP0
  clear CP hw0 hB0'
  go_enter Tryd.func3, Tryd.ntmps3
  go_wp2_with fail
  refine CP0.mono ?_
  rintro e w1 ⟨rfl, hb1⟩
  have hB1 := hB0.trans (hb1.mono hB0.size)
  clear CP0 hb1 hB0
  go_wp2_with fail
  refine (CQ w1 hB1).mono ?_
  rintro e w2 ⟨rfl, hb2⟩
  have hB2 := hB1.trans (hb2.mono hB1.size)
  clear CQ hb2 hB1
  go_wp2_with fail
  refine (CE w2 hB2).mono ?_
  rintro e w3 ⟨rfl, hb3⟩
  have hB3 := hB2.trans (hb3.mono hB2.size)
  clear CE hb3 hB2
  go_wp2_with fail
  refine (CO w3 hB3).mono ?_
  rintro e w4 ⟨vx, ux, rfl, hox, hb4⟩
  obtain ⟨ax, cx, hvx⟩ := own_shape hox.own
  subst hvx
  have hB4 := hB3.trans (hb4.mono hB3.size)
  clear CO hb4 hB3
  go_wp2_with fail
  refine (CX w4 hB4).mono ?_
  rintro e w5 ⟨vy, uy, rfl, hoy, hb5⟩
  obtain ⟨ay, cy, hvy⟩ := own_shape hoy.own
  subst hvy
  have hB5 := hB4.trans (hb5.mono hB4.size)
  have rx := (hox.below hb5).row (by omega)
  have ry := hoy.row (by omega)
  have CS := fun W (hb' : Below w5.heap.size w5 W) => sameFs_calls _ _ l0 W (ry.below hb') (rx.below hb')
  clear CX hb5 hB4 hox hoy rx ry
  generalize l0.length = m0 at *
  go_wp2_with fail
  refine (CE2 w5 hB5).mono ?_
  rintro e w6 ⟨rfl, hb6⟩
  have hB6 := hB5.trans (hb6.mono hB5.size)
  have CS6 := CS w6 hb6
  clear CE2 CS hb6 hB5
  go_wp2_with (first | (go_at_call 11; refine CS6.mono ?_; rintro e w7 ⟨rfl, hb7⟩; have hB7 := hB6.trans (hb7.mono hB6.size)))
  go_ret
  exact ⟨by simp, hB7⟩

set_option maxRecDepth 100000 in
set_option maxHeartbeats 4000000 in
theorem tells_yn (n k next : Int) (v : Value) (l : List F) (b : ByteArray) (w : World) (hH : (V.Forms w ∧ Cnts w) ∧ Handle w) (hR : FRow w v l) (hb : b.size ≤ 9223372036854775807) (h1 : pkF n k l = 0) (h2 : opF b next ≠ 0) : Calls Tryd.prog 3 #[.int .i64 n, .int .i64 k, v, .string b, .int .i64 next] w fun e w' => e = .returned (.bool true) ∧ Below w.heap.size w w' := by
  have CP := fun W (hb' : Below w.heap.size w W) => dpkt_ok n k v l W (hR.below hb') h1
  have CQ := fun W (hb' : Below w.heap.size w W) => pkt_print_ok n k v l W (hH.1.1.below hb') (hH.1.2.below hb') (hR.below hb') h1
  have CE := fun W (hb' : Below w.heap.size w W) => same_nil 0 W
  have hss : ((pkS n k l).toList == (pkS n k l).toList) = true := by simp
  generalize pkS n k l = sp at *
  have CO := fun W (hb' : Below w.heap.size w W) => dopen_no b next W hb h2
  have CX := fun W (hb' : Below w.heap.size w W) => pkt_parse_no b next W (hH.1.1.below hb') (hH.1.2.below hb') hb h2
  rw [show errV (opF b next) = .iface 48 (.int .i64 (opF b next)) by simp [errV, h2]] at CX
  generalize opF b next = g at *
  have CE2 := fun W (hb' : Below w.heap.size w W) => same_err g g W (hH.2.below hb')
  obtain ⟨ao, c, rfl⟩ := hR.shape
  have hB0 : Below w.heap.size w w := Below.refl _ w
  clear hH hR h1 h2 hb
  generalize l.length = m at *
  obtain ⟨w0, hw0⟩ : ∃ w0, w0 = w := ⟨_, rfl⟩
  have hB0' : Below w.heap.size w w0 := by rw [hw0]; exact hB0
  have CP0 := CP w0 hB0'
  rw [hw0] at CP0
  clear CP hw0 hB0'
  go_enter Tryd.func3, Tryd.ntmps3
  go_wp2_with fail
  refine CP0.mono ?_
  rintro e w1 ⟨rfl, hb1⟩
  have hB1 := hB0.trans (hb1.mono hB0.size)
  clear CP0 hb1 hB0
  go_wp2_with fail
  refine (CQ w1 hB1).mono ?_
  rintro e w2 ⟨rfl, hb2⟩
  have hB2 := hB1.trans (hb2.mono hB1.size)
  clear CQ hb2 hB1
  go_wp2_with fail
  refine (CE w2 hB2).mono ?_
  rintro e w3 ⟨rfl, hb3⟩
  have hB3 := hB2.trans (hb3.mono hB2.size)
  clear CE hb3 hB2
  go_wp2_with fail
  refine (CO w3 hB3).mono ?_
  rintro e w4 ⟨rfl, hb4⟩
  have hB4 := hB3.trans (hb4.mono hB3.size)
  clear CO hb4 hB3
  go_wp2_with fail
  refine (CX w4 hB4).mono ?_
  rintro e w5 ⟨rfl, hb5⟩
  have hB5 := hB4.trans (hb5.mono hB4.size)
  clear CX hb5 hB4
  have CS := fun W (hb' : Below w5.heap.size w5 W) => sameFs_calls (.slice none 0 0) (.slice none 0 0) [] W (FRow.nil W) (FRow.nil W)
  go_wp2_with fail
  refine (CE2 w5 hB5).mono ?_
  rintro e w6 ⟨rfl, hb6⟩
  have hB6 := hB5.trans (hb6.mono hB5.size)
  have CS6 := CS w6 hb6
  clear CE2 CS hb6 hB5
  go_wp2_with (first | (go_at_call 11; refine CS6.mono ?_; rintro e w7 ⟨rfl, hb7⟩; have hB7 := hB6.trans (hb7.mono hB6.size)))
  go_ret
  exact ⟨by simp, hB7⟩

set_option maxRecDepth 100000 in
set_option maxHeartbeats 4000000 in
theorem tells_ny (n k next : Int) (v : Value) (l : List F) (b : ByteArray) (w : World) (hH : (V.Forms w ∧ Cnts w) ∧ Handle w) (hR : FRow w v l) (hb : b.size ≤ 9223372036854775807) (h1 : pkF n k l ≠ 0) (h2 : opF b next = 0) : Calls Tryd.prog 3 #[.int .i64 n, .int .i64 k, v, .string b, .int .i64 next] w fun e w' => e = .returned (.bool true) ∧ Below w.heap.size w w' := by
  have CP := fun W (hb' : Below w.heap.size w W) => dpkt_no n k v l W (hR.below hb') h1
  have CQ := fun W (hb' : Below w.heap.size w W) => pkt_print_no n k v l W (hH.1.1.below hb') (hH.1.2.below hb') (hR.below hb') h1
  rw [show errV (pkF n k l) = .iface 48 (.int .i64 (pkF n k l)) by simp [errV, h1]] at CQ
  generalize pkF n k l = f at *
  have CE := fun W (hb' : Below w.heap.size w W) => same_err f f W (hH.2.below hb')
  obtain ⟨hm, h200, n0, l0, hrd⟩ := opF_yes h2
  have CO := fun W (hb' : Below w.heap.size w W) => dopen_yes b next W hm h200 n0 l0 hrd
  have CX := fun W (hb' : Below w.heap.size w W) => pkt_parse_yes b next W (hH.1.1.below hb') (hH.1.2.below hb') hm h200 n0 l0 hrd
  have CE2 := fun W (hb' : Below w.heap.size w W) => same_nil 0 W
  obtain ⟨c0, hrn, hfn⟩ := rdP_yes hrd
  have hl0 : l0.length ≤ 12 := by
    cases hq : rdL (b.extract c0 b.size) with
    | none => rw [hq] at hfn; cases hfn
    | some y =>
      rw [hq] at hfn
      simp only [fin, Option.bind_some] at hfn
      split at hfn
      · cases hfn
      · cases hfn; omega
  clear hrd hm h200 hrn hfn
  obtain ⟨ao, c, rfl⟩ := hR.shape
  have hB0 : Below w.heap.size w w := Below.refl _ w
  clear hH hR h1 h2 hb
  generalize l.length = m at *
  obtain ⟨w0, hw0⟩ : ∃ w0, w0 = w := ⟨_, rfl⟩
  have hB0' : Below w.heap.size w w0 := by rw [hw0]; exact hB0
  have CP0 := CP w0 hB0'
  rw [hw0] at CP0
  clear CP hw0 hB0'
  go_enter Tryd.func3, Tryd.ntmps3
  go_wp2_with fail
  refine CP0.mono ?_
  rintro e w1 ⟨rfl, hb1⟩
  have hB1 := hB0.trans (hb1.mono hB0.size)
  clear CP0 hb1 hB0
  go_wp2_with fail
  refine (CQ w1 hB1).mono ?_
  rintro e w2 ⟨rfl, hb2⟩
  have hB2 := hB1.trans (hb2.mono hB1.size)
  clear CQ hb2 hB1
  go_wp2_with fail
  refine (CE w2 hB2).mono ?_
  rintro e w3 ⟨rfl, hb3⟩
  have hB3 := hB2.trans (hb3.mono hB2.size)
  clear CE hb3 hB2
  go_wp2_with fail
  refine (CO w3 hB3).mono ?_
  rintro e w4 ⟨vx, ux, rfl, hox, hb4⟩
  obtain ⟨ax, cx, hvx⟩ := own_shape hox.own
  subst hvx
  have hB4 := hB3.trans (hb4.mono hB3.size)
  clear CO hb4 hB3
  go_wp2_with fail
  refine (CX w4 hB4).mono ?_
  rintro e w5 ⟨vy, uy, rfl, hoy, hb5⟩
  obtain ⟨ay, cy, hvy⟩ := own_shape hoy.own
  subst hvy
  have hB5 := hB4.trans (hb5.mono hB4.size)
  have rx := (hox.below hb5).row (by omega)
  have ry := hoy.row (by omega)
  have CS := fun W (hb' : Below w5.heap.size w5 W) => sameFs_calls _ _ l0 W (ry.below hb') (rx.below hb')
  clear CX hb5 hB4 hox hoy rx ry
  generalize l0.length = m0 at *
  go_wp2_with fail
  refine (CE2 w5 hB5).mono ?_
  rintro e w6 ⟨rfl, hb6⟩
  have hB6 := hB5.trans (hb6.mono hB5.size)
  have CS6 := CS w6 hb6
  clear CE2 CS hb6 hB5
  go_wp2_with (first | (go_at_call 11; refine CS6.mono ?_; rintro e w7 ⟨rfl, hb7⟩; have hB7 := hB6.trans (hb7.mono hB6.size)))
  go_ret
  exact ⟨by simp, hB7⟩

set_option maxRecDepth 100000 in
set_option maxHeartbeats 4000000 in
theorem tells_nn (n k next : Int) (v : Value) (l : List F) (b : ByteArray) (w : World) (hH : (V.Forms w ∧ Cnts w) ∧ Handle w) (hR : FRow w v l) (hb : b.size ≤ 9223372036854775807) (h1 : pkF n k l ≠ 0) (h2 : opF b next ≠ 0) : Calls Tryd.prog 3 #[.int .i64 n, .int .i64 k, v, .string b, .int .i64 next] w fun e w' => e = .returned (.bool true) ∧ Below w.heap.size w w' := by
  have CP := fun W (hb' : Below w.heap.size w W) => dpkt_no n k v l W (hR.below hb') h1
  have CQ := fun W (hb' : Below w.heap.size w W) => pkt_print_no n k v l W (hH.1.1.below hb') (hH.1.2.below hb') (hR.below hb') h1
  rw [show errV (pkF n k l) = .iface 48 (.int .i64 (pkF n k l)) by simp [errV, h1]] at CQ
  generalize pkF n k l = f at *
  have CE := fun W (hb' : Below w.heap.size w W) => same_err f f W (hH.2.below hb')
  have CO := fun W (hb' : Below w.heap.size w W) => dopen_no b next W hb h2
  have CX := fun W (hb' : Below w.heap.size w W) => pkt_parse_no b next W (hH.1.1.below hb') (hH.1.2.below hb') hb h2
  rw [show errV (opF b next) = .iface 48 (.int .i64 (opF b next)) by simp [errV, h2]] at CX
  generalize opF b next = g at *
  have CE2 := fun W (hb' : Below w.heap.size w W) => same_err g g W (hH.2.below hb')
  obtain ⟨ao, c, rfl⟩ := hR.shape
  have hB0 : Below w.heap.size w w := Below.refl _ w
  clear hH hR h1 h2 hb
  generalize l.length = m at *
  obtain ⟨w0, hw0⟩ : ∃ w0, w0 = w := ⟨_, rfl⟩
  have hB0' : Below w.heap.size w w0 := by rw [hw0]; exact hB0
  have CP0 := CP w0 hB0'
  rw [hw0] at CP0
  clear CP hw0 hB0'
  go_enter Tryd.func3, Tryd.ntmps3
  go_wp2_with fail
  refine CP0.mono ?_
  rintro e w1 ⟨rfl, hb1⟩
  have hB1 := hB0.trans (hb1.mono hB0.size)
  clear CP0 hb1 hB0
  go_wp2_with fail
  refine (CQ w1 hB1).mono ?_
  rintro e w2 ⟨rfl, hb2⟩
  have hB2 := hB1.trans (hb2.mono hB1.size)
  clear CQ hb2 hB1
  go_wp2_with fail
  refine (CE w2 hB2).mono ?_
  rintro e w3 ⟨rfl, hb3⟩
  have hB3 := hB2.trans (hb3.mono hB2.size)
  clear CE hb3 hB2
  go_wp2_with fail
  refine (CO w3 hB3).mono ?_
  rintro e w4 ⟨rfl, hb4⟩
  have hB4 := hB3.trans (hb4.mono hB3.size)
  clear CO hb4 hB3
  go_wp2_with fail
  refine (CX w4 hB4).mono ?_
  rintro e w5 ⟨rfl, hb5⟩
  have hB5 := hB4.trans (hb5.mono hB4.size)
  clear CX hb5 hB4
  have CS := fun W (hb' : Below w5.heap.size w5 W) => sameFs_calls (.slice none 0 0) (.slice none 0 0) [] W (FRow.nil W) (FRow.nil W)
  go_wp2_with fail
  refine (CE2 w5 hB5).mono ?_
  rintro e w6 ⟨rfl, hb6⟩
  have hB6 := hB5.trans (hb6.mono hB5.size)
  have CS6 := CS w6 hb6
  clear CE2 CS hb6 hB5
  go_wp2_with (first | (go_at_call 11; refine CS6.mono ?_; rintro e w7 ⟨rfl, hb7⟩; have hB7 := hB6.trans (hb7.mono hB6.size)))
  go_ret
  exact ⟨by simp, hB7⟩

theorem tells_walk (n k : Int) (b : ByteArray) (next : Int) {v : Value} {l : List F} {w : World} (hR : FRow w v l) (hb : b.size ≤ maxLen) (_ : b.size ≤ 2 ^ 47) (hH : (V.Forms w ∧ Cnts w) ∧ Handle w) : Calls Tryd.prog 3 #[.int .i64 n, .int .i64 k, v, .string b, .int .i64 next] w fun e w' => e = .returned (.bool true) ∧ Below w.heap.size w w' := by
  have hb' : b.size ≤ 9223372036854775807 := hb
  by_cases h1 : pkF n k l = 0
  · by_cases h2 : opF b next = 0
    · exact tells_yy n k next v l b w hH hR hb' h1 h2
    · exact tells_yn n k next v l b w hH hR hb' h1 h2
  · by_cases h2 : opF b next = 0
    · exact tells_ny n k next v l b w hH hR hb' h1 h2
    · exact tells_nn n k next v l b w hH hR hb' h1 h2
end Go.Proofs.YtjpdembofiadbaaDoor
