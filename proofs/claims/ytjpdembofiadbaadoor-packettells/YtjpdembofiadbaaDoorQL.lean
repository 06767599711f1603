/- What the document's Packet answers. -/
import Derived.Test.YtjpdembofiadbaaDoorQD
import Derived.Test.YtjpdembofiadbaaDoorFU
import Derived.Test.YtjpdembofiadbaaDoorFT
import Derived.Maps.AppendAt
import Derived.Deep.LoopGhost
namespace Go.Proofs.YtjpdembofiadbaaDoor
open Go.RowKit Go.Lib Go.Sort
set_option linter.unusedVariables false
set_option linter.unusedSimpArgs false
set_option linter.unusedSimpArgs false


/-- 256 so many times, from none to three. -/
def pw (i : Nat) : Int := if i = 0 then 1 else if i = 1 then 256 else if i = 2 then 65536 else 16777216
theorem pw_bd (i : Nat) : 1 ≤ pw i ∧ pw i ≤ 16777216 := by unfold pw; repeat' split <;> omega
theorem round_any (i : Nat) (h : i ≤ 3) (w : World) : Calls Tryd.prog 14 #[.int .i64 (i : Int)] w fun e w' => e = .returned (.int .i64 (pw i)) ∧ w' = w := by
  rcases (show i = 0 ∨ i = 1 ∨ i = 2 ∨ i = 3 by omega) with rfl | rfl | rfl | rfl
  · exact U.round_0 w
  · exact U.round_1 w
  · exact U.round_2 w
  · exact U.round_3 w
theorem numB_at {n : Int} {B j : Nat} (h1 : 1 ≤ B) (h4 : B ≤ 4) (hj : j < B) : (numB n (B : Int))[j]?.getD 0 = n / pw (B - 1 - j) % 256 := by
  rcases (show B = 1 ∨ B = 2 ∨ B = 3 ∨ B = 4 by omega) with rfl | rfl | rfl | rfl
  · obtain rfl : j = 0 := by omega
    simp [numB, pw]
  · rcases (show j = 0 ∨ j = 1 by omega) with rfl | rfl <;> simp [numB, pw]
  · rcases (show j = 0 ∨ j = 1 ∨ j = 2 by omega) with rfl | rfl | rfl <;> simp [numB, pw]
  · rcases (show j = 0 ∨ j = 1 ∨ j = 2 ∨ j = 3 by omega) with rfl | rfl | rfl | rfl <;> simp [numB, pw]
theorem strCells_nums {xs : List Int} (h : Bytes xs) : strCells (strOfNums xs) = xs.map (Value.int .u8) := by
  have e : V.ints (strOfNums xs) = xs := V.ints_nums xs h
  have e2 : strCells (strOfNums xs) = (V.ints (strOfNums xs)).map (Value.int .u8) := by
    simp [strCells, V.ints]
  rw [e2, e]
set_option maxRecDepth 100000 in
set_option maxHeartbeats 4000000 in
theorem dpkt_a (n k : Int) (ao : Option Addr) (m c : Nat) (w : World) (h : U.mayB n = false) : Calls Tryd.prog 6 #[.int .i64 n, .int .i64 k, .slice ao m c] w fun e w' => e = .returned (.tuple #[.string { data := #[] }, .int .i64 1]) ∧ Below w.heap.size w w' := by
  have HM := fun W => U.rmay n W
  simp only [h] at HM
  clear h
  go_enter Tryd.func6, Tryd.ntmps6
  go_wp2_with (first | (go_at_call 12; refine (HM _).mono ?_; rintro e w1 ⟨rfl, rfl⟩))
  go_ret2
  exact ⟨rfl, Below.refl _ _⟩
set_option maxRecDepth 100000 in
set_option maxHeartbeats 4000000 in
theorem dpkt_b (n k : Int) (ao : Option Addr) (m c : Nat) (w : World) (h : U.mayB n = true) (h1 : k < -1) : Calls Tryd.prog 6 #[.int .i64 n, .int .i64 k, .slice ao m c] w fun e w' => e = .returned (.tuple #[.string { data := #[] }, .int .i64 1]) ∧ Below w.heap.size w w' := by
  have HM := fun W => U.rmay n W
  simp only [h] at HM
  clear h
  go_enter Tryd.func6, Tryd.ntmps6
  go_wp2_with (first | (go_at_call 12; refine (HM _).mono ?_; rintro e w1 ⟨rfl, rfl⟩))
  go_ret2
  exact ⟨rfl, Below.refl _ _⟩
set_option maxRecDepth 100000 in
set_option maxHeartbeats 4000000 in
theorem dpkt_c (n k : Int) (ao : Option Addr) (m c : Nat) (w : World) (h : U.mayB n = true) (h1 : ¬ k < -1) (h2 : n ≤ k) : Calls Tryd.prog 6 #[.int .i64 n, .int .i64 k, .slice ao m c] w fun e w' => e = .returned (.tuple #[.string { data := #[] }, .int .i64 1]) ∧ Below w.heap.size w w' := by
  have HM := fun W => U.rmay n W
  simp only [h] at HM
  clear h
  go_enter Tryd.func6, Tryd.ntmps6
  go_wp2_with (first | (go_at_call 12; refine (HM _).mono ?_; rintro e w1 ⟨rfl, rfl⟩))
  go_ret2
  exact ⟨rfl, Below.refl _ _⟩
set_option maxRecDepth 100000 in
set_option maxHeartbeats 4000000 in
theorem dpkt_e (n k : Int) (ao : Option Addr) (m c : Nat) (w : World) (hp : U.pairB n k = true) (h : 12 < m) (hl : m ≤ 9223372036854775807) : Calls Tryd.prog 6 #[.int .i64 n, .int .i64 k, .slice ao m c] w fun e w' => e = .returned (.tuple #[.string { data := #[] }, .int .i64 4]) ∧ Below w.heap.size w w' := by
  have HM := fun W => U.rmay n W
  obtain ⟨a0, a1, a2, a3⟩ := U.pairB_yes hp
  simp only [(U.mayB_iff n).2 ⟨a0, a1⟩] at HM
  have g1 : ¬ k < -1 := by omega
  have g2 : ¬ n ≤ k := by omega
  clear hp
  have g3 : ¬ (m : Int) = 0 := by omega
  have g4 : (12 : Int) < (m : Int) := by omega
  go_enter Tryd.func6, Tryd.ntmps6
  go_wp2_with (first | (go_at_call 12; refine (HM _).mono ?_; rintro e w1 ⟨rfl, rfl⟩))
  go_ret2
  exact ⟨rfl, Below.refl _ _⟩
set_option maxRecDepth 100000 in
set_option maxHeartbeats 4000000 in
theorem dpkt_d (n k : Int) (ao : Option Addr) (c : Nat) (w : World) (hp : U.pairB n k = true) : Calls Tryd.prog 6 #[.int .i64 n, .int .i64 k, .slice ao 0 c] w fun e w' => e = .returned (.tuple #[.string { data := #[] }, .int .i64 5]) ∧ Below w.heap.size w w' := by
  have HM := fun W => U.rmay n W
  obtain ⟨a0, a1, a2, a3⟩ := U.pairB_yes hp
  simp only [(U.mayB_iff n).2 ⟨a0, a1⟩] at HM
  have g1 : ¬ k < -1 := by omega
  have g2 : ¬ n ≤ k := by omega
  clear hp
  go_enter Tryd.func6, Tryd.ntmps6
  go_wp2_with (first | (go_at_call 12; refine (HM _).mono ?_; rintro e w1 ⟨rfl, rfl⟩))
  go_ret2
  exact ⟨rfl, Below.refl _ _⟩
set_option maxRecDepth 100000 in
set_option maxHeartbeats 4000000 in
theorem dpkt_go (n k : Int) (b off m c : Nat) (l : List F) (w : World) (hp : U.pairB n k = true) (hlen : l.length = m) (h0 : 1 ≤ m) (h12 : m ≤ 12) (hb : b < w.heap.size) (hc : FCells w b off l) :
    Calls Tryd.prog 6 #[.int .i64 n, .int .i64 k, .slice (some ⟨b, off, none⟩) m c] w fun e w' => ((fsF l ≠ 0 ∧ e = .returned (.tuple #[.string { data := #[] }, .int .i64 (fsF l)])) ∨ (fsF l = 0 ∧ 200 < (pkS n k l).size ∧ e = .returned (.tuple #[.string { data := #[] }, .int .i64 4])) ∨ (fsF l = 0 ∧ (pkS n k l).size ≤ 200 ∧ e = .returned (.tuple #[.string (pkS n k l), .int .i64 0]))) ∧ Below w.heap.size w w' := by
  obtain ⟨i0, hi, hz0, hz1, hz2⟩ := info_parts V.info5
  obtain ⟨a0, a1, a2, a3⟩ := U.pairB_yes hp
  have HM : ∀ W, Calls Tryd.prog 12 #[.int .i64 n] W fun e w' => e = .returned (.bool true) ∧ W = w' := fun W => (U.rmay n W).mono fun e w' hh => ⟨by rw [hh.1, (U.mayB_iff n).2 ⟨a0, a1⟩], hh.2.symm⟩
  have HN : ∀ W, Calls Tryd.prog 13 #[.int .i64 n, .int .i64 k] W fun e w' => e = .returned (.int .i64 (U.need n k)) ∧ W = w' := fun W => (U.rneed n k W hp).mono fun e w' hh => ⟨hh.1, hh.2.symm⟩
  have g1 : ¬ k < -1 := by omega
  have g2 : ¬ n ≤ k := by omega
  have g3 : ¬ (m : Int) = 0 := by omega
  have g4 : ¬ (12 : Int) < (m : Int) := by omega
  obtain ⟨B, hB⟩ : ∃ B : Nat, U.need n k = (B : Int) := ⟨(U.need n k).toNat, by have := U.lenB_yes (U.need_len n k); omega⟩
  have hB14 : 1 ≤ B ∧ B ≤ 4 := by have := U.lenB_yes (U.need_len n k); omega
  have HPN : Hid (pkN n k = strOfNums ((B : Int) :: numB n (B : Int))) := by
    show _ = _
    apply ints_inj
    rw [ints_pkN, hB, V.ints_nums]
    intro z hz
    rcases List.mem_cons.1 hz with rfl | hz
    · omega
    · exact numB_bytes n B z hz
  have HNL : Hid ((numB n (B : Int)).length = B) := by
    show _ = _
    have := numB_length (n := n) (U.need_len n k)
    rw [hB] at this
    omega
  rw [hB] at HN
  have HL : Hid (l.length = m) := hlen
  have HC : Hid (FCells w b off l) := hc
  clear hlen hc hp hB
  obtain ⟨b1, b4⟩ := hB14
  have bel : Below w.heap.size w (w.alloc (.cells #[.int .u8 (B : Int)] 5)) := (Below.refl _ w).alloc (Nat.le_refl _) _
  have ow : (w.alloc (.cells #[.int .u8 (B : Int)] 5)).ownsRow w.heap.size 5 1 (.slice (some ⟨w.heap.size, 0, none⟩) 1 1) 1 [.int .u8 (B : Int)] := World.ownsRow_lit (base := w.heap.size) (e := 5) (size := 1) w #[.int .u8 (B : Int)] 1 (Nat.le_refl _) (by decide) rfl
  have HOW : Hid ((w.alloc (.cells #[.int .u8 (B : Int)] 5)).ownsRow w.heap.size 5 1 (.slice (some ⟨w.heap.size, 0, none⟩) 1 1) 1 [.int .u8 (B : Int)]) := ow
  clear ow
  go_enter Tryd.func6, Tryd.ntmps6
  go_wp2_with (first | (go_at_call 12; refine (HM _).mono ?_; rintro e w1 ⟨rfl, rfl⟩) | (go_at_call 13; refine (HN _).mono ?_; rintro e w1 ⟨rfl, rfl⟩))
  go_loopw [10, 11] (fun s i wr => ∃ (j : Nat) (t : Int), j ≤ B ∧ i = .int .i64 t ∧ t = (B : Int) - 1 - (j : Int) ∧ Hid (wr.ownsRow w.heap.size 5 1 s (j + 1) (((B : Int) :: (numB n (B : Int)).take j).map (Value.int .u8))) ∧ Hid (Below w.heap.size w wr)) (fun _ i _ => ((intOf i) + 1).toNat)
  case atStart => exact ⟨0, (B : Int) - 1, Nat.zero_le _, by go_num, by omega, HOW, bel⟩
  case round =>
    obtain ⟨j, t, hj, rfl, ht, HO, HBr⟩ := hrel
    by_cases hlt : j < B
    · have hR : ∀ W, Calls Tryd.prog 14 #[.int .i64 ((B - 1 - j : Nat) : Int)] W fun e w' => e = .returned (.int .i64 (pw (B - 1 - j))) ∧ W = w' := fun W => (round_any (B - 1 - j) (by omega) W).mono fun e w' hh => ⟨hh.1, hh.2.symm⟩
      rw [show ((B - 1 - j : Nat) : Int) = t by omega] at hR
      have hpb := pw_bd (B - 1 - j)
      have HY : Hid ((numB n (B : Int)).take (j + 1) = (numB n (B : Int)).take j ++ [n / pw (B - 1 - j) % 256]) := by
        show _ = _
        rw [List.take_succ_eq_append_getElem (by have := HNL.out; omega), ← numB_at b1 b4 hlt, List.getElem?_eq_getElem]
        rfl
      have t0 : 0 ≤ t := by omega
      have HT : Hid (t = (B : Int) - 1 - (j : Int)) := ht
      clear ht
      generalize pw (B - 1 - j) = r at hR hpb HY
      obtain ⟨r1, r2⟩ := hpb
      have q0 : 0 ≤ n / r := Int.ediv_nonneg a0 (by omega)
      have q1 : n / r ≤ n := Int.ediv_le_self _ a0
      have qt : (n / r).tmod 256 = n / r % 256 := Int.tmod_eq_emod_of_nonneg q0
      have qq : n.tdiv r = n / r := Int.tdiv_eq_ediv_of_nonneg a0
      have m0 : 0 ≤ n / r % 256 := by omega
      have m1 : n / r % 256 < 256 := by omega
      have hBa : Below wr.heap.size wr (wr.alloc (.cells #[.int .u8 (n / r % 256)] 5)) := (Below.refl _ wr).alloc (Nat.le_refl _) _
      have ho2 := own_below HO.out hBa
      have hB2 := HBr.out.trans (hBa.mono HBr.out.size)
      have hle := hB2.size
      have hcn := cell_one_new wr (.int .u8 (n / r % 256)) 5
      have htt : t ≤ 3 := by have := HT.out; omega
      go_wp2_with (first | (go_at_call 14; refine (hR _).mono ?_; rintro e w1 ⟨rfl, rfl⟩) | (at_builtin; refine wpList_append_own_at _ rfl (.tmp 47) (.tmp 54) 42 rfl w.heap.size 5 i0 _ 1 1 Tryd.underlying42 hi hz0 hz1 hz2 rfl (by decide) _ _ _ rfl ho2 ⟨_, 0, none⟩ 1 1 [Value.int .u8 (n / r % 256)] rfl rfl hcn (by intro u hu; simp at hu; subst hu; rfl) (by unfold maxLen; omega) (by omega) hle ?_; intro v5 w5 ho5 hg5 _ hl5))
      have hB5 := hB2.grown hg5 hle (fun k e => (ho2.lt k e).1)
      refine ⟨⟨j + 1, t - 1, by omega, by go_num, by have := HT.out; omega, (show _ from ?_), hB5⟩, by simp [intOf]; have := HT.out; omega⟩
      show Hid _
      rw [HY.out, ← List.cons_append, List.map_append]
      exact ho5
    · obtain rfl : j = B := by omega
      have g5 : t < 0 := by omega
      clear ht
      have hbyt : Bytes (((j : Nat) : Int) :: numB n (j : Int)) := fun z hz => by
        rcases List.mem_cons.1 hz with rfl | hz
        · omega
        · exact numB_bytes n j z hz
      have ho3 := HO.out
      rw [List.take_of_length_le (Nat.le_of_eq HNL.out), ← strCells_nums hbyt, ← HPN.out] at ho3
      have hcv := V.own_string ho3
      have hsn : (pkN n k).size ≤ 5 := by
        rw [HPN.out, strOfNums_size, List.length_cons]
        have := HNL.out
        omega
      clear ho3 hbyt HO HPN HNL HN HM HOW
      obtain ⟨sn, hsn'⟩ : ∃ sn, pkN n k = sn := ⟨_, rfl⟩
      have HSN : Hid (∀ l', pkS n k l' = sn ++ fsS l') := fun l' => by unfold pkS; rw [hsn']
      rw [hsn'] at hcv hsn
      clear hsn'
      go_wp2_with fail
      go_loopg [12, 13] m (fun gg s i wq => ∃ j2 : Nat, j2 ≤ m ∧ m - j2 ≤ gg ∧ i = .int .i64 (j2 : Int) ∧ s = .string (sn ++ fsS (l.take j2)) ∧ Hid (∀ q, q < j2 → fF (fat l q) = 0) ∧ Hid (Below w.heap.size w wq))
      case atStart => exact ⟨0, Nat.zero_le _, by omega, rfl, by rw [show fsS (l.take 0) = { data := #[] } from rfl, ba_nil], (fun q hq => absurd hq (Nat.not_lt_zero _)), HBr⟩
      case round =>
        obtain ⟨j2, hj2, hgg, rfl, rfl, HA, HBq⟩ := hrel
        have hall : ∀ q, q < (l.take j2).length → fF (fat (l.take j2) q) = 0 := fun q hq => by
          rw [List.length_take] at hq
          have := HA.out q (by omega)
          rwa [show fat (l.take j2) q = fat l q by simp [fat, List.getElem?_take, show q < j2 by omega]]
        have hsz1 : (fsS (l.take j2)).size ≤ 1452 := by
          have := fsS_size hall (l.take j2).length (Nat.le_refl _)
          rw [List.take_length, List.length_take] at this
          omega
        clear hall
        by_cases hlt2 : j2 < m
        · have g6 : (j2 : Int) < (m : Int) := by omega
          have hkl : j2 < l.length := by have := HL.out; omega
          have hBq := HBq.out
          obtain ⟨u, x0, x1, x2, r, hd⟩ := HC.out.below hb hBq j2 hkl
          have HNX : Hid (fsS (l.take (j2 + 1)) = fsS (l.take j2) ++ fS (fat l j2)) := fsS_next hkl
          have HAT : Hid (fF (fat l j2) ≠ 0 → fsF l = fF (fat l j2)) := fun hn => fsF_at l j2 hkl HA.out hn
          have HAL : Hid (fF (fat l j2) = 0 → ∀ q, q < j2 + 1 → fF (fat l q) = 0) := fun he q hq => by
            by_cases e : q = j2
            · rw [e]; exact he
            · exact HA.out q (by omega)
          have hlb : b < wr.heap.size := Nat.lt_of_lt_of_le hb hBq.size
          clear hkl
          generalize fat l j2 = f at *
          obtain ⟨kk, ns, d⟩ := f
          simp only at x0 x1 x2 r hd
          have HD := dframe_calls kk u d ns wr r hd
          have HE : Hid (frF kk ns d = fF (kk, ns, d)) := rfl
          by_cases hz : frF kk ns d = 0
          · rw [hz] at HD
            have HY := fun W (hbw : Below wr.heap.size wr W) => dbytes_calls kk u d ns W (r.below hbw) hz
            have hs2 : (frS kk ns d).size ≤ 121 := frS_size hz
            have HA1 : Hid (∀ q, q < j2 + 1 → fF (fat l q) = 0) := HAL.out hz
            have HNs : Hid (fsS (l.take (j2 + 1)) = fsS (l.take j2) ++ frS kk ns d) := HNX.out
            obtain ⟨au, cu, hu, _⟩ := id r
            subst hu
            clear hz HAL HAT HNX HE
            generalize frS kk ns d = sz at *
            obtain ⟨so, hso⟩ : ∃ so, sn ++ fsS (l.take j2) = so := ⟨_, rfl⟩
            have hsos : so.size ≤ 1457 := by rw [← hso, ByteArray.size_append]; omega
            have HSO : Hid (sn ++ fsS (l.take (j2 + 1)) = so ++ sz) := by show _ = _; rw [HNs.out, ← ba_assoc, hso]
            rw [hso]
            clear hso HNs r
            have ta : so.size + sz.size ≤ 9223372036854775807 := by omega
            generalize ns.length = nn at *
            go_wp2_with fail
            refine HD.mono ?_
            rintro e w6 ⟨rfl, hb6⟩
            have hB6 := hBq.trans (hb6.mono hBq.size)
            have HY6 := HY w6 hb6
            have y0 := (hb6.cell (p := ⟨b, off + j2 * 3, none⟩) hlb).trans x0
            have y1 := (hb6.cell (p := ⟨b, off + j2 * 3 + 1, none⟩) hlb).trans x1
            have y2 := (hb6.cell (p := ⟨b, off + j2 * 3 + 2, none⟩) hlb).trans x2
            clear HD HY x0 x1 x2
            go_wp2_with fail
            refine HY6.mono ?_
            rintro e w7 ⟨rfl, hb7⟩
            have hB7 := hB6.trans (hb7.mono hB6.size)
            go_wp2_with fail
            go_roundg (m - (j2 + 1))
            case measure => omega
            case rel => exact ⟨j2 + 1, by omega, Nat.le_refl _, by go_num, by rw [HSO.out], HA1, hB7⟩
          · have HFS : Hid (fsF l = frF kk ns d) := HAT.out hz
            have HZ : Hid (frF kk ns d ≠ 0) := hz
            obtain ⟨au, cu, hu, _⟩ := id r
            subst hu
            clear hz HAL HAT HNX HE r
            obtain ⟨ff, hff⟩ : ∃ ff, frF kk ns d = ff := ⟨_, rfl⟩
            have hfz : ¬ ff = 0 := by rw [← hff]; exact HZ.out
            rw [hff] at HD
            have HFS2 : Hid (fsF l = ff) := by show _ = _; rw [HFS.out, hff]
            clear hff HZ HFS
            generalize ns.length = nn at *
            generalize sn ++ fsS (l.take j2) = so at *
            go_wp2_with fail
            refine HD.mono ?_
            rintro e w6 ⟨rfl, hb6⟩
            have hB6 := hBq.trans (hb6.mono hBq.size)
            go_wp2_with fail
            go_ret2
            exact ⟨.inl ⟨by rw [HFS2.out]; exact hfz, by rw [HFS2.out]; rfl⟩, hB6⟩
        · obtain rfl : j2 = m := by omega
          have g6 : ¬ (j2 : Int) < (j2 : Int) := by omega
          have HT : Hid (l.take j2 = l) := List.take_of_length_le (by have := HL.out; omega)
          have HZ : Hid (fsF l = 0) := fsF_ok l (fun q hq => HA.out q (by have := HL.out; omega))
          have HPK : Hid (pkS n k l = sn ++ fsS (l.take j2)) := by show _ = _; rw [HSN.out, HT.out]
          have hsos : (sn ++ fsS (l.take j2)).size ≤ 1457 := by rw [ByteArray.size_append]; omega
          generalize sn ++ fsS (l.take j2) = so at *
          by_cases h200 : 200 < so.size
          · have g7 : (200 : Int) < (so.size : Int) := by omega
            go_wp2_with fail
            go_ret2
            exact ⟨.inr (.inl ⟨HZ.out, by rw [HPK.out]; exact h200, rfl⟩), HBq.out⟩
          · have g7 : ¬ (200 : Int) < (so.size : Int) := by omega
            go_wp2_with fail
            go_ret2
            exact ⟨.inr (.inr ⟨HZ.out, by rw [HPK.out]; omega, by rw [HPK.out]; rfl⟩), HBq.out⟩
theorem dpkt_no (n k : Int) (v : Value) (l : List F) (w : World) (hR : FRow w v l) (h : pkF n k l ≠ 0) : Calls Tryd.prog 6 #[.int .i64 n, .int .i64 k, v] w fun e w' => e = .returned (.tuple #[.string { data := #[] }, .int .i64 (pkF n k l)]) ∧ Below w.heap.size w w' := by
  obtain ⟨ao, c, rfl, hl, hn, hz⟩ := hR
  cases hp : U.pairB n k with
  | false =>
    rw [show pkF n k l = 1 by simp only [pkF, if_pos hp]]
    rcases U.pairB_no hp with h | ⟨h, h1⟩ | ⟨h, h1, h2⟩
    · exact dpkt_a n k ao _ c w h
    · exact dpkt_b n k ao _ c w h h1
    · exact dpkt_c n k ao _ c w h (by omega) h2
  | true =>
    rw [pkF_eq n k l hp] at h ⊢
    by_cases h0 : l.length = 0
    · rw [show pfF l = 5 by simp only [pfF, if_pos h0], h0]
      exact dpkt_d n k ao c w hp
    · by_cases h1 : 12 < l.length
      · rw [show pfF l = 4 by simp only [pfF, if_neg h0, if_pos h1]]
        exact dpkt_e n k ao _ c w hp h1 hl
      · rw [show pfF l = fsF l by simp only [pfF, if_neg h0, if_neg h1]] at h ⊢
        rcases hz with e | ⟨b, off, rfl, hb, hc⟩
        · rw [e] at h0; exact absurd rfl h0
        · refine (dpkt_go n k b off _ c l w hp rfl (by omega) (by omega) hb hc).mono ?_
          rintro e w' ⟨⟨hh, rfl⟩ | ⟨hh, h3, rfl⟩ | ⟨hh, h3, _⟩, hb⟩
          · rw [if_pos hh]; exact ⟨rfl, hb⟩
          · rw [if_neg (by simp [hh]), if_pos h3]; exact ⟨rfl, hb⟩
          · rw [if_neg (by simp [hh]), if_neg (by omega)] at h; exact absurd rfl h
theorem dpkt_ok (n k : Int) (v : Value) (l : List F) (w : World) (hR : FRow w v l) (h : pkF n k l = 0) : Calls Tryd.prog 6 #[.int .i64 n, .int .i64 k, v] w fun e w' => e = .returned (.tuple #[.string (pkS n k l), .int .i64 0]) ∧ Below w.heap.size w w' := by
  obtain ⟨hp, h1, h2, h3, h4⟩ := pkF_ok h
  obtain ⟨ao, c, rfl, hl, hn, hz⟩ := hR
  rcases hz with e | ⟨b, off, rfl, hb, hc⟩
  · rw [e] at h1; simp at h1
  · refine (dpkt_go n k b off _ c l w hp rfl h1 h2 hb hc).mono ?_
    rintro e w' ⟨⟨hh, _⟩ | ⟨_, h5, _⟩ | ⟨_, _, rfl⟩, hb⟩
    · exact absurd h3 hh
    · omega
    · exact ⟨rfl, hb⟩
end Go.Proofs.YtjpdembofiadbaaDoor
