/- The walk of the law VarintBack. -/
import Derived.Test.YtnkedcpocomeaaaDoorI
namespace Go.Proofs.YtnkedcpocomeaaaDoor
open Go.RowKit Go.Lib
set_option linter.unusedVariables false

/-- The slice a (its length len) holds the numbers zs. -/
def IntsAt (w : World) (a : Option Addr) (len : Nat) (zs : List Int) : Prop :=
  zs.length = len ∧ (len = 0 ∨ ∃ b off, a = some ⟨b, off, none⟩ ∧ b < w.heap.size ∧ ∀ j, j < len → w.cell? ⟨b, off + j, none⟩ = some (.int .i64 (zs[j]?.getD 0)))
theorem IntsAt.below {w w' : World} {a : Option Addr} {len : Nat} {zs : List Int} (h : IntsAt w a len zs) (hb : Below w.heap.size w w') : IntsAt w' a len zs := by
  refine ⟨h.1, ?_⟩
  rcases h.2 with h0 | ⟨b, off, e, hlt, hc⟩
  · exact .inl h0
  · exact .inr ⟨b, off, e, Nat.lt_of_lt_of_le hlt hb.size, fun j hj => (hb.cell (p := ⟨b, off + j, none⟩) hlt).trans (hc j hj)⟩

def allOk (zs : List Int) : Bool := decide (zs.length ≤ 40) && zs.all mayB
def allErr (zs : List Int) : Int := if 40 < zs.length then 4 else 1
theorem all_any (a : Option Addr) (len cap : Nat) (zs : List Int) (w : World) (hF : Forms w) (hI : IntsAt w a len zs) (hm : len ≤ 9223372036854775807) :
    Calls Tryd.prog 14 #[.slice a len cap] w fun e w' =>
      ((allOk zs = true ∧ e = .returned (.tuple #[.string (allS zs), .nilIface])) ∨ (allOk zs = false ∧ e = .returned (.tuple #[.string { data := #[] }, .iface 49 (.int .i64 (allErr zs))]))) ∧ Below w.heap.size w w' := by
  obtain ⟨hl, hI⟩ := hI
  by_cases h40 : 40 < len
  · have e1 : allOk zs = false := by simp [allOk]; omega
    have e2 : allErr zs = 4 := by simp [allErr]; omega
    rw [e1, e2]
    exact (all_full a len cap w h40 hm).mono fun _ _ ⟨he, hb⟩ => ⟨.inr ⟨rfl, he⟩, hb⟩
  · have e2 : allErr zs = 1 := by simp [allErr]; omega
    have e3 : allOk zs = zs.all mayB := by
      have : zs.length ≤ 40 := by omega
      simp [allOk, this]
    rw [e2, e3]
    rcases hI with h0 | ⟨b, off, rfl, hb, hc⟩
    · subst h0
      have : zs = [] := List.eq_nil_of_length_eq_zero hl
      subst this
      exact (all_none a cap w).mono fun _ _ ⟨he, hb⟩ => ⟨.inl ⟨rfl, he⟩, hb⟩
    · exact all_some b off len cap zs w hF hl (by omega) hb hc

theorem str64 : strOfNums (nums 64) = { data := #[64, 64] } := by decide
theorem allS_nil : allS [] = { data := #[] } := rfl
theorem allS_cons (z : Int) (zs : List Int) : allS (z :: zs) = strOfNums (nums z) ++ allS zs := by
  apply ByteArray.ext
  simp [allS, strOfNums]
theorem get_nums (n : Int) (h : mayB n = true) (s : ByteArray) : getI (ints (strOfNums (nums n) ++ s)) = some (n, lng n) := by
  rw [ints_app, ints_nums _ (nums_bd n h), getI_back n h]
theorem get_allS (zs : List Int) (k : Nat) (hk : k < zs.length) (h : mayB (zs[k]?.getD 0) = true) : getI (ints (allS (zs.drop k))) = some (zs[k]?.getD 0, lng (zs[k]?.getD 0)) := by
  have e : zs.drop k = (zs[k]?.getD 0) :: zs.drop (k + 1) := by
    rw [List.drop_eq_getElem_cons hk]; simp [hk]
  rw [e, allS_cons, get_nums _ h]
theorem size_data (s : ByteArray) : s.data.toList.length = s.size := by simp
theorem drop_allS (zs : List Int) (k : Nat) (hk : k < zs.length) : (allS (zs.drop k)).size = (lng (zs[k]?.getD 0)).toNat + (allS (zs.drop (k + 1))).size ∧ (allS (zs.drop k)).extract (lng (zs[k]?.getD 0)).toNat (allS (zs.drop k)).size = allS (zs.drop (k + 1)) := by
  have e : zs.drop k = (zs[k]?.getD 0) :: zs.drop (k + 1) := by
    rw [List.drop_eq_getElem_cons hk]; simp [hk]
  have hs := nums_len (zs[k]?.getD 0)
  generalize zs[k]?.getD 0 = z at *
  generalize zs.drop (k + 1) = t at *
  rw [e, allS_cons]
  have hs' : (lng z).toNat = (strOfNums (nums z)).size := by omega
  rw [hs']
  refine ⟨by simp, ?_⟩
  apply ByteArray.ext
  apply Array.toList_inj.1
  have h1 := size_data (strOfNums (nums z))
  have h2 := size_data (allS t)
  simp
  rw [List.drop_of_length_le (by omega), List.take_nil, List.nil_append, List.take_of_length_le (by omega)]
theorem pre_free (n m : Int) (hn : mayB n = true) (hm : mayB m = true) (hne : m ≠ n) : (strOfNums (nums m)).extract 0 (strOfNums (nums n)).size ≠ strOfNums (nums n) := by
  intro h
  have e1 : ints (strOfNums (nums m)) = ints (strOfNums (nums n)) ++ (ints (strOfNums (nums m))).drop (nums n).length := by
    have h2 : ints ((strOfNums (nums m)).extract 0 (strOfNums (nums n)).size) = (ints (strOfNums (nums m))).take (nums n).length := by
      simp [ints, strOfNums_size, List.map_take]
    rw [h] at h2
    rw [h2, List.take_append_drop]
  rw [ints_nums _ (nums_bd n hn), ints_nums _ (nums_bd m hm)] at e1
  have g1 := getI_back m hm []
  rw [List.append_nil, e1, getI_back n hn] at g1
  simp at g1
  exact hne g1.1.symm

set_option maxRecDepth 100000 in
set_option maxHeartbeats 4000000 in
theorem back_no (n m : Int) (rs : ByteArray) (a : Option Addr) (len cap : Nat) (zs : List Int) (w : World) (hF : Forms w) (hI : IntsAt w a len zs) (hlm : len ≤ maxLen) (hrs : rs.size ≤ 140737488351232) (hn : mayB n = false) :
    Calls Tryd.prog 4 #[.int .i64 n, .int .i64 m, .string rs, .slice a len cap] w fun e w' => e = .returned (.bool true) ∧ Below w.heap.size w w' := by
  have hs64 := str64
  go_enter Tryd.func4, Tryd.ntmps4
  go_wp2_with fail
  refine (put_yes 64 _ hF rfl).mono ?_
  rintro e w1 ⟨rfl, hb1⟩
  rw [hs64]
  clear hs64
  have hF1 := hF.below hb1
  go_wp2_with fail
  refine (put_no n _ hF1 hn).mono ?_
  rintro e w2 ⟨rfl, hb2⟩
  have hBx : Below w.heap.size w w2 := hb1.trans (hb2.mono hb1.size)
  have hFx := hF.below hBx
  go_wp2_with fail
  refine (all_any a len cap zs _ hFx (hI.below hBx) (by unfold maxLen at hlm; omega)).mono ?_
  rintro e wA ⟨⟨hok, rfl⟩ | ⟨hok, rfl⟩, hbA⟩
  · have hBA := hBx.trans (hbA.mono hBx.size)
    have hFA := hF.below hBA
    have HOK : Hid (allOk zs = true) := hok
    clear hok
    go_wp2_with fail
    go_loopw [11, 18] (fun s i wr => ∃ k : Nat, k ≤ len ∧ i = .int .i64 k ∧ s = .string (allS (zs.drop k)) ∧ Below w.heap.size w wr) (fun _ i _ => len - (intOf i).toNat)
    case atStart => exact ⟨0, Nat.zero_le _, rfl, rfl, hBA⟩
    case round =>
      obtain ⟨k, hk, rfl, rfl, hB⟩ := hrel
      have hok := HOK.out
      have h40 : zs.length ≤ 40 := by
        simp only [allOk, Bool.and_eq_true, decide_eq_true_eq] at hok
        exact hok.1
      by_cases hlt : k < len
      · rcases hI.2 with h0 | ⟨b, off, rfl, hb, hc⟩
        · omega
        have hl := hI.1
        have hkl : k < zs.length := by omega
        have hz : mayB (zs[k]?.getD 0) = true := by
          simp only [allOk, Bool.and_eq_true, decide_eq_true_eq] at hok
          exact List.all_eq_true.1 hok.2 _ (by simp [hkl])
        have hcx : wr.cell? ⟨b, off + k, none⟩ = some (.int .i64 (zs[k]?.getD 0)) := (hB.cell (p := ⟨b, off + k, none⟩) hb).trans (hc k hlt)
        have hget : Hid (getI (ints (allS (zs.drop k))) = some (zs[k]?.getD 0, lng (zs[k]?.getD 0))) := get_allS zs k hkl hz
        obtain ⟨hd1, hd2⟩ := drop_allS zs k hkl
        have HD : Hid ((allS (zs.drop k)).extract (lng (zs[k]?.getD 0)).toNat (allS (zs.drop k)).size = allS (zs.drop (k + 1))) := hd2
        have hlb := lng_bd (zs[k]?.getD 0)
        have hsz : (allS (zs.drop k)).size ≤ 160 := by
          have := allS_size (zs.drop k)
          rw [List.length_drop] at this
          omega
        have hle : (lng (zs[k]?.getD 0)).toNat ≤ (allS (zs.drop k)).size := by omega
        have g1 : (k : Int) < (len : Int) := by omega
        have hFr := hF.below hB
        have h40' : len ≤ 40 := by omega
        clear hd1 hd2 hz hok hc hl hkl h40
        generalize zs[k]?.getD 0 = z at *
        generalize lng z = L at *
        obtain ⟨hL1, hL4⟩ := hlb
        obtain ⟨so, hso⟩ : ∃ so, allS (zs.drop k) = so := ⟨_, rfl⟩
        rw [hso] at hget HD hsz hle ⊢
        clear hso
        go_wp2_with fail
        refine (get_all so _ hFr (by unfold maxLen; omega)).mono ?_
        rintro e w3 ⟨rfl, hb3⟩
        rw [hget.out]
        have hcy : w3.cell? ⟨b, off + k, none⟩ = some (.int .i64 z) := (hb3.cell (p := ⟨b, off + k, none⟩) (Nat.lt_of_lt_of_le hb hB.size)).trans hcx
        have hB3 := hB.trans (hb3.mono hB.size)
        dsimp only [getV]
        have g2 : L ≤ (so.size : Int) := by omega
        go_wp2_with fail
        exact ⟨⟨k + 1, by omega, by go_num, by rw [HD.out], hB3⟩, by simp [intOf]; omega⟩
      · obtain rfl : k = len := by omega
        have hl := hI.1
        have e1 : zs.drop k = [] := List.drop_of_length_le (by omega)
        rw [e1, allS_nil]
        clear hl hok e1
        go_wp2_with fail
        go_ret
        exact ⟨rfl, hB⟩
  · have hBA := hBx.trans (hbA.mono hBx.size)
    go_wp2_with fail
    go_ret
    exact ⟨rfl, hBA⟩

set_option maxRecDepth 100000 in
set_option maxHeartbeats 4000000 in
theorem back_half (n m : Int) (rs : ByteArray) (a : Option Addr) (len cap : Nat) (zs : List Int) (w : World) (hF : Forms w) (hI : IntsAt w a len zs) (hlm : len ≤ maxLen) (hrs : rs.size ≤ 140737488351232) (hn : mayB n = true) (hm : mayB m = false) :
    Calls Tryd.prog 4 #[.int .i64 n, .int .i64 m, .string rs, .slice a len cap] w fun e w' => e = .returned (.bool true) ∧ Below w.heap.size w w' := by
  have hs64 := str64
  go_enter Tryd.func4, Tryd.ntmps4
  go_wp2_with fail
  refine (put_yes 64 _ hF rfl).mono ?_
  rintro e w1 ⟨rfl, hb1⟩
  rw [hs64]
  clear hs64
  have hF1 := hF.below hb1
  go_wp2_with fail
  refine (put_yes n _ hF1 hn).mono ?_
  rintro e w2 ⟨rfl, hb2⟩
  have hB2 : Below w.heap.size w w2 := hb1.trans (hb2.mono hb1.size)
  have hF2 := hF.below hB2
  have hget : Hid (getI (ints (strOfNums (nums n) ++ rs)) = some (n, lng n)) := get_nums n hn rs
  have hln : (lng n != (((strOfNums (nums n)).size : Nat) : Int)) = false := by rw [nums_len]; simp
  have hnn : (n != n) = false := by simp
  have hsl : (strOfNums (nums n)).size ≤ 4 := by rw [strOfNums_size]; exact nums_length_le n
  go_wp2_with fail
  refine (get_all (strOfNums (nums n) ++ rs) _ hF2 (by rw [ByteArray.size_append]; unfold maxLen; omega)).mono ?_
  rintro e w3 ⟨rfl, hb3⟩
  rw [hget.out]
  have hB3 := hB2.trans (hb3.mono hB2.size)
  have hF3 := hF.below hB3
  dsimp only [getV]
  go_wp2_with fail
  refine (put_no m _ hF3 hm).mono ?_
  rintro e w4 ⟨rfl, hb4⟩
  have hBx := hB3.trans (hb4.mono hB3.size)
  have hFx := hF.below hBx
  go_wp2_with fail
  refine (all_any a len cap zs _ hFx (hI.below hBx) (by unfold maxLen at hlm; omega)).mono ?_
  rintro e wA ⟨⟨hok, rfl⟩ | ⟨hok, rfl⟩, hbA⟩
  · have hBA := hBx.trans (hbA.mono hBx.size)
    have hFA := hF.below hBA
    have HOK : Hid (allOk zs = true) := hok
    clear hok
    go_wp2_with fail
    go_loopw [11, 18] (fun s i wr => ∃ k : Nat, k ≤ len ∧ i = .int .i64 k ∧ s = .string (allS (zs.drop k)) ∧ Below w.heap.size w wr) (fun _ i _ => len - (intOf i).toNat)
    case atStart => exact ⟨0, Nat.zero_le _, rfl, rfl, hBA⟩
    case round =>
      obtain ⟨k, hk, rfl, rfl, hB⟩ := hrel
      have hok := HOK.out
      have h40 : zs.length ≤ 40 := by
        simp only [allOk, Bool.and_eq_true, decide_eq_true_eq] at hok
        exact hok.1
      by_cases hlt : k < len
      · rcases hI.2 with h0 | ⟨b, off, rfl, hb, hc⟩
        · omega
        have hl := hI.1
        have hkl : k < zs.length := by omega
        have hz : mayB (zs[k]?.getD 0) = true := by
          simp only [allOk, Bool.and_eq_true, decide_eq_true_eq] at hok
          exact List.all_eq_true.1 hok.2 _ (by simp [hkl])
        have hcx : wr.cell? ⟨b, off + k, none⟩ = some (.int .i64 (zs[k]?.getD 0)) := (hB.cell (p := ⟨b, off + k, none⟩) hb).trans (hc k hlt)
        have hget : Hid (getI (ints (allS (zs.drop k))) = some (zs[k]?.getD 0, lng (zs[k]?.getD 0))) := get_allS zs k hkl hz
        obtain ⟨hd1, hd2⟩ := drop_allS zs k hkl
        have HD : Hid ((allS (zs.drop k)).extract (lng (zs[k]?.getD 0)).toNat (allS (zs.drop k)).size = allS (zs.drop (k + 1))) := hd2
        have hlb := lng_bd (zs[k]?.getD 0)
        have hsz : (allS (zs.drop k)).size ≤ 160 := by
          have := allS_size (zs.drop k)
          rw [List.length_drop] at this
          omega
        have hle : (lng (zs[k]?.getD 0)).toNat ≤ (allS (zs.drop k)).size := by omega
        have g1 : (k : Int) < (len : Int) := by omega
        have hFr := hF.below hB
        have h40' : len ≤ 40 := by omega
        clear hd1 hd2 hz hok hc hl hkl h40
        generalize zs[k]?.getD 0 = z at *
        generalize lng z = L at *
        obtain ⟨hL1, hL4⟩ := hlb
        obtain ⟨so, hso⟩ : ∃ so, allS (zs.drop k) = so := ⟨_, rfl⟩
        rw [hso] at hget HD hsz hle ⊢
        clear hso
        go_wp2_with fail
        refine (get_all so _ hFr (by unfold maxLen; omega)).mono ?_
        rintro e w3 ⟨rfl, hb3⟩
        rw [hget.out]
        have hcy : w3.cell? ⟨b, off + k, none⟩ = some (.int .i64 z) := (hb3.cell (p := ⟨b, off + k, none⟩) (Nat.lt_of_lt_of_le hb hB.size)).trans hcx
        have hB3 := hB.trans (hb3.mono hB.size)
        dsimp only [getV]
        have g2 : L ≤ (so.size : Int) := by omega
        go_wp2_with fail
        exact ⟨⟨k + 1, by omega, by go_num, by rw [HD.out], hB3⟩, by simp [intOf]; omega⟩
      · obtain rfl : k = len := by omega
        have hl := hI.1
        have e1 : zs.drop k = [] := List.drop_of_length_le (by omega)
        rw [e1, allS_nil]
        clear hl hok e1
        go_wp2_with fail
        go_ret
        exact ⟨rfl, hB⟩
  · have hBA := hBx.trans (hbA.mono hBx.size)
    go_wp2_with fail
    go_ret
    exact ⟨rfl, hBA⟩

set_option maxRecDepth 100000 in
set_option maxHeartbeats 4000000 in
theorem back_same (n m : Int) (rs : ByteArray) (a : Option Addr) (len cap : Nat) (zs : List Int) (w : World) (hF : Forms w) (hI : IntsAt w a len zs) (hlm : len ≤ maxLen) (hrs : rs.size ≤ 140737488351232) (hn : mayB n = true) (hm : mayB m = true) (he : (m != n) = false) :
    Calls Tryd.prog 4 #[.int .i64 n, .int .i64 m, .string rs, .slice a len cap] w fun e w' => e = .returned (.bool true) ∧ Below w.heap.size w w' := by
  have hs64 := str64
  go_enter Tryd.func4, Tryd.ntmps4
  go_wp2_with fail
  refine (put_yes 64 _ hF rfl).mono ?_
  rintro e w1 ⟨rfl, hb1⟩
  rw [hs64]
  clear hs64
  have hF1 := hF.below hb1
  go_wp2_with fail
  refine (put_yes n _ hF1 hn).mono ?_
  rintro e w2 ⟨rfl, hb2⟩
  have hB2 : Below w.heap.size w w2 := hb1.trans (hb2.mono hb1.size)
  have hF2 := hF.below hB2
  have hget : Hid (getI (ints (strOfNums (nums n) ++ rs)) = some (n, lng n)) := get_nums n hn rs
  have hln : (lng n != (((strOfNums (nums n)).size : Nat) : Int)) = false := by rw [nums_len]; simp
  have hnn : (n != n) = false := by simp
  have hsl : (strOfNums (nums n)).size ≤ 4 := by rw [strOfNums_size]; exact nums_length_le n
  go_wp2_with fail
  refine (get_all (strOfNums (nums n) ++ rs) _ hF2 (by rw [ByteArray.size_append]; unfold maxLen; omega)).mono ?_
  rintro e w3 ⟨rfl, hb3⟩
  rw [hget.out]
  have hB3 := hB2.trans (hb3.mono hB2.size)
  have hF3 := hF.below hB3
  dsimp only [getV]
  go_wp2_with fail
  refine (put_yes m _ hF3 hm).mono ?_
  rintro e w4 ⟨rfl, hb4⟩
  have hBx := hB3.trans (hb4.mono hB3.size)
  have hFx := hF.below hBx
  go_wp2_with fail
  refine (all_any a len cap zs _ hFx (hI.below hBx) (by unfold maxLen at hlm; omega)).mono ?_
  rintro e wA ⟨⟨hok, rfl⟩ | ⟨hok, rfl⟩, hbA⟩
  · have hBA := hBx.trans (hbA.mono hBx.size)
    have hFA := hF.below hBA
    have HOK : Hid (allOk zs = true) := hok
    clear hok
    go_wp2_with fail
    go_loopw [11, 18] (fun s i wr => ∃ k : Nat, k ≤ len ∧ i = .int .i64 k ∧ s = .string (allS (zs.drop k)) ∧ Below w.heap.size w wr) (fun _ i _ => len - (intOf i).toNat)
    case atStart => exact ⟨0, Nat.zero_le _, rfl, rfl, hBA⟩
    case round =>
      obtain ⟨k, hk, rfl, rfl, hB⟩ := hrel
      have hok := HOK.out
      have h40 : zs.length ≤ 40 := by
        simp only [allOk, Bool.and_eq_true, decide_eq_true_eq] at hok
        exact hok.1
      by_cases hlt : k < len
      · rcases hI.2 with h0 | ⟨b, off, rfl, hb, hc⟩
        · omega
        have hl := hI.1
        have hkl : k < zs.length := by omega
        have hz : mayB (zs[k]?.getD 0) = true := by
          simp only [allOk, Bool.and_eq_true, decide_eq_true_eq] at hok
          exact List.all_eq_true.1 hok.2 _ (by simp [hkl])
        have hcx : wr.cell? ⟨b, off + k, none⟩ = some (.int .i64 (zs[k]?.getD 0)) := (hB.cell (p := ⟨b, off + k, none⟩) hb).trans (hc k hlt)
        have hget : Hid (getI (ints (allS (zs.drop k))) = some (zs[k]?.getD 0, lng (zs[k]?.getD 0))) := get_allS zs k hkl hz
        obtain ⟨hd1, hd2⟩ := drop_allS zs k hkl
        have HD : Hid ((allS (zs.drop k)).extract (lng (zs[k]?.getD 0)).toNat (allS (zs.drop k)).size = allS (zs.drop (k + 1))) := hd2
        have hlb := lng_bd (zs[k]?.getD 0)
        have hsz : (allS (zs.drop k)).size ≤ 160 := by
          have := allS_size (zs.drop k)
          rw [List.length_drop] at this
          omega
        have hle : (lng (zs[k]?.getD 0)).toNat ≤ (allS (zs.drop k)).size := by omega
        have g1 : (k : Int) < (len : Int) := by omega
        have hFr := hF.below hB
        have h40' : len ≤ 40 := by omega
        clear hd1 hd2 hz hok hc hl hkl h40
        generalize zs[k]?.getD 0 = z at *
        generalize lng z = L at *
        obtain ⟨hL1, hL4⟩ := hlb
        obtain ⟨so, hso⟩ : ∃ so, allS (zs.drop k) = so := ⟨_, rfl⟩
        rw [hso] at hget HD hsz hle ⊢
        clear hso
        go_wp2_with fail
        refine (get_all so _ hFr (by unfold maxLen; omega)).mono ?_
        rintro e w3 ⟨rfl, hb3⟩
        rw [hget.out]
        have hcy : w3.cell? ⟨b, off + k, none⟩ = some (.int .i64 z) := (hb3.cell (p := ⟨b, off + k, none⟩) (Nat.lt_of_lt_of_le hb hB.size)).trans hcx
        have hB3 := hB.trans (hb3.mono hB.size)
        dsimp only [getV]
        have g2 : L ≤ (so.size : Int) := by omega
        go_wp2_with fail
        exact ⟨⟨k + 1, by omega, by go_num, by rw [HD.out], hB3⟩, by simp [intOf]; omega⟩
      · obtain rfl : k = len := by omega
        have hl := hI.1
        have e1 : zs.drop k = [] := List.drop_of_length_le (by omega)
        rw [e1, allS_nil]
        clear hl hok e1
        go_wp2_with fail
        go_ret
        exact ⟨rfl, hB⟩
  · have hBA := hBx.trans (hbA.mono hBx.size)
    go_wp2_with fail
    go_ret
    exact ⟨rfl, hBA⟩

set_option maxRecDepth 100000 in
set_option maxHeartbeats 4000000 in
theorem back_less (n m : Int) (rs : ByteArray) (a : Option Addr) (len cap : Nat) (zs : List Int) (w : World) (hF : Forms w) (hI : IntsAt w a len zs) (hlm : len ≤ maxLen) (hrs : rs.size ≤ 140737488351232) (hn : mayB n = true) (hm : mayB m = true) (he : (m != n) = true) (hs : (((strOfNums (nums m)).size : Nat) : Int) < (((strOfNums (nums n)).size : Nat) : Int)) :
    Calls Tryd.prog 4 #[.int .i64 n, .int .i64 m, .string rs, .slice a len cap] w fun e w' => e = .returned (.bool true) ∧ Below w.heap.size w w' := by
  have hs64 := str64
  go_enter Tryd.func4, Tryd.ntmps4
  go_wp2_with fail
  refine (put_yes 64 _ hF rfl).mono ?_
  rintro e w1 ⟨rfl, hb1⟩
  rw [hs64]
  clear hs64
  have hF1 := hF.below hb1
  go_wp2_with fail
  refine (put_yes n _ hF1 hn).mono ?_
  rintro e w2 ⟨rfl, hb2⟩
  have hB2 : Below w.heap.size w w2 := hb1.trans (hb2.mono hb1.size)
  have hF2 := hF.below hB2
  have hget : Hid (getI (ints (strOfNums (nums n) ++ rs)) = some (n, lng n)) := get_nums n hn rs
  have hln : (lng n != (((strOfNums (nums n)).size : Nat) : Int)) = false := by rw [nums_len]; simp
  have hnn : (n != n) = false := by simp
  have hsl : (strOfNums (nums n)).size ≤ 4 := by rw [strOfNums_size]; exact nums_length_le n
  go_wp2_with fail
  refine (get_all (strOfNums (nums n) ++ rs) _ hF2 (by rw [ByteArray.size_append]; unfold maxLen; omega)).mono ?_
  rintro e w3 ⟨rfl, hb3⟩
  rw [hget.out]
  have hB3 := hB2.trans (hb3.mono hB2.size)
  have hF3 := hF.below hB3
  dsimp only [getV]
  go_wp2_with fail
  refine (put_yes m _ hF3 hm).mono ?_
  rintro e w4 ⟨rfl, hb4⟩
  have hBx := hB3.trans (hb4.mono hB3.size)
  have hFx := hF.below hBx
  go_wp2_with fail
  refine (all_any a len cap zs _ hFx (hI.below hBx) (by unfold maxLen at hlm; omega)).mono ?_
  rintro e wA ⟨⟨hok, rfl⟩ | ⟨hok, rfl⟩, hbA⟩
  · have hBA := hBx.trans (hbA.mono hBx.size)
    have hFA := hF.below hBA
    have HOK : Hid (allOk zs = true) := hok
    clear hok
    go_wp2_with fail
    go_loopw [11, 18] (fun s i wr => ∃ k : Nat, k ≤ len ∧ i = .int .i64 k ∧ s = .string (allS (zs.drop k)) ∧ Below w.heap.size w wr) (fun _ i _ => len - (intOf i).toNat)
    case atStart => exact ⟨0, Nat.zero_le _, rfl, rfl, hBA⟩
    case round =>
      obtain ⟨k, hk, rfl, rfl, hB⟩ := hrel
      have hok := HOK.out
      have h40 : zs.length ≤ 40 := by
        simp only [allOk, Bool.and_eq_true, decide_eq_true_eq] at hok
        exact hok.1
      by_cases hlt : k < len
      · rcases hI.2 with h0 | ⟨b, off, rfl, hb, hc⟩
        · omega
        have hl := hI.1
        have hkl : k < zs.length := by omega
        have hz : mayB (zs[k]?.getD 0) = true := by
          simp only [allOk, Bool.and_eq_true, decide_eq_true_eq] at hok
          exact List.all_eq_true.1 hok.2 _ (by simp [hkl])
        have hcx : wr.cell? ⟨b, off + k, none⟩ = some (.int .i64 (zs[k]?.getD 0)) := (hB.cell (p := ⟨b, off + k, none⟩) hb).trans (hc k hlt)
        have hget : Hid (getI (ints (allS (zs.drop k))) = some (zs[k]?.getD 0, lng (zs[k]?.getD 0))) := get_allS zs k hkl hz
        obtain ⟨hd1, hd2⟩ := drop_allS zs k hkl
        have HD : Hid ((allS (zs.drop k)).extract (lng (zs[k]?.getD 0)).toNat (allS (zs.drop k)).size = allS (zs.drop (k + 1))) := hd2
        have hlb := lng_bd (zs[k]?.getD 0)
        have hsz : (allS (zs.drop k)).size ≤ 160 := by
          have := allS_size (zs.drop k)
          rw [List.length_drop] at this
          omega
        have hle : (lng (zs[k]?.getD 0)).toNat ≤ (allS (zs.drop k)).size := by omega
        have g1 : (k : Int) < (len : Int) := by omega
        have hFr := hF.below hB
        have h40' : len ≤ 40 := by omega
        clear hd1 hd2 hz hok hc hl hkl h40
        generalize zs[k]?.getD 0 = z at *
        generalize lng z = L at *
        obtain ⟨hL1, hL4⟩ := hlb
        obtain ⟨so, hso⟩ : ∃ so, allS (zs.drop k) = so := ⟨_, rfl⟩
        rw [hso] at hget HD hsz hle ⊢
        clear hso
        go_wp2_with fail
        refine (get_all so _ hFr (by unfold maxLen; omega)).mono ?_
        rintro e w3 ⟨rfl, hb3⟩
        rw [hget.out]
        have hcy : w3.cell? ⟨b, off + k, none⟩ = some (.int .i64 z) := (hb3.cell (p := ⟨b, off + k, none⟩) (Nat.lt_of_lt_of_le hb hB.size)).trans hcx
        have hB3 := hB.trans (hb3.mono hB.size)
        dsimp only [getV]
        have g2 : L ≤ (so.size : Int) := by omega
        go_wp2_with fail
        exact ⟨⟨k + 1, by omega, by go_num, by rw [HD.out], hB3⟩, by simp [intOf]; omega⟩
      · obtain rfl : k = len := by omega
        have hl := hI.1
        have e1 : zs.drop k = [] := List.drop_of_length_le (by omega)
        rw [e1, allS_nil]
        clear hl hok e1
        go_wp2_with fail
        go_ret
        exact ⟨rfl, hB⟩
  · have hBA := hBx.trans (hbA.mono hBx.size)
    go_wp2_with fail
    go_ret
    exact ⟨rfl, hBA⟩

set_option maxRecDepth 100000 in
set_option maxHeartbeats 4000000 in
theorem back_other (n m : Int) (rs : ByteArray) (a : Option Addr) (len cap : Nat) (zs : List Int) (w : World) (hF : Forms w) (hI : IntsAt w a len zs) (hlm : len ≤ maxLen) (hrs : rs.size ≤ 140737488351232) (hn : mayB n = true) (hm : mayB m = true) (he : (m != n) = true) (hs : (strOfNums (nums n)).size ≤ (strOfNums (nums m)).size) :
    Calls Tryd.prog 4 #[.int .i64 n, .int .i64 m, .string rs, .slice a len cap] w fun e w' => e = .returned (.bool true) ∧ Below w.heap.size w w' := by
  have hpf := pre_free n m hn hm (by simpa using he)
  have hpf' : (((strOfNums (nums m)).extract 0 (strOfNums (nums n)).size).toList == (strOfNums (nums n)).toList) = false := by
    rw [ByteArray.toList_eq, ByteArray.toList_eq]
    exact beq_eq_false_iff_ne.2 fun h => hpf (ByteArray.ext (Array.toList_inj.1 h))
  clear hpf
  have hs64 := str64
  go_enter Tryd.func4, Tryd.ntmps4
  go_wp2_with fail
  refine (put_yes 64 _ hF rfl).mono ?_
  rintro e w1 ⟨rfl, hb1⟩
  rw [hs64]
  clear hs64
  have hF1 := hF.below hb1
  go_wp2_with fail
  refine (put_yes n _ hF1 hn).mono ?_
  rintro e w2 ⟨rfl, hb2⟩
  have hB2 : Below w.heap.size w w2 := hb1.trans (hb2.mono hb1.size)
  have hF2 := hF.below hB2
  have hget : Hid (getI (ints (strOfNums (nums n) ++ rs)) = some (n, lng n)) := get_nums n hn rs
  have hln : (lng n != (((strOfNums (nums n)).size : Nat) : Int)) = false := by rw [nums_len]; simp
  have hnn : (n != n) = false := by simp
  have hsl : (strOfNums (nums n)).size ≤ 4 := by rw [strOfNums_size]; exact nums_length_le n
  go_wp2_with fail
  refine (get_all (strOfNums (nums n) ++ rs) _ hF2 (by rw [ByteArray.size_append]; unfold maxLen; omega)).mono ?_
  rintro e w3 ⟨rfl, hb3⟩
  rw [hget.out]
  have hB3 := hB2.trans (hb3.mono hB2.size)
  have hF3 := hF.below hB3
  dsimp only [getV]
  go_wp2_with fail
  refine (put_yes m _ hF3 hm).mono ?_
  rintro e w4 ⟨rfl, hb4⟩
  have hBx := hB3.trans (hb4.mono hB3.size)
  have hFx := hF.below hBx
  go_wp2_with fail
  refine (all_any a len cap zs _ hFx (hI.below hBx) (by unfold maxLen at hlm; omega)).mono ?_
  rintro e wA ⟨⟨hok, rfl⟩ | ⟨hok, rfl⟩, hbA⟩
  · have hBA := hBx.trans (hbA.mono hBx.size)
    have hFA := hF.below hBA
    have HOK : Hid (allOk zs = true) := hok
    clear hok
    go_wp2_with fail
    go_loopw [11, 18] (fun s i wr => ∃ k : Nat, k ≤ len ∧ i = .int .i64 k ∧ s = .string (allS (zs.drop k)) ∧ Below w.heap.size w wr) (fun _ i _ => len - (intOf i).toNat)
    case atStart => exact ⟨0, Nat.zero_le _, rfl, rfl, hBA⟩
    case round =>
      obtain ⟨k, hk, rfl, rfl, hB⟩ := hrel
      have hok := HOK.out
      have h40 : zs.length ≤ 40 := by
        simp only [allOk, Bool.and_eq_true, decide_eq_true_eq] at hok
        exact hok.1
      by_cases hlt : k < len
      · rcases hI.2 with h0 | ⟨b, off, rfl, hb, hc⟩
        · omega
        have hl := hI.1
        have hkl : k < zs.length := by omega
        have hz : mayB (zs[k]?.getD 0) = true := by
          simp only [allOk, Bool.and_eq_true, decide_eq_true_eq] at hok
          exact List.all_eq_true.1 hok.2 _ (by simp [hkl])
        have hcx : wr.cell? ⟨b, off + k, none⟩ = some (.int .i64 (zs[k]?.getD 0)) := (hB.cell (p := ⟨b, off + k, none⟩) hb).trans (hc k hlt)
        have hget : Hid (getI (ints (allS (zs.drop k))) = some (zs[k]?.getD 0, lng (zs[k]?.getD 0))) := get_allS zs k hkl hz
        obtain ⟨hd1, hd2⟩ := drop_allS zs k hkl
        have HD : Hid ((allS (zs.drop k)).extract (lng (zs[k]?.getD 0)).toNat (allS (zs.drop k)).size = allS (zs.drop (k + 1))) := hd2
        have hlb := lng_bd (zs[k]?.getD 0)
        have hsz : (allS (zs.drop k)).size ≤ 160 := by
          have := allS_size (zs.drop k)
          rw [List.length_drop] at this
          omega
        have hle : (lng (zs[k]?.getD 0)).toNat ≤ (allS (zs.drop k)).size := by omega
        have g1 : (k : Int) < (len : Int) := by omega
        have hFr := hF.below hB
        have h40' : len ≤ 40 := by omega
        clear hd1 hd2 hz hok hc hl hkl h40
        generalize zs[k]?.getD 0 = z at *
        generalize lng z = L at *
        obtain ⟨hL1, hL4⟩ := hlb
        obtain ⟨so, hso⟩ : ∃ so, allS (zs.drop k) = so := ⟨_, rfl⟩
        rw [hso] at hget HD hsz hle ⊢
        clear hso
        go_wp2_with fail
        refine (get_all so _ hFr (by unfold maxLen; omega)).mono ?_
        rintro e w3 ⟨rfl, hb3⟩
        rw [hget.out]
        have hcy : w3.cell? ⟨b, off + k, none⟩ = some (.int .i64 z) := (hb3.cell (p := ⟨b, off + k, none⟩) (Nat.lt_of_lt_of_le hb hB.size)).trans hcx
        have hB3 := hB.trans (hb3.mono hB.size)
        dsimp only [getV]
        have g2 : L ≤ (so.size : Int) := by omega
        go_wp2_with fail
        exact ⟨⟨k + 1, by omega, by go_num, by rw [HD.out], hB3⟩, by simp [intOf]; omega⟩
      · obtain rfl : k = len := by omega
        have hl := hI.1
        have e1 : zs.drop k = [] := List.drop_of_length_le (by omega)
        rw [e1, allS_nil]
        clear hl hok e1
        go_wp2_with fail
        go_ret
        exact ⟨rfl, hB⟩
  · have hBA := hBx.trans (hbA.mono hBx.size)
    go_wp2_with fail
    go_ret
    exact ⟨rfl, hBA⟩

theorem back_calls (n m : Int) (rs : ByteArray) (a : Option Addr) (len cap : Nat) (zs : List Int) (w : World) (hF : Forms w) (hI : IntsAt w a len zs) (hlm : len ≤ maxLen) (hrs : rs.size ≤ 140737488351232) :
    Calls Tryd.prog 4 #[.int .i64 n, .int .i64 m, .string rs, .slice a len cap] w fun e w' => e = .returned (.bool true) ∧ Below w.heap.size w w' := by
  cases hn : mayB n with
  | false => exact back_no n m rs a len cap zs w hF hI hlm hrs hn
  | true =>
    cases hm : mayB m with
    | false => exact back_half n m rs a len cap zs w hF hI hlm hrs hn hm
    | true =>
      cases he : (m != n) with
      | false => exact back_same n m rs a len cap zs w hF hI hlm hrs hn hm he
      | true =>
        by_cases hs : (((strOfNums (nums m)).size : Nat) : Int) < (((strOfNums (nums n)).size : Nat) : Int)
        · exact back_less n m rs a len cap zs w hF hI hlm hrs hn hm he hs
        · exact back_other n m rs a len cap zs w hF hI hlm hrs hn hm he (by omega)

end Go.Proofs.YtnkedcpocomeaaaDoor
