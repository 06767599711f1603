/- What Get answers, said over the bytes as numbers; a number's own bytes give it back, whatever is behind them. -/
import Derived.Test.YtjpdembofiadbaaDoorVG
import Derived.Test.YtjpdembofiadbaaDoorVH
namespace Go.Proofs.YtjpdembofiadbaaDoor.V
open Go.RowKit Go.Lib
set_option linter.unusedVariables false
set_option linter.unusedSimpArgs false

def ints (s : ByteArray) : List Int := s.data.toList.map fun b => (b.toNat : Int)

/-- The number that bytes begin with, and how many these are. -/
def getI (l : List Int) : Option (Int × Int) :=
  match l with
  | [] => none
  | b0 :: r =>
    if b0 < 64 then some (b0, 1)
    else if b0 < 128 then
      match r with
      | [] => none
      | b1 :: _ => if b0 * 256 + b1 - 16384 < 64 then none else some (b0 * 256 + b1 - 16384, 2)
    else if b0 < 192 then
      match r with
      | b1 :: b2 :: b3 :: _ => if ((b0 * 256 + b1) * 256 + b2) * 256 + b3 - 2147483648 < 16384 then none else some (((b0 * 256 + b1) * 256 + b2) * 256 + b3 - 2147483648, 4)
      | _ => none
    else none

def getV : Option (Int × Int) → Value
  | none => .tuple #[.int .i64 0, .int .i64 0, .iface 48 (.int .i64 2)]
  | some x => .tuple #[.int .i64 x.1, .int .i64 x.2, .nilIface]

set_option maxHeartbeats 1000000 in
theorem get_all (s : ByteArray) (w : World) (hF : Forms w) (hl : s.size ≤ maxLen) :
    Calls Tryd.prog 66 #[.string s] w fun e w' => e = .returned (getV (getI (ints s))) ∧ Below w.heap.size w w' := by
  obtain ⟨⟨l⟩⟩ := s
  match l, hl with
  | [], hl => exact get_empty _ w hF hl rfl
  | b0 :: r, hl =>
    have hp : 0 < (⟨⟨b0 :: r⟩⟩ : ByteArray).size := Nat.succ_pos _
    by_cases a0 : (b0.toNat : Int) < 64
    · have e : getI (ints ⟨⟨b0 :: r⟩⟩) = some ((b0.toNat : Int), 1) := by simp [ints, getI, a0]
      rw [e]
      exact (get_0 ⟨⟨b0 :: r⟩⟩ w hF hl hp a0).mono fun _ _ ⟨he, hb⟩ => ⟨he, hb⟩
    · by_cases a1 : (b0.toNat : Int) < 128
      · match r, hl, hp with
        | [], hl, hp =>
          have e : getI (ints ⟨⟨[b0]⟩⟩) = none := by simp [ints, getI, a0, a1]
          rw [e]
          exact (get_b1short ⟨⟨[b0]⟩⟩ w hF hl hp (Nat.lt_succ_self 1) (show (64 : Int) ≤ (b0.toNat : Int) by omega) a1).mono fun _ _ ⟨he, hb⟩ => ⟨he, hb⟩
        | b1 :: r, hl, hp =>
          have hp1 : 1 < (⟨⟨b0 :: b1 :: r⟩⟩ : ByteArray).size := Nat.succ_lt_succ (Nat.succ_pos _)
          by_cases c : (b0.toNat : Int) * 256 + (b1.toNat : Int) - 16384 < 64
          · have e : getI (ints ⟨⟨b0 :: b1 :: r⟩⟩) = none := by simp [ints, getI, a0, a1, c]
            rw [e]
            exact (get_1no ⟨⟨b0 :: b1 :: r⟩⟩ w hF hl hp1 (show (64 : Int) ≤ (b0.toNat : Int) by omega) a1 c).mono fun _ _ ⟨he, hb⟩ => ⟨he, hb⟩
          · have e : getI (ints ⟨⟨b0 :: b1 :: r⟩⟩) = some ((b0.toNat : Int) * 256 + (b1.toNat : Int) - 16384, 2) := by simp [ints, getI, a0, a1, c]
            rw [e]
            exact (get_1 ⟨⟨b0 :: b1 :: r⟩⟩ w hF hl hp1 (show (64 : Int) ≤ (b0.toNat : Int) by omega) a1 (show (64 : Int) ≤ (b0.toNat : Int) * 256 + (b1.toNat : Int) - 16384 by omega)).mono fun _ _ ⟨he, hb⟩ => ⟨he, hb⟩
      · by_cases a2 : (b0.toNat : Int) < 192
        · match r, hl, hp with
          | b1 :: b2 :: b3 :: r, hl, hp =>
            have hp3 : 3 < (⟨⟨b0 :: b1 :: b2 :: b3 :: r⟩⟩ : ByteArray).size := Nat.succ_lt_succ (Nat.succ_lt_succ (Nat.succ_lt_succ (Nat.succ_pos _)))
            by_cases c : (((b0.toNat : Int) * 256 + (b1.toNat : Int)) * 256 + (b2.toNat : Int)) * 256 + (b3.toNat : Int) - 2147483648 < 16384
            · have e : getI (ints ⟨⟨b0 :: b1 :: b2 :: b3 :: r⟩⟩) = none := by simp [ints, getI, a0, a1, a2, c]
              rw [e]
              exact (get_2no ⟨⟨b0 :: b1 :: b2 :: b3 :: r⟩⟩ w hF hl hp3 (show (128 : Int) ≤ (b0.toNat : Int) by omega) a2 c).mono fun _ _ ⟨he, hb⟩ => ⟨he, hb⟩
            · have e : getI (ints ⟨⟨b0 :: b1 :: b2 :: b3 :: r⟩⟩) = some ((((b0.toNat : Int) * 256 + (b1.toNat : Int)) * 256 + (b2.toNat : Int)) * 256 + (b3.toNat : Int) - 2147483648, 4) := by simp [ints, getI, a0, a1, a2, c]
              rw [e]
              exact (get_2 ⟨⟨b0 :: b1 :: b2 :: b3 :: r⟩⟩ w hF hl hp3 (show (128 : Int) ≤ (b0.toNat : Int) by omega) a2 (show (16384 : Int) ≤ (((b0.toNat : Int) * 256 + (b1.toNat : Int)) * 256 + (b2.toNat : Int)) * 256 + (b3.toNat : Int) - 2147483648 by omega)).mono fun _ _ ⟨he, hb⟩ => ⟨he, hb⟩
          | [], hl, hp =>
            have e : getI (ints ⟨⟨[b0]⟩⟩) = none := by simp [ints, getI, a0, a1]
            rw [e]
            exact (get_b2short ⟨⟨[b0]⟩⟩ w hF hl hp (show 1 < 4 by decide) (show (128 : Int) ≤ (b0.toNat : Int) by omega) a2).mono fun _ _ ⟨he, hb⟩ => ⟨he, hb⟩
          | [b1], hl, hp =>
            have e : getI (ints ⟨⟨[b0, b1]⟩⟩) = none := by simp [ints, getI, a0, a1]
            rw [e]
            exact (get_b2short ⟨⟨[b0, b1]⟩⟩ w hF hl hp (show 2 < 4 by decide) (show (128 : Int) ≤ (b0.toNat : Int) by omega) a2).mono fun _ _ ⟨he, hb⟩ => ⟨he, hb⟩
          | [b1, b2], hl, hp =>
            have e : getI (ints ⟨⟨[b0, b1, b2]⟩⟩) = none := by simp [ints, getI, a0, a1]
            rw [e]
            exact (get_b2short ⟨⟨[b0, b1, b2]⟩⟩ w hF hl hp (show 3 < 4 by decide) (show (128 : Int) ≤ (b0.toNat : Int) by omega) a2).mono fun _ _ ⟨he, hb⟩ => ⟨he, hb⟩
        · have e : getI (ints ⟨⟨b0 :: r⟩⟩) = none := by simp [ints, getI, a0, a1, a2]
          rw [e]
          exact (get_b3 ⟨⟨b0 :: r⟩⟩ w hF hl hp (show (192 : Int) ≤ (b0.toNat : Int) by omega)).mono fun _ _ ⟨he, hb⟩ => ⟨he, hb⟩

theorem nums_bd (n : Int) (h : mayB n = true) : ∀ z ∈ nums n, 0 ≤ z ∧ z < 256 := by
  obtain ⟨h0, h1⟩ := mayB_yes h
  unfold nums
  by_cases a : n < 64
  · simp [a]; omega
  · by_cases b : n < 16384
    · simp [a, b]; omega
    · simp [a, b]; omega
theorem getI_back (n : Int) (h : mayB n = true) (rest : List Int) : getI (nums n ++ rest) = some (n, lng n) := by
  obtain ⟨h0, h1⟩ := mayB_yes h
  unfold nums lng
  by_cases a : n < 64
  · simp [a, getI]
  · by_cases b : n < 16384
    · have c1 : ¬ 64 + n / 256 < 64 := by omega
      have c2 : 64 + n / 256 < 128 := by omega
      have c3 : (64 + n / 256) * 256 + n % 256 - 16384 = n := by omega
      simp [a, b, getI, c1, c2, c3]
    · have c1 : ¬ 128 + n / 16777216 < 64 := by omega
      have c2 : ¬ 128 + n / 16777216 < 128 := by omega
      have c3 : 128 + n / 16777216 < 192 := by omega
      have c4 : (((128 + n / 16777216) * 256 + n / 65536 % 256) * 256 + n / 256 % 256) * 256 + n % 256 - 2147483648 = n := by omega
      simp [a, b, getI, c1, c2, c3, c4]
theorem ints_nums (l : List Int) (h : ∀ z ∈ l, 0 ≤ z ∧ z < 256) : ints (strOfNums l) = l := by
  unfold ints strOfNums
  simp only [List.map_map]
  conv => rhs; rw [← List.map_id l]
  apply List.map_congr_left
  intro z hz
  have := h z hz
  simp
  omega
theorem ints_app (s t : ByteArray) : ints (s ++ t) = ints s ++ ints t := by
  simp [ints]

end Go.Proofs.YtjpdembofiadbaaDoor.V
