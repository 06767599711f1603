/- The document's Get, said over the bytes as numbers; the walk of the law VarintTells. -/
import Derived.Test.YtjpdembofiadbaaDoorVM
namespace Go.Proofs.YtjpdembofiadbaaDoor.V
open Go.RowKit Go.Lib
set_option linter.unusedVariables false
set_option linter.unusedSimpArgs false

theorem ret_tup {a b : Int} {k : Int} {t : Bool} (h : a = b) : Ending.returned (.tuple #[.int .i64 a, .int .i64 k, .bool t]) = .returned (.tuple #[.int .i64 b, .int .i64 k, .bool t]) := by rw [h]

set_option maxHeartbeats 1000000 in
theorem rget_all (s : ByteArray) (w : World) (hl : s.size ≤ maxLen) :
    Calls Tryd.prog 36 #[.string s] w fun e w' => e = .returned (getRV (getI (ints s))) ∧ Below w.heap.size w w' := by
  obtain ⟨⟨l⟩⟩ := s
  match l, hl with
  | [], hl => exact rget_empty _ w rfl
  | b0 :: r, hl =>
    have hp : 0 < (⟨⟨b0 :: r⟩⟩ : ByteArray).size := Nat.succ_pos _
    by_cases a0 : (b0.toNat : Int) < 64
    · have e : getI (ints ⟨⟨b0 :: r⟩⟩) = some ((b0.toNat : Int), 1) := by simp [ints, getI, a0]
      rw [e]
      exact (rget_0 ⟨⟨b0 :: r⟩⟩ w hl hp a0).mono fun _ _ ⟨he, hb⟩ => ⟨he.trans (ret_tup (show (b0.toNat : Int) % (64 : Int) = (b0.toNat : Int) by omega)), hb⟩
    · by_cases a1 : (b0.toNat : Int) < 128
      · match r, hl, hp with
        | [], hl, hp =>
          have e : getI (ints ⟨⟨[b0]⟩⟩) = none := by simp [ints, getI, a0, a1]
          rw [e]
          exact (rget_b1short ⟨⟨[b0]⟩⟩ w hl hp (Nat.lt_succ_self 1) (show (64 : Int) ≤ (b0.toNat : Int) by omega) a1).mono fun _ _ ⟨he, hb⟩ => ⟨he, hb⟩
        | b1 :: r, hl, hp =>
          have hp1 : 1 < (⟨⟨b0 :: b1 :: r⟩⟩ : ByteArray).size := Nat.succ_lt_succ (Nat.succ_pos _)
          by_cases c : (b0.toNat : Int) * 256 + (b1.toNat : Int) - 16384 < 64
          · have e : getI (ints ⟨⟨b0 :: b1 :: r⟩⟩) = none := by simp [ints, getI, a0, a1, c]
            rw [e]
            exact (rget_1no ⟨⟨b0 :: b1 :: r⟩⟩ w hl hp1 (show (64 : Int) ≤ (b0.toNat : Int) by omega) a1 (show (256 : Int) * ((b0.toNat : Int) % (64 : Int)) + (b1.toNat : Int) < 64 by omega)).mono fun _ _ ⟨he, hb⟩ => ⟨he, hb⟩
          · have e : getI (ints ⟨⟨b0 :: b1 :: r⟩⟩) = some ((b0.toNat : Int) * 256 + (b1.toNat : Int) - 16384, 2) := by simp [ints, getI, a0, a1, c]
            rw [e]
            exact (rget_1 ⟨⟨b0 :: b1 :: r⟩⟩ w hl hp1 (show (64 : Int) ≤ (b0.toNat : Int) by omega) a1 (show (64 : Int) ≤ (256 : Int) * ((b0.toNat : Int) % (64 : Int)) + (b1.toNat : Int) by omega)).mono fun _ _ ⟨he, hb⟩ => ⟨he.trans (ret_tup (show (256 : Int) * ((b0.toNat : Int) % (64 : Int)) + (b1.toNat : Int) = (b0.toNat : Int) * 256 + (b1.toNat : Int) - 16384 by omega)), hb⟩
      · by_cases a2 : (b0.toNat : Int) < 192
        · match r, hl, hp with
          | b1 :: b2 :: b3 :: r, hl, hp =>
            have hp3 : 3 < (⟨⟨b0 :: b1 :: b2 :: b3 :: r⟩⟩ : ByteArray).size := Nat.succ_lt_succ (Nat.succ_lt_succ (Nat.succ_lt_succ (Nat.succ_pos _)))
            by_cases c : (((b0.toNat : Int) * 256 + (b1.toNat : Int)) * 256 + (b2.toNat : Int)) * 256 + (b3.toNat : Int) - 2147483648 < 16384
            · have e : getI (ints ⟨⟨b0 :: b1 :: b2 :: b3 :: r⟩⟩) = none := by simp [ints, getI, a0, a1, a2, c]
              rw [e]
              exact (rget_2no ⟨⟨b0 :: b1 :: b2 :: b3 :: r⟩⟩ w hl hp3 (show (128 : Int) ≤ (b0.toNat : Int) by omega) a2 (show (256 : Int) * ((256 : Int) * ((256 : Int) * ((b0.toNat : Int) % (64 : Int)) + (b1.toNat : Int)) + (b2.toNat : Int)) + (b3.toNat : Int) < 16384 by omega)).mono fun _ _ ⟨he, hb⟩ => ⟨he, hb⟩
            · have e : getI (ints ⟨⟨b0 :: b1 :: b2 :: b3 :: r⟩⟩) = some ((((b0.toNat : Int) * 256 + (b1.toNat : Int)) * 256 + (b2.toNat : Int)) * 256 + (b3.toNat : Int) - 2147483648, 4) := by simp [ints, getI, a0, a1, a2, c]
              rw [e]
              exact (rget_2 ⟨⟨b0 :: b1 :: b2 :: b3 :: r⟩⟩ w hl hp3 (show (128 : Int) ≤ (b0.toNat : Int) by omega) a2 (show (16384 : Int) ≤ (256 : Int) * ((256 : Int) * ((256 : Int) * ((b0.toNat : Int) % (64 : Int)) + (b1.toNat : Int)) + (b2.toNat : Int)) + (b3.toNat : Int) by omega)).mono fun _ _ ⟨he, hb⟩ => ⟨he.trans (ret_tup (show (256 : Int) * ((256 : Int) * ((256 : Int) * ((b0.toNat : Int) % (64 : Int)) + (b1.toNat : Int)) + (b2.toNat : Int)) + (b3.toNat : Int) = (((b0.toNat : Int) * 256 + (b1.toNat : Int)) * 256 + (b2.toNat : Int)) * 256 + (b3.toNat : Int) - 2147483648 by omega)), hb⟩
          | [], hl, hp =>
            have e : getI (ints ⟨⟨[b0]⟩⟩) = none := by simp [ints, getI, a0, a1]
            rw [e]
            exact (rget_b2short ⟨⟨[b0]⟩⟩ w hl hp (show 1 < 4 by decide) (show (128 : Int) ≤ (b0.toNat : Int) by omega) a2).mono fun _ _ ⟨he, hb⟩ => ⟨he, hb⟩
          | [b1], hl, hp =>
            have e : getI (ints ⟨⟨[b0, b1]⟩⟩) = none := by simp [ints, getI, a0, a1]
            rw [e]
            exact (rget_b2short ⟨⟨[b0, b1]⟩⟩ w hl hp (show 2 < 4 by decide) (show (128 : Int) ≤ (b0.toNat : Int) by omega) a2).mono fun _ _ ⟨he, hb⟩ => ⟨he, hb⟩
          | [b1, b2], hl, hp =>
            have e : getI (ints ⟨⟨[b0, b1, b2]⟩⟩) = none := by simp [ints, getI, a0, a1]
            rw [e]
            exact (rget_b2short ⟨⟨[b0, b1, b2]⟩⟩ w hl hp (show 3 < 4 by decide) (show (128 : Int) ≤ (b0.toNat : Int) by omega) a2).mono fun _ _ ⟨he, hb⟩ => ⟨he, hb⟩
        · have e : getI (ints ⟨⟨b0 :: r⟩⟩) = none := by simp [ints, getI, a0, a1, a2]
          rw [e]
          exact (rget_b3 ⟨⟨b0 :: r⟩⟩ w hl hp (show (192 : Int) ≤ (b0.toNat : Int) by omega)).mono fun _ _ ⟨he, hb⟩ => ⟨he, hb⟩

end Go.Proofs.YtjpdembofiadbaaDoor.V
