/- What the laws of package run need. -/
set_option linter.unusedVariables false
set_option linter.unusedSimpArgs false
set_option maxRecDepth 100000
set_option maxHeartbeats 8000000
namespace Go.Proofs.YtdokgalidhmbbaaGreatDoor.Lk


abbrev LR := Int × ByteArray
def at' (zs : List LR) (j : Nat) : LR := zs[j]?.getD (0, ⟨#[]⟩)
theorem at_get {zs : List LR} {j : Nat} (h : j < zs.length) : zs[j]? = some (at' zs j) := by simp [at', h]
theorem at_mem {zs : List LR} {j : Nat} (h : j < zs.length) : at' zs j ∈ zs := List.mem_of_getElem? (at_get h)
def endB (n : Int) : Bool := decide (n = 0 ∨ n = 1)
def onB (ls : List LR) (i : Int) : Bool := decide (0 ≤ i ∧ i < (ls.length : Int))
def sendF (ls : List LR) (to : Int) (b : ByteArray) : Int := if endB to = true then (if 40 ≤ ls.length ∨ 200 < b.size then 4 else 0) else 1
def sendS (ls : List LR) (to : Int) (b : ByteArray) : List LR := if sendF ls to b = 0 then ls ++ [(to, b)] else ls
def cut1 (ls : List LR) (p : Nat) : List LR := ls.take p ++ ls.drop (p + 1)
def giveF (ls : List LR) (i : Int) : Int := if onB ls i = true then 0 else 1
def giveV (ls : List LR) (i : Int) : LR := if onB ls i = true then at' ls i.toNat else (0, ⟨#[]⟩)
def giveS (ls : List LR) (i : Int) : List LR := if onB ls i = true then cut1 ls i.toNat else ls
def twF (ls : List LR) (i : Int) : Int := if onB ls i = true then (if 40 ≤ ls.length then 4 else 0) else 1
def twS (ls : List LR) (i : Int) : List LR := if twF ls i = 0 then ls ++ [at' ls i.toNat] else ls
/-- No more than forty, each to one of two, and none too long. -/
structure Inv (ls : List LR) : Prop where
  few : ls.length ≤ 40
  ok : ∀ x ∈ ls, endB x.1 = true ∧ x.2.size ≤ 200
theorem Inv.start : Inv [] := ⟨by simp, fun x h => by simp at h⟩
theorem onB_yes {ls : List LR} {i : Int} (h : onB ls i = true) : ∃ p : Nat, i = (p : Int) ∧ p < ls.length := by
  have h := of_decide_eq_true h
  exact ⟨i.toNat, by omega, by omega⟩
theorem onB_at {ls : List LR} {p : Nat} (h : p < ls.length) : onB ls (p : Int) = true := decide_eq_true (by omega)
theorem cut1_length {ls : List LR} {p : Nat} (h : p < ls.length) : (cut1 ls p).length = ls.length - 1 := by
  rw [cut1, List.length_append, List.length_take, List.length_drop]; omega
theorem cut1_mem {ls : List LR} {p : Nat} {x : LR} (h : x ∈ cut1 ls p) : x ∈ ls := by
  rcases List.mem_append.1 h with h | h
  · exact List.mem_of_mem_take h
  · exact List.mem_of_mem_drop h
theorem Inv.cut {ls : List LR} (h : Inv ls) (p : Nat) : Inv (cut1 ls p) := by
  refine ⟨?_, fun x hx => h.ok x (cut1_mem hx)⟩
  have := h.few
  rw [cut1, List.length_append, List.length_take, List.length_drop]; omega
theorem Inv.add {ls : List LR} (h : Inv ls) {to : Int} {b : ByteArray} (h1 : endB to = true) (h2 : ls.length < 40) (h3 : b.size ≤ 200) : Inv (ls ++ [(to, b)]) := by
  refine ⟨by simp; omega, fun x hx => ?_⟩
  rcases List.mem_append.1 hx with hx | hx
  · exact h.ok x hx
  · obtain rfl : x = (to, b) := by simpa using hx
    exact ⟨h1, h3⟩
theorem sendF_cases (ls : List LR) (to : Int) (b : ByteArray) : (sendF ls to b = 1 ∧ endB to = false) ∨ (sendF ls to b = 4 ∧ endB to = true ∧ (40 ≤ ls.length ∨ (ls.length < 40 ∧ 200 < b.size))) ∨ (sendF ls to b = 0 ∧ endB to = true ∧ ls.length < 40 ∧ b.size ≤ 200) := by
  unfold sendF
  cases h : endB to with
  | false => exact .inl ⟨by simp, rfl⟩
  | true =>
    by_cases h2 : 40 ≤ ls.length ∨ 200 < b.size
    · exact .inr (.inl ⟨by simp [h2], rfl, by omega⟩)
    · exact .inr (.inr ⟨by simp [h2], rfl, by omega, by omega⟩)
theorem sendS_no {ls : List LR} {to : Int} {b : ByteArray} (h : sendF ls to b ≠ 0) : sendS ls to b = ls := if_neg h
theorem sendS_yes {ls : List LR} {to : Int} {b : ByteArray} (h : sendF ls to b = 0) : sendS ls to b = ls ++ [(to, b)] := if_pos h
theorem giveF_yes {ls : List LR} {i : Int} (h : onB ls i = true) : giveF ls i = 0 := if_pos h
theorem giveF_no {ls : List LR} {i : Int} (h : onB ls i = false) : giveF ls i = 1 := if_neg (by rw [h]; decide)
theorem giveV_yes {ls : List LR} {i : Int} (h : onB ls i = true) : giveV ls i = at' ls i.toNat := if_pos h
theorem giveV_no {ls : List LR} {i : Int} (h : onB ls i = false) : giveV ls i = (0, ⟨#[]⟩) := if_neg (by rw [h]; decide)
theorem giveS_yes {ls : List LR} {i : Int} (h : onB ls i = true) : giveS ls i = cut1 ls i.toNat := if_pos h
theorem giveS_no {ls : List LR} {i : Int} (h : onB ls i = false) : giveS ls i = ls := if_neg (by rw [h]; decide)
/-- What goes twice is sent as it was. -/
theorem tw_send {ls : List LR} (h : Inv ls) {p : Nat} (hp : p < ls.length) : twF ls (p : Int) = sendF ls (at' ls p).1 (at' ls p).2 ∧ twS ls (p : Int) = sendS ls (at' ls p).1 (at' ls p).2 := by
  obtain ⟨h1, h2⟩ := h.ok _ (at_mem hp)
  have e : twF ls (p : Int) = sendF ls (at' ls p).1 (at' ls p).2 := by
    unfold twF sendF
    rw [if_pos (onB_at hp), if_pos h1]
    by_cases h3 : 40 ≤ ls.length
    · rw [if_pos h3, if_pos (.inl h3)]
    · rw [if_neg h3, if_neg (by omega)]
  refine ⟨e, ?_⟩
  unfold twS sendS
  rw [e, Int.toNat_natCast]
theorem twF_no {ls : List LR} {i : Int} (h : onB ls i = false) : twF ls i = 1 := if_neg (by rw [h]; decide)
theorem twS_no {ls : List LR} {i : Int} (h : twF ls i ≠ 0) : twS ls i = ls := if_neg h
end Go.Proofs.YtdokgalidhmbbaaGreatDoor.Lk
