/- Slices of pieces; what pieces answers. -/
import Derived.Test.YtegelodkopommaaGreatDoorEC
import Derived.Laws.AppendOwn
import Derived.Laws.AppendOwnNone
import Derived.Deep.LoopGhost
namespace Go.Proofs.YtegelodkopommaaGreatDoor
open Go.RowKit Go.Lib Go.Sort
set_option linter.unusedVariables false
set_option linter.unusedSimpArgs false


def pcell (l : List (Nat × ByteArray)) : List Value := l.flatMap fun p => [.int .i64 p.1, .string p.2]
theorem pcell_append (a b : List (Nat × ByteArray)) : pcell (a ++ b) = pcell a ++ pcell b := by simp [pcell]
theorem pcell_length : ∀ l : List (Nat × ByteArray), (pcell l).length = l.length * 2
  | [] => rfl
  | p :: l => by
    show ([Value.int .i64 p.1, .string p.2] ++ pcell l).length = _
    rw [List.length_append, pcell_length l, List.length_cons]
    simp
    omega
theorem pcell_at : ∀ (l : List (Nat × ByteArray)) (j : Nat) (hj : j < l.length), (pcell l)[j * 2]? = some (.int .i64 (l[j].1 : Int)) ∧ (pcell l)[j * 2 + 1]? = some (.string l[j].2)
  | [], j, h => by simp at h
  | p :: l, 0, _ => by simp [pcell]
  | p :: l, j + 1, hj => by
    have i := pcell_at l j (by simpa using hj)
    have e : (j + 1) * 2 = j * 2 + 1 + 1 := by omega
    rw [e]
    simpa [pcell] using i
theorem pcell_one {l : List (Nat × ByteArray)} : ∀ u, u ∈ pcell l → u.oneCell' = true := by
  intro u hu
  obtain ⟨p, _, h⟩ := List.mem_flatMap.1 hu
  simp at h
  rcases h with rfl | rfl <;> rfl
theorem infoP : (Tryz.prog.info? 112).map (fun i => (i.zero, i.size, i.bytes)) = some (some (.agg #[.int .i64 0, .string { data := #[] }]), 2, 24) := by kernel_rfl
theorem pcell_new (w : World) (a : Nat) (s : ByteArray) (j : Nat) (u : Value) (hu : (pcell [(a, s)])[j]? = some u) : (w.alloc (.cells #[.int .i64 a, .string s] 112)).cell? ((⟨w.heap.size, 0, none⟩ : Addr).add j) = some u := by
  match j, hu with
  | 0, hu => simp [pcell] at hu; subst hu; rw [Addr.add_lit]; simp
  | 1, hu => simp [pcell] at hu; subst hu; rw [Addr.add_lit]; simp
  | j + 2, hu => simp [pcell] at hu
theorem own_sh {w : World} {base e size : Nat} {v : Value} {n : Nat} {xs : List Value} (h : w.ownsRow base e size v n xs) : ∃ ao c, v = .slice ao n c := by
  rcases h.2 with ⟨rfl, h0⟩ | ⟨g, cap, cur, rfl, _⟩
  · exact ⟨none, 0, by rw [h0]⟩
  · exact ⟨_, cap, rfl⟩
theorem cell_kept {W W' : World} {row : Option Nat} {b o : Nat} {v : Value} (h : W.cell? ⟨b, o, none⟩ = some v) (hg : W.grownBy W' row) (hlt : b < W.heap.size) (hne : some b ≠ row) : W'.cell? ⟨b, o, none⟩ = some v := by
  rw [← h]; unfold World.cell?; rw [hg.block b hlt hne]
theorem toList_some {s : ByteArray} (h : s.size ≠ 0) : s.toList.isEmpty = false := by
  rw [ByteArray.toList_eq]
  obtain ⟨⟨l⟩⟩ := s
  cases l with
  | nil => exact absurd rfl h
  | cons b r => rfl
theorem extract_none {d : ByteArray} {a b : Nat} (h : b ≤ a) : d.extract a b = { data := #[] } := by
  have : (d.extract a b).size = 0 := by rw [ByteArray.size_extract]; omega
  apply ByteArray.ext
  exact Array.eq_empty_of_size_eq_zero this
set_option maxRecDepth 100000 in
set_option maxHeartbeats 4000000 in
theorem pieces_calls {w : World} {B eb : Nat} {vl vc : Value} {e : En} (h : EO w B eb vl vc e) :
    Calls Tryz.prog 34 #[.pointer (some ⟨eb, 0, none⟩)] w fun ex w' => ∃ v, ex = .returned v ∧ w'.ownsRow w.heap.size 112 2 v (pieces e).length (pcell (pieces e)) ∧ Below w.heap.size w w' := by
  obtain ⟨i0, hi0, hz0, hz1, hz2⟩ := info_parts infoP
  have HO : Hid (EO w B eb vl vc e) := h
  clear h
  go_enter Tryz.func34, Tryz.ntmps34
  go_wp2_with fail
  go_loopg [3, 4, 6] 3 (fun gk s3 s4 s6 wr => ∃ (k place : Nat) (ao : Option Addr) (c : Nat) (l : List (Nat × ByteArray)), gk + k = 3 ∧ place ≤ en e ∧ Hid (l ++ pcs e.d (en e) (3 - k) (max place e.t) = pieces e) ∧ l.length ≤ k ∧ s3 = .slice ao l.length c ∧ s4 = .int .i64 place ∧ s6 = .int .i64 k ∧ wr.ownsRow w.heap.size 112 2 (.slice ao l.length c) l.length (pcell l) ∧ Below w.heap.size w wr)
  case atStart => exact ⟨0, 0, none, 0, [], rfl, Nat.zero_le _, (by show [] ++ pcs e.d (en e) 3 (max 0 e.t) = _; rw [Nat.zero_max]; rfl), Nat.le_refl _, rfl, rfl, rfl, World.ownsRow_nil _ _ _ _, Below.refl _ _⟩
  case round =>
    obtain ⟨k, place, ao, c, l, hk, hpl, hP, hlk, rfl, rfl, rfl, hown, hB⟩ := hrel
    have HK : Hid (gk + k = 3) := hk
    have HPL : Hid (place ≤ en e) := hpl
    clear hk hpl
    by_cases g : (k : Int) < 3
    · have hcall := pieceFrom_calls (HO.out.below hB) place HPL.out
      have h60 := HO.out.inv.en60
      have hen := en_le e
      obtain ⟨a, ha⟩ : ∃ a, max place e.t = a := ⟨_, rfl⟩
      have hae : a ≤ en e := by have := HPL.out; have := HO.out.inv.t1; omega
      rw [ha] at hcall hP
      have HT : Hid (e.t ≤ a) := by show _ ≤ _; omega
      clear ha
      by_cases g2 : a < en e
      · obtain ⟨s, hs⟩ : ∃ s, e.d.extract a (min (en e) (a + 20)) = s := ⟨_, rfl⟩
        have hsz : s.size = min (en e) (a + 20) - a := by rw [← hs, ByteArray.size_extract]; omega
        have hne : s.toList.isEmpty = false := toList_some (by omega)
        have HN : Hid ((l ++ [(a, s)]) ++ pcs e.d (en e) (3 - (k + 1)) (max (a + s.size) e.t) = pieces e) := by
          show _ = _
          rw [← hP.out, List.append_assoc, show 3 - k = (3 - (k + 1)) + 1 by omega, hsz, show max (a + (min (en e) (a + 20) - a)) e.t = min (en e) (a + 20) by have := HT.out; omega]
          simp only [pcs, if_pos g2, hs]
          rfl
        rw [hs] at hcall
        have HZ : Hid (a + s.size ≤ en e) := by show _ ≤ _; omega
        have hz20 : s.size ≤ 20 := by omega
        have ha60 : a ≤ 60 := by omega
        clear hs hsz hP hae h60 hen
        go_wp2_with fail
        refine hcall.mono ?_
        rintro ex w1 ⟨rfl, hb1⟩
        clear hcall
        have hB1 := hB.trans (hb1.mono hB.size)
        have ho1 := own_below hown hb1
        have hnb : some w1.heap.size ≠ (Value.slice ao l.length c).ownBlock := fun e => by have := (ho1.lt _ e.symm).2; omega
        have ho2 := ho1.alloc (.cells #[.int .i64 (a : Int), .string s] 112)
        have hB2 := hB1.alloc hB1.size (.cells #[.int .i64 (a : Int), .string s] 112)
        have ho3 := ho2.alloc (.cells #[.int .i64 (a : Int), .string s] 112)
        have hB3 := hB2.alloc hB2.size (.cells #[.int .i64 (a : Int), .string s] 112)
        have cs := pcell_new (w1.alloc (.cells #[.int .i64 (a : Int), .string s] 112)) a s
        rw [World.size_alloc] at cs
        have hle3 := hB3.size
        have q0 : ∀ X, w1.alloc (.cells #[.int .i64 (a : Int), .string s] 112) = X → X.cell? ⟨w1.heap.size, 0, none⟩ = some (.int .i64 (a : Int)) ∧ X.cell? ⟨w1.heap.size, 1, none⟩ = some (.string s) := by rintro X rfl; simp
        clear hB hb1 hown ho1 ho2 hB1 hB2
        go_wp2_with (at_builtin; refine wpList_append_own_at _ rfl (.tmp 14) (.tmp 16) 86 rfl w.heap.size 112 i0 _ 2 24 Tryz.underlying86 hi0 hz0 hz1 hz2 rfl (by decide) _ _ (pcell l) rfl ho3 ⟨w1.heap.size + 1, 0, none⟩ 1 1 (pcell [(a, s)]) rfl rfl cs (fun u hu => pcell_one u hu) (by unfold maxLen; omega) (by omega) hle3 ?_; intro v3 w12 ho12 hg12 _ hl12; obtain ⟨ao3, cap3, rfl⟩ := own_sh ho12; have d0 := cell_kept (b := w1.heap.size) (o := 0) (v := .int .i64 (a : Int)) (by simp) hg12 (by simp; omega) hnb; have d1 := cell_kept (b := w1.heap.size) (o := 1) (v := .string s) (by simp) hg12 (by simp; omega) hnb)
        have hB4 := hB3.grown hg12 hle3 (fun k e => (ho3.lt k e).1)
        have hl2 : (l ++ [(a, s)]).length = l.length + 1 := by simp
        go_roundg (3 - (k + 1))
        case measure => have := HK.out; omega
        case rel => exact ⟨k + 1, a + s.size, ao3, cap3, l ++ [(a, s)], by have := HK.out; omega, HZ.out, HN, by rw [hl2]; omega, by rw [hl2], by go_num, by go_num, by rw [hl2, pcell_append]; exact ho12, hB4⟩
      · have he : e.d.extract a (min (en e) (a + 20)) = { data := #[] } := extract_none (by omega)
        have HE : Hid (pieces e = l) := by
          show _ = _
          rw [← hP.out, show a = en e by omega, pcs_end, List.append_nil]
        rw [he] at hcall
        clear he hP
        go_wp2_with fail
        refine hcall.mono ?_
        rintro ex w1 ⟨rfl, hb1⟩
        clear hcall
        have hB1 := hB.trans (hb1.mono hB.size)
        have ho1 := own_below hown hb1
        have ho2 := ho1.alloc (.cells #[.int .i64 (a : Int), .string { data := #[] }] 112)
        have hB2 := hB1.alloc hB1.size (.cells #[.int .i64 (a : Int), .string { data := #[] }] 112)
        clear hB hb1 hown ho1 hB1
        go_wp2_with fail
        go_ret
        exact ⟨_, rfl, by rw [HE.out]; exact ho2, hB2⟩
    · have HE : Hid (pieces e = l) := by
        have h3 : k = 3 := by have := HK.out; omega
        show _ = _
        rw [← hP.out, h3]
        simp [pcs]
      clear hP
      go_wp2_with fail
      go_ret
      exact ⟨_, rfl, by rw [HE.out]; exact hown, hB⟩
end Go.Proofs.YtegelodkopommaaGreatDoor
