/- What TalkPlays needs. -/
import Derived.Test.YtdnehibcpkjafaaGreatDoorHR
set_option linter.unusedVariables false
set_option linter.unusedSimpArgs false
set_option maxRecDepth 100000
set_option maxHeartbeats 8000000
namespace Go.Proofs.YtdnehibcpkjafaaGreatDoor.Lx
open Go.RowKit Go.Lib Go.Sort
theorem zBo (ao:Option Addr) (len cap:Nat) (zs:List R) (n:Int) (w:World) (hlen:zs.length=len) (hl:len≤9223372036854775807) (hz:zs= []∨∃b off,ao=some ⟨b,off,none⟩∧b<w.heap.size∧Cells w b off zs):
  Calls Tryz.prog 65 #[.slice ao len cap,.int .i64 n] w fun e w'=>e= .returned (.bool (memB zs n))∧Below w.heap.size w w':=by
 have HL:Hid (zs.length=len):=hlen
 have HZ:Hid (zs= []∨∃b off,ao=some ⟨b,off,none⟩∧b<w.heap.size∧Cells w b off zs):=hz
 clear hlen hz
 go_enter Tryz.func65,Tryz.ntmps65
 go_wp2_with fail
 go_loopw [5] (fun i wr=>∃k:Nat,k≤len∧i= .int .i64 k∧Hid (memB zs n=memB (zs.drop k) n)∧Below w.heap.size w wr) (fun i _=>len-(intOf i).toNat)
 case atStart=>exact ⟨0,Nat.zero_le _,rfl,rfl,Below.refl _ _⟩
 case round=>
  obtain ⟨k,hk,rfl,hE,hB⟩:=hrel
  by_cases hlt:k<len
  ·have g1:(k:Int)<(len:Int):=by omega
   have hkl:k<zs.length:=by have:=HL.out;omega
   obtain ⟨b,off,rfl,hb,hC⟩:∃b off,ao=some ⟨b,off,none⟩∧b<w.heap.size∧Cells w b off zs:=by
    rcases HZ.out with h | h
    ·rw [h] at hkl;simp at hkl
    ·exact h
   have c0:=(hC.below hb hB k hkl).1
   have c1:=(hC.below hb hB k hkl).2
   have HD:Hid (memB zs n=(inB (at' zs k) n || memB (zs.drop (k+1)) n)):=by
    show _=_
    rw [hE.out,drop_at hkl];rfl
   clear hC hkl hE
   generalize at' zs k=r at c0 c1 HD
   obtain ⟨lo,hi⟩:=r
   simp only at c0 c1
   by_cases h1:lo≤n
   ·by_cases h2:n≤hi
    ·have HF:Hid (memB zs n=true):=by
      show _=_
      rw [HD.out];simp [inB,h1,h2]
     clear HD
     go_wp2_with fail
     go_ret
     exact ⟨by rw [HF.out];rfl,hB⟩
    ·have HF:Hid (memB zs n=memB (zs.drop (k+1)) n):=by
      show _=_
      rw [HD.out,show inB (lo,hi) n=false by simp [inB];omega];rfl
     clear HD
     go_wp2_with fail
     exact ⟨⟨k+1,by omega,by go_num,HF,hB⟩,by simp [intOf];omega⟩
   ·have HF:Hid (memB zs n=memB (zs.drop (k+1)) n):=by
     show _=_
     rw [HD.out,show inB (lo,hi) n=false by simp [inB];omega];rfl
    clear HD
    go_wp2_with fail
    exact ⟨⟨k+1,by omega,by go_num,HF,hB⟩,by simp [intOf];omega⟩
  ·obtain rfl:k=len:=by omega
   have e1:zs.drop k= []:=List.drop_eq_nil_of_le (by have:=HL.out;omega)
   have HF:Hid (memB zs n=false):=by
    show _=_
    rw [hE.out,e1];rfl
   clear hE e1
   go_wp2_with fail
   go_ret
   exact ⟨by rw [HF.out];rfl,hB⟩
theorem zn4 (v:Value) (zs:List R) (n:Int) (w:World) (h:Row w v zs):
  Calls Tryz.prog 65 #[v,.int .i64 n] w fun e w'=>e= .returned (.bool (memB zs n))∧Below w.heap.size w w':=by
 obtain ⟨ao,c,rfl,hl,hn,h⟩:=h
 exact zBo ao _ c zs n w rfl hl h
end Go.Proofs.YtdnehibcpkjafaaGreatDoor.Lx
