/- What TalkPlays needs. -/
set_option linter.unusedVariables false
set_option linter.unusedSimpArgs false
set_option maxRecDepth 100000
set_option maxHeartbeats 8000000
namespace Go.Proofs.YtdnehibcpkjafaaGreatDoor.Lk
abbrev LR:=Int×ByteArray
def at' (zs:List LR) (j:Nat):LR:=zs[j]?.getD (0,⟨#[]⟩)
theorem zHv {zs:List LR} {j:Nat} (h:j<zs.length):zs[j]? =some (at' zs j):=by simp [at',h]
theorem at_mem {zs:List LR} {j:Nat} (h:j<zs.length):at' zs j∈zs:=List.mem_of_getElem? (zHv h)
def endB (n:Int):Bool:=decide (n=0∨n=1)
def onB (ls:List LR) (i:Int):Bool:=decide (0≤i∧i<(ls.length:Int))
def zfv (ls:List LR) (to:Int) (b:ByteArray):Int:=if endB to=true then (if 40≤ls.length∨200<b.size then 4 else 0) else 1
def zp5 (ls:List LR) (to:Int) (b:ByteArray):List LR:=if zfv ls to b=0 then ls++ [(to,b)] else ls
def cut1 (ls:List LR) (p:Nat):List LR:=ls.take p++ls.drop (p+1)
def zik (ls:List LR) (i:Int):Int:=if onB ls i=true then 0 else 1
def zgu (ls:List LR) (i:Int):LR:=if onB ls i=true then at' ls i.toNat else (0,⟨#[]⟩)
def zng (ls:List LR) (i:Int):List LR:=if onB ls i=true then cut1 ls i.toNat else ls
def twF (ls:List LR) (i:Int):Int:=if onB ls i=true then (if 40≤ls.length then 4 else 0) else 1
def twS (ls:List LR) (i:Int):List LR:=if twF ls i=0 then ls++ [at' ls i.toNat] else ls
structure Inv (ls:List LR):Prop where
 few:ls.length≤40
 ok:∀x∈ls,endB x.1=true∧x.2.size≤200
theorem Inv.start:Inv []:=⟨by simp,fun x h=>by simp at h⟩
theorem ze2 {ls:List LR} {i:Int} (h:onB ls i=true):∃p:Nat,i=(p:Int)∧p<ls.length:=by
 have h:=of_decide_eq_true h
 exact ⟨i.toNat,by omega,by omega⟩
theorem zns {ls:List LR} {p:Nat} (h:p<ls.length):onB ls (p:Int)=true:=decide_eq_true (by omega)
theorem zqn {ls:List LR} {p:Nat} (h:p<ls.length):(cut1 ls p).length=ls.length-1:=by
 rw [cut1,List.length_append,List.length_take,List.length_drop];omega
theorem zl1 {ls:List LR} {p:Nat} {x:LR} (h:x∈cut1 ls p):x∈ls:=by
 rcases List.mem_append.1 h with h | h
 ·exact List.mem_of_mem_take h
 ·exact List.mem_of_mem_drop h
theorem Inv.cut {ls:List LR} (h:Inv ls) (p:Nat):Inv (cut1 ls p):=by
 refine ⟨?_,fun x hx=>h.ok x (zl1 hx)⟩
 have:=h.few
 rw [cut1,List.length_append,List.length_take,List.length_drop];omega
theorem Inv.add {ls:List LR} (h:Inv ls) {to:Int} {b:ByteArray} (h1:endB to=true) (h2:ls.length<40) (h3:b.size≤200):Inv (ls++ [(to,b)]):=by
 refine ⟨by simp;omega,fun x hx=> ?_⟩
 rcases List.mem_append.1 hx with hx | hx
 ·exact h.ok x hx
 ·obtain rfl:x=(to,b):=by simpa using hx
  exact ⟨h1,h3⟩
theorem zkg (ls:List LR) (to:Int) (b:ByteArray):(zfv ls to b=1∧endB to=false)∨(zfv ls to b=4∧endB to=true∧(40≤ls.length∨(ls.length<40∧200<b.size)))∨(zfv ls to b=0∧endB to=true∧ls.length<40∧b.size≤200):=by
 unfold zfv
 cases h:endB to with
 | false=>exact .inl ⟨by simp,rfl⟩
 | true=>
  by_cases h2:40≤ls.length∨200<b.size
  ·exact .inr (.inl ⟨by simp [h2],rfl,by omega⟩)
  ·exact .inr (.inr ⟨by simp [h2],rfl,by omega,by omega⟩)
theorem ziv {ls:List LR} {to:Int} {b:ByteArray} (h:zfv ls to b≠0):zp5 ls to b=ls:=if_neg h
theorem zgj {ls:List LR} {to:Int} {b:ByteArray} (h:zfv ls to b=0):zp5 ls to b=ls++ [(to,b)]:=if_pos h
theorem Inv.send {ls:List LR} (h:Inv ls) (to:Int) (b:ByteArray):Inv (zp5 ls to b):=by
 rcases zkg ls to b with ⟨e,_⟩ | ⟨e,_⟩ | ⟨e,h1,h2,h3⟩
 ·rw [ziv (by rw [e];decide)];exact h
 ·rw [ziv (by rw [e];decide)];exact h
 ·rw [zgj e];exact h.add h1 h2 h3
theorem zg9 {ls:List LR} {i:Int} (h:onB ls i=true):zik ls i=0:=if_pos h
theorem zmj {ls:List LR} {i:Int} (h:onB ls i=false):zik ls i=1:=if_neg (by rw [h];decide)
theorem zhb {ls:List LR} {i:Int} (h:onB ls i=true):zgu ls i=at' ls i.toNat:=if_pos h
theorem zm3 {ls:List LR} {i:Int} (h:onB ls i=false):zgu ls i=(0,⟨#[]⟩):=if_neg (by rw [h];decide)
theorem zeo {ls:List LR} {i:Int} (h:onB ls i=true):zng ls i=cut1 ls i.toNat:=if_pos h
theorem zg3 {ls:List LR} {i:Int} (h:onB ls i=false):zng ls i=ls:=if_neg (by rw [h];decide)
theorem zqb {ls:List LR} (h:Inv ls) {p:Nat} (hp:p<ls.length):twF ls (p:Int)=zfv ls (at' ls p).1 (at' ls p).2∧twS ls (p:Int)=zp5 ls (at' ls p).1 (at' ls p).2:=by
 obtain ⟨h1,h2⟩:=h.ok _ (at_mem hp)
 have e:twF ls (p:Int)=zfv ls (at' ls p).1 (at' ls p).2:=by
  unfold twF zfv
  rw [if_pos (zns hp),if_pos h1]
  by_cases h3:40≤ls.length
  ·rw [if_pos h3,if_pos (.inl h3)]
  ·rw [if_neg h3,if_neg (by omega)]
 refine ⟨e,?_⟩
 unfold twS zp5
 rw [e,Int.toNat_natCast]
theorem zk6 {ls:List LR} {i:Int} (h:onB ls i=false):twF ls i=1:=if_neg (by rw [h];decide)
theorem zno {ls:List LR} {i:Int} (h:twF ls i≠0):twS ls i=ls:=if_neg h
theorem Inv.twice {ls:List LR} (h:Inv ls) (i:Int):Inv (twS ls i):=by
 cases e:onB ls i with
 | false=>rw [zno (by rw [zk6 e];decide)];exact h
 | true=>
  obtain ⟨p,rfl,hp⟩:=ze2 e
  rw [(zqb h hp).2];exact h.send _ _
theorem Inv.give {ls:List LR} (h:Inv ls) (i:Int):Inv (zng ls i):=by
 cases e:onB ls i with
 | false=>rw [zg3 e];exact h
 | true=>rw [zeo e];exact h.cut _
end Go.Proofs.YtdnehibcpkjafaaGreatDoor.Lk
