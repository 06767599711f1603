/- What the law RunAnswers needs. -/
set_option linter.unusedVariables false
set_option linter.unusedSimpArgs false
set_option maxRecDepth 100000
set_option maxHeartbeats 8000000
namespace Go.Proofs.YtdokgalidhmbbaaGreatDoor.Lk
abbrev LR:=Int×ByteArray
def at'(J:List LR)(j:Nat):LR:=J[j]?.getD (0,⟨#[]⟩)
theorem zba{J:List LR}{j:Nat}(h:j<J.length):J[j]? =some (at' J j):=by simp[at',h]
theorem at_mem{zs:List LR}{j:Nat}(h:j<zs.length):at' zs j∈zs:=List.mem_of_getElem? (zba h)
def qN(n:Int):Bool:=decide (n=0\/n=1)
def qa(G:List LR)(i:Int):Bool:=decide (0<=i/\i<(G.length:Int))
def kJ(G:List LR)(a:Int)(b:ByteArray):Int:=if qN a=true then(if 40<=G.length\/200<b.size then 4 else 0)else 1
def Zu(G:List LR)(a:Int)(b:ByteArray):List LR:=if kJ G a b=0 then G++[(a,b)]else G
def qB(G:List LR)(p:Nat):List LR:=G.take p++G.drop (p+1)
def xU(G:List LR)(i:Int):Int:=if qa G i=true then 0 else 1
def kz(G:List LR)(i:Int):LR:=if qa G i=true then at' G i.toNat else(0,⟨#[]⟩)
def yI(G:List LR)(i:Int):List LR:=if qa G i=true then qB G i.toNat else G
def xk(G:List LR)(i:Int):Int:=if qa G i=true then(if 40<=G.length then 4 else 0)else 1
def vg(G:List LR)(i:Int):List LR:=if xk G i=0 then G++[at' G i.toNat]else G
structure Inv(ls:List LR):Prop where
 few:ls.length<=40
 ok:∀x∈ls,qN x.1=true/\x.2.size<=200
theorem Inv.start:Inv []:=⟨by simp,λx h=>by simp at h⟩
variable {G:List LR}{i:Int}
theorem Zi(h:qa G i=true):∃p:Nat,i=(p:Int)/\p<G.length:=by
 have h:=of_decide_eq_true h;exact⟨i.toNat,by omega,by omega⟩
variable {p:Nat}
theorem Q3(h:p<G.length):qa G (p:Int)=true:=decide_eq_true (by omega)
theorem zdg(h:p<G.length):(qB G p).length=G.length-1:=by
 rw[qB,List.length_append,List.length_take,List.length_drop];omega
theorem Jg{x:LR}(h:x∈qB G p):x∈G:=by
 rcases List.mem_append.1 h with h|h;exact List.mem_of_mem_take h;exact List.mem_of_mem_drop h
theorem Inv.cut(h:Inv G)(p:Nat):Inv (qB G p):=by
 refine⟨?_,λx a=>h.ok x (Jg a)⟩;have:=h.few;rw[qB,List.length_append,List.length_take,List.length_drop];omega
variable {b:ByteArray}
theorem Inv.add(h:Inv G){c:Int}(d:qN c=true)(f:G.length<40)(e:b.size<=200):Inv (G++[(c,b)]):=by
 refine⟨by simp;omega,λx a=>?_⟩;rcases List.mem_append.1 a with a|a;exact h.ok x a;obtain rfl:x=(c,b):=by simpa using a
 exact⟨d,e⟩
theorem zrl(G:List LR)(a:Int)(b:ByteArray):(kJ G a b=1/\qN a=false)\/(kJ G a b=4/\qN a=true/\(40<=G.length\/(G.length<40/\200<b.size)))\/(kJ G a b=0/\qN a=true/\G.length<40/\b.size<=200):=by
 unfold kJ
 cases h:qN a with
 |false=>exact .inl ⟨by simp,rfl⟩
 |true=>
  by_cases c:40<=G.length\/200<b.size;exact .inr (.inl ⟨by simp[c],rfl,by omega⟩);exact .inr (.inr ⟨by simp[c],rfl,by omega,by omega⟩)
theorem fQ{a:Int}(h:kJ G a b≠0):Zu G a b=G:=if_neg h
theorem Vg{a:Int}(h:kJ G a b=0):Zu G a b=G++[(a,b)]:=if_pos h
theorem XQ(h:qa G i=true):xU G i=0:=if_pos h
theorem KI(h:qa G i=false):xU G i=1:=if_neg (by rw[h];decide)
theorem XT(h:qa G i=true):kz G i=at' G i.toNat:=if_pos h
theorem KL(h:qa G i=false):kz G i=(0,⟨#[]⟩):=if_neg (by rw[h];decide)
theorem XR(h:qa G i=true):yI G i=qB G i.toNat:=if_pos h
theorem KJ(h:qa G i=false):yI G i=G:=if_neg (by rw[h];decide)
theorem iG(h:Inv G)(b:p<G.length):xk G (p:Int)=kJ G (at' G p).1 (at' G p).2/\vg G (p:Int)=Zu G (at' G p).1 (at' G p).2:=by
 obtain⟨c,d⟩:=h.ok _ (at_mem b);have e:xk G (p:Int)=kJ G (at' G p).1 (at' G p).2:=by
  unfold xk kJ;rw[if_pos (Q3 b),if_pos c];by_cases a:40<=G.length;rw [if_pos a,if_pos (.inl a)];rw [if_neg a,if_neg (by omega)]
 refine⟨e,?_⟩;unfold vg Zu;rw[e,Int.toNat_natCast]
theorem JS(h:qa G i=false):xk G i=1:=if_neg (by rw[h];decide)
theorem Vz(h:xk G i≠0):vg G i=G:=if_neg h
end Go.Proofs.YtdokgalidhmbbaaGreatDoor.Lk
