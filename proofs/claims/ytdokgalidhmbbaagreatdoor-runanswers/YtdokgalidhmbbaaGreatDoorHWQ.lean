/- What the law RunAnswers needs. -/
import Derived.Test.YtdokgalidhmbbaaGreatDoorHWD
import Derived.Test.YtdokgalidhmbbaaGreatDoorHWL
import Derived.Test.YtdokgalidhmbbaaGreatDoorHT
import Derived.Test.YtdokgalidhmbbaaGreatDoorHQ
import Derived.Lib.AtoiAll
import Derived.Lib.ItoaMem
set_option linter.unusedVariables false
set_option linter.unusedSimpArgs false
set_option maxRecDepth 100000
set_option maxHeartbeats 8000000
namespace Go.Proofs.YtdokgalidhmbbaaGreatDoor
namespace Rn
open Go.RowKit
def zO(c:UInt8):List UInt8->List (List UInt8)
 |[]=>[[]]
 |x::K=>if x=c then[]::zO c K else match zO c K with
  |[]=>[[x]]
  |w::a=>(x::w)::a
theorem Jh(c:UInt8):∀l,zO c l≠ []
 |[]=>by simp[zO]
 |x::K=>by
  rw[zO]
  split
  .simp
  .split<;>simp
theorem YB(c:UInt8):∀l:List UInt8,Lib.indexByte l c= -1->zO c l=[l]
 |[],_=>rfl
 |x::K,h=>by
  rw[Lib.indexByte]at h
  by_cases a:x=c
  .subst a;simp at h
  .have d:(x==c)=false:=by simp[a]
   rw[d]at h
   have b:Lib.indexByte K c= -1:=by
    by_cases g:Lib.indexByte K c= -1
    .exact g
    .have:=Lib.indexByte_ge K c
     simp[g]at h
     omega
   rw[zO,if_neg a,YB c K b]
theorem YC(c:UInt8):∀(l:List UInt8) (i:Nat),Lib.indexByte l c=i->zO c l=l.take i::zO c (l.drop (i+1))/\i+1<=l.length
 |[],i,h=>by rw[Lib.indexByte]at h;omega
 |x::K,i,h=>by
  rw[Lib.indexByte]at h
  by_cases a:x=c
  .subst a
   simp at h
   obtain rfl:i=0:=by omega
   exact⟨by rw[zO,if_pos rfl];rfl,by simp⟩
  .have f:(x==c)=false:=by simp[a]
   rw[f]at h
   rw[zO,if_neg a]
   by_cases g:Lib.indexByte K c= -1
   .simp [g]at h<;>omega
   .have e:(Lib.indexByte K c== -1)=false:=by simp[g]
    simp[e]at h
    obtain⟨j,rfl⟩:∃j,i=j+1:=⟨i-1,by have:=Lib.indexByte_ge K c;omega⟩
    obtain⟨b,d⟩:=YC c K j (by omega)
    rw[b]
    exact⟨rfl,by simpa using d⟩
theorem bV(c:UInt8):1<=(ByteArray.mk #[c]).size:=Nat.le_refl 1
theorem zrv(c:UInt8):∀(k:Nat) (l:List UInt8),Lib.countB (str l) ⟨#[c]⟩=k->Lib.splitB ⟨#[c]⟩ 0 k (str l)=(zO c l).map str:=by
 intro k
 induction k with
 |zero=>
  intro l b;have a:Lib.indexByte l c= -1:=by
   have:=Lib.indexByte_ge l c;by_cases g:Lib.indexByte l c= -1;exact g;obtain ⟨i,a⟩:∃i:Nat,Lib.indexByte l c=i:=⟨(Lib.indexByte l c).toNat,by omega⟩;have e:Lib.indexB (str l) ⟨#[c]⟩=i:=by
    show Lib.index _ _=_;rw[qo];rw[<-a];exact Lib.index_one l c
   have:=Lib.countB_hit (str l) ⟨#[c]⟩ i (bV c) e;omega
  rw[Lib.splitB_zero,YB c l a];rfl
 |succ k m=>
  intro l b;by_cases g:Lib.indexByte l c= -1;have e:Lib.indexB (str l) ⟨#[c]⟩= -1:=by
   show Lib.index _ _=_;rw[qo];rw[<-g];exact Lib.index_one l c
  rw[Lib.countB_miss _ _ e]at b;omega;have:=Lib.indexByte_ge l c;obtain⟨i,a⟩:∃i:Nat,Lib.indexByte l c=i:=⟨(Lib.indexByte l c).toNat,by omega⟩;have e:Lib.indexB (str l) ⟨#[c]⟩=i:=by
   show Lib.index _ _=_;rw[qo];rw[<-a];exact Lib.index_one l c
  obtain⟨f,p⟩:=YC c l i a;have h:=Lib.countB_hit (str l) ⟨#[c]⟩ i (bV c) e;have n:(str l).extract 0 (i+0)=str (l.take i):=by
   apply yZ;rw[qo,Lib.extract_data,qo];simp
  have d:(str l).extract (i+(ByteArray.mk #[c]).size) (str l).size=str (l.drop (i+1)):=by
   apply yZ;show((str l).extract (i+1) (str l).size).data.toList=_;rw[qo,Lib.extract_data,qo,qW];exact List.take_of_length_le (by simp)
  rw[Lib.splitB_hit _ _ _ _ i e,n,d,f,List.map_cons,m (l.drop (i+1)) (by rw[<-d];have j:Lib.countB (str l) ⟨#[c]⟩=1+Lib.countB ((str l).extract (i+(ByteArray.mk #[c]).size) (str l).size) ⟨#[c]⟩:=h;rw[b]at j;omega)]
theorem zmn(l:List UInt8):jW (str l)=(zO 32 l).map str:=zrv 32 _ l rfl
def xu(c:UInt8):Bool:=decide (48<=c.toNat/\c.toNat<=57)
def zV:List UInt8->Option Int
 |[a]=>if xu a=true then some ((a.toNat:Int)-48)else none
 |[a,b]=>if a≠48/\xu a=true/\xu b=true then some (((a.toNat:Int)-48)*10+((b.toNat:Int)-48))else none
 |[a,b,c]=>if a≠48/\xu a=true/\xu b=true/\xu c=true then some ((((a.toNat:Int)-48)*10+((b.toNat:Int)-48))*10+((c.toNat:Int)-48))else none
 |[a,b,c,d]=>if a≠48/\xu a=true/\xu b=true/\xu c=true/\xu d=true then some (((((a.toNat:Int)-48)*10+((b.toNat:Int)-48))*10+((c.toNat:Int)-48))*10+((d.toNat:Int)-48))else none
 |_=>none
def zT(n:Nat):List UInt8:=
 if n<10 then[UInt8.ofNat (48+n)]else if n<100 then[UInt8.ofNat (48+n/10),UInt8.ofNat (48+n%10)]
 else if n<1000 then[UInt8.ofNat (48+n/100),UInt8.ofNat (48+n/10%10),UInt8.ofNat (48+n%10)]
 else[UInt8.ofNat (48+n/1000),UInt8.ofNat (48+n/100%10),UInt8.ofNat (48+n/10%10),UInt8.ofNat (48+n%10)]
theorem Z7(n:Nat)(h:n<10000):Lib.itoa (n:Int)=zT n:=by
 rw[Lib.itoa_nonneg];unfold zT;by_cases a:n<10;rw [if_pos a,Lib.decDigits_one a];rw[if_neg a];by_cases b:n<100;rw [if_pos b,Lib.decDigits_two a b];rw[if_neg b];by_cases c:n<1000;rw [if_pos c,Lib.decDigits,dif_neg a,Lib.decDigits_two (by omega) (by omega)];simp[show n/10/10=n/100 by omega];rw[if_neg c,Lib.decDigits,dif_neg a,Lib.decDigits,dif_neg (by omega),Lib.decDigits_two (by omega) (by omega)];simp[show n/100/10=n/1000 by omega,show n/10/10=n/100 by omega]
theorem vN(d:Nat)(h:d<10):(UInt8.ofNat (48+d)).toNat=48+d:=by
 rw[UInt8.toNat_ofNat'];omega
theorem wT(d:Nat)(h:d<10):xu (UInt8.ofNat (48+d))=true:=by
 unfold xu;rw[vN d h];exact decide_eq_true (by omega)
theorem Jk(d:Nat)(h:d<10)(a:0<d):UInt8.ofNat (48+d)≠48:=λe=>by
 have:=congrArg UInt8.toNat e
 rw[vN d h]at this
 have:48+d=48:=this
 omega
theorem wS{c:UInt8}(h:xu c=true):c=UInt8.ofNat (48+(c.toNat-48))/\c.toNat-48<10/\48<=c.toNat:=by
 have a:48<=c.toNat/\c.toNat<=57:=of_decide_eq_true h;refine⟨?_,by omega,a.1⟩;rw[show 48+(c.toNat-48)=c.toNat by omega,UInt8.ofNat_toNat]
theorem zk1(n:Nat)(h:n<10000):zV (zT n)=some (n:Int):=by
 unfold zT;by_cases a:n<10;rw [if_pos a,zV,if_pos (wT n a),vN n a];congr 1
 omega;rw[if_neg a];by_cases b:n<100;rw [if_pos b,zV,if_pos ⟨Jk _ (by omega) (by omega),wT _ (by omega),wT _ (by omega)⟩,vN _ (by omega),vN _ (by omega)];congr 1
 omega;rw[if_neg b];by_cases c:n<1000;rw [if_pos c,zV,if_pos ⟨Jk _ (by omega) (by omega),wT _ (by omega),wT _ (by omega),wT _ (by omega)⟩,vN _ (by omega),vN _ (by omega),vN _ (by omega)];congr 1
 omega;rw[if_neg c,zV,if_pos ⟨Jk _ (by omega) (by omega),wT _ (by omega),wT _ (by omega),wT _ (by omega),wT _ (by omega)⟩,vN _ (by omega),vN _ (by omega),vN _ (by omega),vN _ (by omega)];congr 1
 omega
theorem Ke{a:UInt8}(h:a≠48)(b:48<=a.toNat):0<a.toNat-48:=by
 have:a.toNat≠48:=λe=>h (UInt8.toNat_inj.1 e);omega
theorem Kl:∀ {l:List UInt8} {v:Int},zV l=some v->∃n:Nat,v=n/\n<10000/\l=zT n
 |[],v,h=>by simp[zV]at h
 |[a],v,h=>by
  rw[zV]at h
  split at h
  .rename_i e
   obtain⟨f,m,g⟩:=wS e
   refine⟨a.toNat-48,by injection h with h;omega,by omega,?_⟩
   rw[zT,if_pos m,<-f]
  .cases h
 |[a,b],v,h=>by
  rw[zV]at h
  split at h
  .rename_i e
   obtain⟨j,e,k⟩:=e
   obtain⟨f,m,g⟩:=wS e
   obtain⟨i,r,s⟩:=wS k
   have:=Ke j g
   refine⟨(a.toNat-48)*10+(b.toNat-48),by injection h with h;omega,by omega,?_⟩
   rw[zT,if_neg (by omega),if_pos (by omega),show((a.toNat-48)*10+(b.toNat-48))/10=a.toNat-48 by omega,show((a.toNat-48)*10+(b.toNat-48))%10=b.toNat-48 by omega,<-f,<-i]
  .cases h
 |[a,b,c],v,h=>by
  rw[zV]at h
  split at h
  .rename_i e
   obtain⟨j,e,k,q⟩:=e
   obtain⟨f,m,g⟩:=wS e
   obtain⟨i,r,s⟩:=wS k
   obtain⟨p,t,u⟩:=wS q
   have:=Ke j g
   refine⟨((a.toNat-48)*10+(b.toNat-48))*10+(c.toNat-48),by injection h with h;omega,by omega,?_⟩
   rw[zT,if_neg (by omega),if_neg (by omega),if_pos (by omega),show(((a.toNat-48)*10+(b.toNat-48))*10+(c.toNat-48))/100=a.toNat-48 by omega,show(((a.toNat-48)*10+(b.toNat-48))*10+(c.toNat-48))/10%10=b.toNat-48 by omega,
    show(((a.toNat-48)*10+(b.toNat-48))*10+(c.toNat-48))%10=c.toNat-48 by omega,<-f,<-i,<-p]
  .cases h
 |[a,b,c,d],v,h=>by
  rw[zV]at h
  split at h
  .rename_i e
   obtain⟨j,e,k,q,x⟩:=e
   obtain⟨f,m,g⟩:=wS e
   obtain⟨i,r,s⟩:=wS k
   obtain⟨p,t,u⟩:=wS q
   obtain⟨w,y,B⟩:=wS x
   have:=Ke j g
   obtain⟨n,F⟩:∃n,n=(((a.toNat-48)*10+(b.toNat-48))*10+(c.toNat-48))*10+(d.toNat-48):=⟨_,rfl⟩
   refine⟨n,by injection h with h;omega,by omega,?_⟩
   rw[zT,if_neg (by omega),if_neg (by omega),if_neg (by omega),show n/1000=a.toNat-48 by omega,show n/100%10=b.toNat-48 by omega,show n/10%10=c.toNat-48 by omega,show n%10=d.toNat-48 by omega,<-f,<-i,<-p,<-w]
  .cases h
 |_::_::_::_::_::_,v,h=>by simp[zV]at h
def Xm:Lib.NumEnd Nat->Lib.NumEnd Int
 |.ok u=>if 9223372036854775808<=u then .range else .ok (u:Int)
 |.range=>.range
 |_=>Lib.atoiAll []
theorem zbe(n:Nat)(h:n<10000):Lib.atoiAll (zT n)=.ok (n:Int):=by
 have k:∀d,d<10->(UInt8.ofNat (48+d)).toNat=48+d:=vN;have f:∀(d:Nat) (r:List UInt8),d<10->Lib.atoiAll (UInt8.ofNat (48+d)::r)=Xm (Lib.parseUint10 0 (UInt8.ofNat (48+d)::r)):=λd r g=>by
  rw[Lib.atoiAll]
  simp only[k d g]
  rw[if_neg (by omega),Lib.parseMag,if_neg (by simp)]
  cases Lib.parseUint10 0 (UInt8.ofNat (48+d)::r)with
  |ok u=>simp[Xm,show¬48+d=45 by omega]
  |_=>rfl
 have a:∀(b d:Nat) (r:List UInt8),d<10->b<1000->Lib.parseUint10 b (UInt8.ofNat (48+d)::r)=Lib.parseUint10 (b*10+d) r:=λb d r g m=>by
  rw[Lib.parseUint10];rw[k d g,if_pos (by omega),if_neg (by omega),if_neg (by omega)];congr 1
  omega
 have c:∀u:Nat,u=n->Xm (.ok u)=.ok (n:Int):=λu l=>by subst l;rw[Xm,if_neg (by omega)]
 unfold zT;by_cases e:n<10;rw [if_pos e,f _ _ e,a _ _ _ e (by omega),Lib.parseUint10];exact c _ (by omega);rw[if_neg e];by_cases i:n<100;rw [if_pos i,f _ _ (by omega),a _ _ _ (by omega) (by omega),a _ _ _ (by omega) (by omega),Lib.parseUint10];exact c _ (by omega);rw[if_neg i];by_cases j:n<1000;rw [if_pos j,f _ _ (by omega),a _ _ _ (by omega) (by omega),a _ _ _ (by omega) (by omega),a _ _ _ (by omega) (by omega),Lib.parseUint10];exact c _ (by omega)
 rw[if_neg j,f _ _ (by omega),a _ _ _ (by omega) (by omega),a _ _ _ (by omega) (by omega),a _ _ _ (by omega) (by omega),a _ _ _ (by omega) (by omega),Lib.parseUint10];exact c _ (by omega)
theorem bG(l:List UInt8):jr l=zV l:=by
 cases hd:zV l with
 |some v=>
  obtain⟨n,rfl,a,rfl⟩:=Kl hd;unfold jr;rw[zbe n a];simp only;rw[if_neg (by rintro(h|h|h);omega;omega;exact h (Z7 n a))]
 |none=>
  unfold jr
  cases Lib.atoiAll l with
  |ok v=>
   simp only;split;.rfl
   rename_i h;exfalso;have b:0<=v:=Int.not_lt.1 λe=>h (.inl e);have c:v<=9999:=Int.not_lt.1 λe=>h (.inr (.inl e));have hi:Lib.itoa v=l:=Decidable.byContradiction λe=>h (.inr (.inr e));obtain⟨n,rfl⟩:∃n:Nat,v=n:=⟨v.toNat,by omega⟩;rw[Z7 n (by omega)]at hi;rw[<-hi,zk1 n (by omega)]at hd;cases hd
  |_=>rfl
def jw(X:List (List UInt8)):Option (List UInt8×Int×Int×List UInt8):=
 match qd (X.getD 0 [])with
 |none=>none
 |some (a,b)=>
  if X.length≠1+a+b\/ []∈X then none else
  match (if 1<=a then zV (X.getD 1 [])else some 0),(if 2<=a then zV (X.getD 2 [])else some 0)with
  |some x,some y=>some (X.getD 0 [],x,y,if 1<=b then X.getD (1+a) []else[])
  |_,_=>none
theorem XP(X:List (List UInt8))(j:Nat):(X.map str).getD j emp=str (X.getD j []):=by
 simp only[List.getD,List.getElem?_map];cases X[j]? <;>rfl
theorem zr2{a b:List UInt8}(h:str a=str b):a=b:=by
 have:=congrArg (λx:ByteArray=>x.data.toList) h;simpa[str]using this
theorem zhp(X:List (List UInt8)):(Lib.containsS (X.map str) emp=true)=([]∈X):=by
 rw[Lib.containsS_iff,List.mem_map];apply propext;constructor;rintro ⟨x,a,e⟩;rw[show emp=str []from rfl]at e;rw[<-zr2 e];exact a;intro h;exact⟨[],h,rfl⟩
theorem zlr(l:List UInt8):yo (str l)=(jw (zO 32 l)).map λp=>⟨str p.1,p.2.1,p.2.2.1,str p.2.2.2⟩:=by
 unfold yo
 rw[zmn]
 generalize zO 32 l=X
 unfold yN jw
 rw[XP,qo]
 cases qd (X.getD 0 [])with
 |none=>rfl
 |some p=>
  obtain⟨a,b⟩:=p;simp only[List.length_map,zhp];by_cases c:X.length≠1+a+b\/ []∈X;rw [if_pos c,if_pos c];rfl;rw [if_neg c,if_neg c];rw[XP,XP,XP,qo,qo,bG,bG];generalize(if 1<=a then zV (X.getD 1 [])else some 0)=u;generalize(if 2<=a then zV (X.getD 2 [])else some 0)=v;cases u<;>cases v<;>first|rfl|skip
  by_cases d:1<=b;simp [d];simp [d];rfl
end Rn
end Go.Proofs.YtdokgalidhmbbaaGreatDoor
namespace Go.Proofs.YtdokgalidhmbbaaGreatDoor
namespace Rn
open Go.RowKit
def qZ(f:Int):List UInt8:=
 if f=0 then[79,75]else if f=1 then[69,114,114,82,97,110,103,101]else if f=2 then[69,114,114,83,121,110,116,97,120]else if f=3 then[69,114,114,83,104,97,112,101]else if f=4 then[69,114,114,70,117,108,108]else if f=5 then[69,114,114,78,111,110,101]else if f=6 then[69,114,114,83,116,97,116,101]else if f=7 then[69,114,114,67,108,97,115,104]else if f=8 then[69,114,114,70,108,111,119]else[69,114,114,110,111]
def badL:List UInt8:=[98,97,100]
def okL:List UInt8:=[111,107]
structure Did where
 text:List UInt8
 flt:Int
 st:Tt
def dec(n:Int):List UInt8:=Lib.join ((V.nums n).map λi=>zT i.toNat) [32]
def jv(b:ByteArray):List UInt8:=if b.size=0 then[45]else b.data.toList
def zh(l:List UInt8)(x y:Int)(a:ByteArray)(s:Tt):Did:=
 if l=[119,114,105,116,101]then⟨okL,kM s x a,kP s x a⟩
 else if l=[115,101,110,100]then⟨okL,jH s x,xy s x⟩
 else if l=[99,111,109,101]then⟨okL,vT s x,ko s x⟩
 else if l=[108,111,115,101]then⟨okL,Lk.xU s.ls x,jf s x⟩
 else if l=[116,119,105,99,101]then⟨okL,Lk.xk s.ls x,yS s x⟩
 else if l=[114,101,97,100]then⟨jv (ve s x y),jY s x y,kD s x y⟩
 else if l=[99,111,117,110,116]then⟨zT s.ls.length,0,s⟩
 else if l=[118,97,114,105,110,116]then⟨dec x,0,s⟩
 else⟨zT (U.need x y).toNat,if U.qb x y=true then 0 else 1,s⟩
def Did.ans(d:Did):List UInt8:=if d.flt=0 then d.text else qZ d.flt
def zl(l:List UInt8)(s:Tt):List UInt8×Tt:=
 match jw (zO 32 l)with
 |none=>(badL,s)
 |some (n,x,y,a)=>((zh n x y (str a) s).ans,(zh n x y (str a) s).st)
def xJ(l:List UInt8):List UInt8:=Lib.trimSuffix l [10]
def jG:List (List UInt8)->Tt->List UInt8
 |[],_=>[]
 |l::G,s=>(zl (xJ l) s).1++10::jG G (zl (xJ l) s).2
def xx:List (List UInt8)->Tt->Tt
 |[],s=>s
 |l::G,s=>xx G (zl (xJ l) s).2
def K3:List UInt8:=[116,111,111,32,108,111,110,103,10]
def wM(t:List UInt8):List UInt8:=if 3000<t.length then K3 else jG (qJ t) (zQ 20)
theorem fU:∀(a b:List (List UInt8)) (s:Tt),jG (a++b) s=jG a s++jG b (xx a s)
 |[],b,s=>rfl
 |l::a,b,s=>by
  rw[List.cons_append,jG,jG,xx,fU a b]
  simp
theorem fT:∀(a b:List (List UInt8)) (s:Tt),xx (a++b) s=xx b (xx a s)
 |[],b,s=>rfl
 |l::a,b,s=>by
  rw[List.cons_append,xx,xx,fT a b]
theorem gB(l:List UInt8)(s:Tt):jG [l] s=(zl (xJ l) s).1++[10]/\xx [l] s=(zl (xJ l) s).2:=⟨rfl,rfl⟩
end Rn
end Go.Proofs.YtdokgalidhmbbaaGreatDoor
namespace Go.Proofs.YtdokgalidhmbbaaGreatDoor
namespace Rn
open Go.RowKit
def Few(K:Nat)(s:Tt):Prop:=s.a.m<=K/\s.b.m<=K
theorem zu3(e:En)(b:ByteArray):(xR e b).m=e.m:=by unfold xR;split<;>rfl
theorem zka(e:En):(q9 e).m<=e.m+1:=by
 unfold q9;split;exact Nat.le_refl _;exact Nat.le_succ _
theorem gJ(e:En)(f:F):(zn e f).2.m=e.m:=by
 unfold zn;repeat' split
 all_goals rfl
theorem fO:∀(a:List F) (e:En),(runF a e).2.m=e.m
 |[],e=>rfl
 |f::a,e=>by
  rw[runF]
  split
  .exact gJ e f
  .exact (fO a _).trans (gJ e f)
theorem Ww(e:En)(n:Int)(a:List F):(come e n a).2.m=e.m:=by
 unfold come;repeat' split
 all_goals first|rfl|exact fO a e
theorem zsj(e:En)(b:ByteArray):(qD e b).2.m=e.m:=by
 unfold qD;split;.rfl
 .split
  .rfl
  .exact Ww _ _ _
variable {K:Nat}{s:Tt}
theorem Few.set(h:Few K s)(w:Int)(e:En)(ls:List Lk.LR)(a:e.m<=K):Few K {s.set w e with ls:=ls}:=by
 unfold Tt.set;split;exact ⟨a,h.2⟩;exact ⟨h.1,a⟩
theorem Few.who(h:Few K s)(w:Int):(s.who w).m<=K:=by
 unfold Tt.who;split;exact h.1;exact h.2
theorem Few.more{a:Nat}(h:Few K s)(b:K<=a):Few a s:=⟨Nat.le_trans h.1 b,Nat.le_trans h.2 b⟩
theorem Few.did(h:Few K s)(l:List UInt8)(x y:Int)(b:ByteArray):Few (K+1) (zh l x y b s).st:=by
 have a:=h.more (Nat.le_succ K);unfold zh;split;show Few _ (kP s x b);unfold kP;split;exact a.set x _ s.ls (by rw[zu3];exact a.who x);exact a;split;show Few _ (xy s x);unfold xy;split;exact a.set x _ _ (Nat.le_trans (zka _) (Nat.succ_le_succ (h.who x)));exact a;split;show Few _ (ko s x);unfold ko;split;exact a.set _ _ _ (by rw[zsj];exact a.who _);exact a;split;exact a;split;exact a;split;show Few _ (kD s x y);unfold kD;split;exact a.set x _ s.ls (by rw[(zo6 _ _).1];exact a.who x);exact a
 repeat' split
 all_goals exact a
theorem Few.line(h:Few K s)(l:List UInt8):Few (K+1) (zl l s).2:=by
 unfold zl;split;exact h.more (Nat.le_succ K);exact h.did _ _ _ _
theorem Few.ses:∀(G:List (List UInt8)) {K:Nat} {s:Tt},Few K s->Few (K+G.length) (xx G s)
 |[],K,s,h=>h
 |l::G,K,s,h=>by
  have:=Few.ses G (h.line (xJ l))
  rw[xx]
  exact this.more (by simp only[List.length_cons];omega)
theorem kU(n:Nat):(zT n).length<=4:=by
 unfold zT;repeat' split
 all_goals simp
theorem zo3(e:En)(n:Int):(jR e n).size<=60:=by
 unfold jR;split;rw [strOfNums_size];have:=Sx.ZU e.s n;simp[Sx.xQ];omega;exact Nat.zero_le _
theorem zdo(n:Int):(dec n).length<=19:=by
 unfold dec V.nums;split;simp only[List.map,Lib.join,List.intercalate,List.intersperse,List.flatten];have:=kU n.toNat;simp;omega;split;have:=kU (64+n/256).toNat;have:=kU (n%256).toNat;simp only[List.map,Lib.join,List.intercalate,List.intersperse,List.flatten];simp;omega;have:=kU (128+n/16777216).toNat;have:=kU (n/65536%256).toNat;have:=kU (n/256%256).toNat;have:=kU (n%256).toNat;simp only[List.map,Lib.join,List.intercalate,List.intersperse,List.flatten];simp;omega
theorem zf2(f:Int):(qZ f).length<=9:=by
 unfold qZ;repeat' split
 all_goals decide
theorem za1(l:List UInt8)(x y:Int)(b:ByteArray)(s:Tt):(zh l x y b s).ans.length<=60:=by
 have a:=zf2 (zh l x y b s).flt;unfold Did.ans;split
 .clear a;unfold zh;repeat' split
  all_goals first|(show okL.length<=60;decide)|(exact Nat.le_trans (kU _) (by decide))|(exact Nat.le_trans (zdo _) (by decide))|skip
  show(jv (ve s x y)).length<=60;unfold jv;split;.decide
  unfold ve;split;rw [<-Lib.size_eq];exact zo3 _ _;.decide
 exact Nat.le_trans a (by decide)
theorem QY(l:List UInt8)(s:Tt):(zl l s).1.length<=60:=by
 unfold zl;split;show badL.length<=60;decide;exact za1 _ _ _ _ _
theorem fZ:∀(G:List (List UInt8)) (s:Tt),(jG G s).length<=61*G.length
 |[],s=>Nat.le_refl _
 |l::G,s=>by
  have:=QY (xJ l) s
  have:=fZ G (zl (xJ l) s).2
  rw[jG]
  simp only[List.length_append,List.length_cons]
  omega
end Rn
end Go.Proofs.YtdokgalidhmbbaaGreatDoor
