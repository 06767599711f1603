/- What the law RunAnswers needs. -/
import Derived.Test.YtdokgalidhmbbaaGreatDoorHA
import Derived.Deep.LoopGhost
import Derived.Lib.UnsafeStr
import Derived.Lib.BufferWrite
import Derived.Laws.MakeOwn
import Derived.OrdersHeld
import Derived.Deep.RegionHeld
import Derived.Maps.AppendAt
import Derived.Deep.Cut
set_option linter.unusedVariables false
set_option linter.unusedSimpArgs false
set_option maxRecDepth 100000
set_option maxHeartbeats 8000000
namespace Go.Proofs.YtdokgalidhmbbaaGreatDoor
open Go.RowKit Go.Lib Go.Sort
def tk:Nat->List Int->Option (List Int×Nat)
 |0,_=>some ([],0)
 |k+1,l=>match V.zL l with
  |none=>none
  |some x=>(tk k (l.drop x.2.toNat)).map λy=>(x.1::y.1,x.2.toNat+y.2)
def jg(k:Nat)(M:List Int)(A:Nat)(l:List Int):Option (List Int×Nat):=(tk k (l.drop A)).map λy=>(M++y.1,A+y.2)
theorem Vw(k:Nat)(l:List Int):jg k [] 0 l=tk k l:=by
 unfold jg
 rw[List.drop_zero]
 cases tk k l with
 |none=>rfl
 |some y=>simp
theorem Vx(M:List Int)(A:Nat)(l:List Int):jg 0 M A l=some (M,A):=by simp[jg,tk]
variable {M l:List Int}
theorem Vu{k:Nat}{A:Nat}(h:V.zL (l.drop A)=none):jg (k+1) M A l=none:=by simp[jg,tk,h]
theorem Vv{k:Nat}{A:Nat}{n c:Int}(h:V.zL (l.drop A)=some (n,c)):jg (k+1) M A l=jg k (M++[n]) (A+c.toNat) l:=by
 unfold jg
 simp only[tk,h,List.drop_drop,Option.map_map]
 cases tk k (l.drop (A+c.toNat))with
 |none=>rfl
 |some y=>simp[Nat.add_assoc]
theorem yU:∀(k:Nat) (l M:List Int) (c:Nat),Bytes l->tk k l=some (M,c)->M.length=k/\qp M/\l=M.flatMap V.nums++l.drop c/\c=(M.flatMap V.nums).length:=by
 intro k
 induction k with
 |zero=>
  intro l M c _ h;simp[tk]at h;obtain⟨rfl,rfl⟩:=h;exact⟨rfl,λz a=>by simp at a,by simp,rfl⟩
 |succ k m=>
  intro l M c b h
  cases hg:V.zL l with
  |none=>simp[tk,hg]at h
  |some x=>
   obtain⟨n,d⟩:=x
   obtain⟨hm,p,f⟩:=QS b hg
   cases hr:tk k (l.drop d.toNat)with
   |none=>simp[tk,hg,hr]at h
   |some y=>
    obtain⟨s,e⟩:=y;simp[tk,hg,hr]at h;obtain⟨rfl,rfl⟩:=h;obtain⟨g,i,j,r⟩:=m _ _ _ (ji b _) hr;have q:d.toNat=(V.nums n).length:=by have:=Zh n;omega
    refine⟨by simp[g],λz a=>?_,?_,by simp only[List.flatMap_cons,List.length_append];omega⟩;rcases List.mem_cons.1 a with rfl|a;exact (xG _).1 hm;exact i z a;rw [List.flatMap_cons,List.append_assoc,<-List.drop_drop,<-j];exact f
variable {c:Nat}
theorem Qg{k:Nat}(d:Bytes l)(h:tk k l=some (M,c)):c<=l.length:=by
 obtain⟨_,_,a,b⟩:=yU k l M c d h;have:=congrArg List.length a;simp only[List.length_append,<-b]at this;omega
theorem Qh{k:Nat}(d:Bytes l)(h:tk k l=some (M,c)):l.take c=M.flatMap V.nums:=by
 obtain⟨_,_,a,b⟩:=yU k l M c d h;rw[a,b];simp
def zR:List Int->List R
 |a::b::c=>(b,a)::zR c
 |_=>[]
def zK:List R->List Int
 |[]=>[]
 |r::a=>r.2::r.1::zK a
theorem Zn:∀J:List R,zR (zK J)=J
 |[]=>rfl
 |r::a=>by simp[zK,zR,Zn a]
theorem yC:∀J:List R,(zK J).length=2*J.length
 |[]=>rfl
 |r::a=>by simp only[zK,List.length_cons,yC a];omega
theorem zt6:∀(k:Nat) (l:List Int),l.length=2*k->zK (zR l)=l:=by
 intro k
 induction k with
 |zero=>
  intro l c;obtain rfl:l=[]:=List.eq_nil_of_length_eq_zero (by omega);rfl
 |succ k d=>
  intro l c
  match l,c with
  |[],c=>simp at c
  |[a],c=>simp at c;omega
  |a::b::l,c=>simp only[zR,zK,d l (by simp at c;omega)]
theorem Qk:∀(a b:List R),zK (a++b)=zK a++zK b
 |[],b=>rfl
 |r::c,b=>by simp[zK,Qk c b]
theorem ZQ:∀(k:Nat) (l:List Int),l.length=2*k->(zR l).length=k:=by
 intro k l a;have:=yC (zR l);rw[zt6 k l a]at this;omega
theorem WA{J:List R}(h:Good J):qp (zK J):=by
 obtain⟨g,d,e⟩:=h
 have f:∀r,r∈J->r.1<=r.2:=kG e
 clear e g
 induction J with
 |nil=>intro z hz;simp[zK]at hz
 |cons r j i=>
  intro z hz;have b:=d r (by simp);have c:=f r (by simp);simp only[zK,List.mem_cons]at hz;rcases hz with rfl|rfl|hz;.omega
  .omega
  exact i (λs a=>d s (by simp[a])) (λs a=>f s (by simp[a])) z hz
def zk(k:Int):Nat:=if k=1 then 0 else if k=7 then 2 else 1
def zw(k:Int):Bool:=decide (1<=k/\k<=8)
def zW(k:Int)(n:Nat):Bool:=if k=2 then decide (0<n/\n%2=0/\n<=24)else decide (n=zk k)
def xA(M:List Int):Bool:=M.any λn=> !V.zH n
def qX(k:Int)(M:List Int)(d:ByteArray):Int:=
 if zw k=false then 1 else if zW k M.length=false then 3 else if k≠3/\d.size≠0 then 3 else if xA M=true then 1 else if 20<d.size then 4 else if k=2/\xC (zR M)≠0 then 3 else 0
def mid(k:Int)(M:List Int)(d:ByteArray):List Int:=if k=2 then enc (zR M)else if k=3 then(M++[(d.size:Int)]).flatMap V.nums else M.flatMap V.nums
def QR(k:Int)(M:List Int)(d:ByteArray):List Int:=k::mid k M d++V.ints d
def jB(k:Int)(M:List Int)(d:ByteArray):ByteArray:=strOfNums [k]++strOfNums (mid k M d)++d
def zt(l:List Int):Option (List R×Nat):=(tk 3 l).bind λx=>match x.1 with
 |[a,m,d]=>if 12<=m then none else(tk (2*m.toNat) (l.drop x.2)).bind λy=>if 0<=jV (a-d) y.1 then some ((a-d,a)::pairs (a-d) y.1,x.2+y.2)else none
 |_=>none
def qQ(k:Int)(l:List Int):Option (List Int×Nat):=if k=2 then(zt l).map λx=>(zK x.1,x.2)else tk (zk k) l
def jM(l:List Int):Option (Nat×Nat):=match V.zL l with
 |none=>none
 |some x=>if 20<x.1\/(l.length:Int)<x.2+x.1 then none else some (x.1.toNat,x.2.toNat)
def jL(s:ByteArray):Option ((Int×List Int×ByteArray)×Nat):=match V.ints s with
 |[]=>none
 |k::l=>if zw k=false then none else(qQ k l).bind λx=>
  if k=3 then(jM (l.drop x.2)).map λy=>((k,x.1,s.extract (1+x.2+y.2) (1+x.2+y.2+y.1)),1+x.2+y.2+y.1)
  else some ((k,x.1,{data:=#[]}),1+x.2)
theorem anyB_no:xA M=false↔qp M:=by
 unfold xA qp;rw[List.any_eq_false];constructor;intro h z a;have:=h z a;simp at this;exact(xG z).1 this;intro h z a;simp[(xG z).2 (h z a)]
variable {k:Int}{d:ByteArray}
theorem kV(h:qX k M d=0):zw k=true/\zW k M.length=true/\(k≠3->d.size=0)/\qp M/\d.size<=20/\(k=2->Good (zR M)):=by
 unfold qX at h;split at h;cases h;rename_i a;split at h;cases h;rename_i b;split at h;cases h;rename_i c;split at h;cases h;rename_i f;split at h;cases h;rename_i i;split at h;cases h;rename_i g;refine⟨by simpa using a,by simpa using b,λe=>?_,anyB_no.1 (by simpa using f),by omega,λe=>?_⟩;by_cases z:d.size=0;exact z;exact absurd ⟨e,z⟩ c;by_cases z:xC (zR M)=0;exact (x9 _).1 z;exact absurd ⟨e,z⟩ g
theorem yg(c:zw k=true)(e:zW k M.length=true)(f:k≠3->d.size=0)(g:qp M)(i:d.size<=20)(h:k=2->Good (zR M)):qX k M d=0:=by
 unfold qX;rw[if_neg (by simp[c]),if_neg (by simp[e]),if_neg (by rintro⟨a,b⟩;exact b (f a)),if_neg (by rw[anyB_no.2 g];simp),if_neg (by omega),if_neg (by rintro⟨a,b⟩;exact b ((x9 _).2 (h a)))]
theorem wF(k:Int):zw k=true↔1<=k/\k<=8:=by simp[zw]
theorem eB{J:List R}(e:Bytes l)(h:zt l=some (J,c)):J≠ []/\Good J/\l.take c=enc J/\c<=l.length:=by
 unfold zt at h
 cases f:tk 3 l with
 |none=>rw[f]at h;cases h
 |some x=>
  obtain⟨M,i⟩:=x
  rw[f]at h
  obtain⟨j,i2,B,F⟩:=yU 3 l M i e f
  match M,j,h with
  |[a,m,d],j,h=>
   simp only[Option.bind_some]at h;split at h;cases h;rename_i w;have V:=(i2 m (by simp)).1;cases h2:tk (2*m.toNat) (l.drop i)with
   |none=>rw[h2]at h;cases h
   |some y=>
    obtain⟨g,v⟩:=y;rw[h2]at h;simp only[Option.bind_some]at h;obtain⟨P,q,Q,U⟩:=yU _ _ _ _ (ji e _) h2;split at h;rename_i k;cases h;have p:kH (a::m::d::g)=some ((a-d,a)::pairs (a-d) g):=by
     simp only[kH];rw[if_pos ⟨by omega,k⟩]
    have n:qp (a::m::d::g):=by
     intro z b;rcases List.mem_cons.1 b with rfl|b;exact i2 _ (by simp);rcases List.mem_cons.1 b with rfl|b;exact i2 _ (by simp);rcases List.mem_cons.1 b with rfl|b;exact i2 _ (by simp);exact q z b
    obtain⟨r,s,t⟩:=cZ n (by simp;omega) p;have u:=Qg (ji e _) h2;have o:=Qg e f;rw[List.length_drop]at u;refine⟨r,s,?_,by omega⟩;unfold enc;rw[<-t,List.take_add,Qh e f,Qh (ji e _) h2];simp only[List.flatMap_cons,List.flatMap_nil,List.append_nil,List.append_assoc];cases h
theorem ZX{n:Nat}(h:zW 2 n=true):∃j,n=2*j/\1<=j/\j<=12:=by
 simp[zW]at h;exact⟨n/2,by omega,by omega,by omega⟩
theorem Xu(d:Bytes l)(h:qQ k l=some (M,c)):zW k M.length=true/\qp M/\(k=2->Good (zR M))/\l.take c=(if k=2 then enc (zR M)else M.flatMap V.nums)/\c<=l.length:=by
 unfold qQ at h;split at h;rename_i a;cases h1:zt l with
 |none=>rw[h1]at h;cases h
 |some x=>
  obtain⟨J,e⟩:=x;rw[h1]at h;simp only[Option.map_some,Option.some.injEq,Prod.mk.injEq]at h;obtain⟨rfl,rfl⟩:=h;obtain⟨f,b,g,i⟩:=eB d h1;have j:J.length≠0:=λe=>f (List.eq_nil_of_length_eq_zero e);refine⟨?_,WA b,λ_=>by rw[Zn];exact b,by rw[if_pos a,Zn];exact g,i⟩;have:=b.1;simp only[zW,if_pos a,yC];exact decide_eq_true (by omega)
 rename_i a;obtain⟨f,b,g,i⟩:=yU _ _ _ _ d h;exact⟨by simp[zW,a,f],b,λe=>absurd e a,by rw[if_neg a];exact Qh d h,Qg d h⟩
theorem zh1(s:ByteArray):(V.ints s).length=s.size:=zg s
theorem kX(s:ByteArray)(a b:Nat):V.ints (s.extract a b)=((V.ints s).drop a).take (b-a):=by
  obtain⟨⟨l⟩⟩:=s;simp only[V.ints,ByteArray.extract,ByteArray.copySlice,ByteArray.empty];simp[List.map_drop,List.map_take,List.take_drop]
  try (by_cases h:a<=b
       . rw[show a+(b-a)=b by omega]
       . rw[show a+(b-a)=a by omega];simp;try omega)
theorem zb8(h:qX k M d=0):Bytes (mid k M d):=by
 obtain⟨e,f,g,a,i,b⟩:=kV h;unfold mid;split;rename_i c;exact zb7 (b c)
 .split
  .refine J7 λz hz=>?_
   rcases List.mem_append.1 hz with hz|hz
   .exact a z hz
   .simp at hz;subst hz;omega
  .exact J7 a
theorem KT{ns:List Int}(h:qX k ns d=0):V.ints (jB k ns d)=QR k ns d:=by
 have a:=(wF k).1 (kV h).1;unfold jB QR;rw[V.wB,V.wB,V.Z6 [k] (by intro z hz;simp at hz;subst hz;omega),V.Z6 _ (zb8 h)];simp
theorem VT{s:ByteArray}{n:Nat}(h:jL s=some ((k,M,d),n)):qX k M d=0/\1<=n/\n<=s.size/\s.extract 0 n=jB k M d:=by
 have hby:=zu s;have hsz:=zh1 s;unfold jL at h;split at h;cases h;rename_i j l i;rw[i]at hby hsz;have p:Bytes l:=λz A=>hby z (by simp[A]);simp only[List.length_cons]at hsz;split at h;cases h;rename_i U;have m:zw j=true:=by simpa using U
 cases h1:qQ j l with
 |none=>rw[h1]at h;cases h
 |some x=>
  obtain⟨b,c⟩:=x;rw[h1]at h;simp only[Option.bind_some]at h;obtain⟨r,t,u,i4,K⟩:=Xu p h1;split at h
  .rename_i g
   unfold jM at h
   cases hg:V.zL (l.drop c)with
   |none=>rw[hg]at h;cases h
   |some y=>
    obtain⟨q,e⟩:=y;rw[hg]at h;obtain⟨F,G,P⟩:=QS (ji p _) hg;have I:=(xG _).1 F;have H:=V.Xa q;simp only at h;split at h;cases h;rename_i o;simp only[Option.map_some,Option.some.injEq,Prod.mk.injEq]at h;obtain⟨⟨rfl,rfl,rfl⟩,rfl⟩:=h;rw[List.length_drop]at o;have Q:(s.extract (1+c+e.toNat) (1+c+e.toNat+q.toNat)).size=q.toNat:=by
     rw[ByteArray.size_extract];omega
    have a:qX j b (s.extract (1+c+e.toNat) (1+c+e.toNat+q.toNat))=0:=
     yg m r (λe=>absurd g e) t (by omega) u
    refine⟨a,by omega,by omega,?_⟩;apply jq;rw[KT a,kX,i];simp only[QR,mid,Q];rw[if_neg (by omega),if_pos g,kX,i];rw[if_neg (by omega)]at i4;have E:e.toNat=(V.nums q).length:=by have:=Zh q;omega
    have B:((q.toNat:Nat):Int)=q:=by omega
    have C:l=b.flatMap V.nums++l.drop c:=by rw[<-i4,List.take_append_drop]
    have D:l.drop c=V.nums q++l.drop (c+e.toNat):=by rw[<-List.drop_drop];exact P
    have J:c=(b.flatMap V.nums).length:=by rw[<-i4,List.length_take];omega
    have v:(j::l).drop (1+c+e.toNat)=l.drop (c+e.toNat):=by
     rw[show 1+c+e.toNat=(c+e.toNat)+1 by omega];rfl
    rw[v,B,show 1+c+e.toNat+q.toNat-(1+c+e.toNat)=q.toNat by omega,show 1+c+e.toNat+q.toNat-0=(c+e.toNat+q.toNat)+1 by omega];simp only[List.drop_zero,List.take_succ_cons,List.flatMap_append,List.flatMap_cons,List.flatMap_nil,List.append_nil,List.cons_append,List.cons.injEq,true_and];conv=>lhs;rw[C,D,<-List.append_assoc]
    rw[show c+e.toNat+q.toNat=(b.flatMap V.nums++V.nums q).length+q.toNat by rw[List.length_append];omega,List.take_length_add_append]
  rename_i g;simp only[Option.some.injEq,Prod.mk.injEq]at h;obtain⟨⟨rfl,rfl,rfl⟩,rfl⟩:=h;have a:qX j b {data:=#[]}=0:=yg m r (λ_=>rfl) t (by decide) u;refine⟨a,by omega,by omega,?_⟩;apply jq;rw[KT a,kX,i];simp only[QR,mid];rw[show 1+c-0=c+1 by omega];simp only[List.drop_zero,List.take_succ_cons];have w:V.ints {data:=#[]}=[]:=rfl;rw[i4,w];by_cases f:j=2;rw [if_pos f,if_pos f];simp;rw [if_neg f,if_neg f,if_neg g];simp
structure Cnts(w:World):Prop where
 c0:w.cell? ⟨9,0,none⟩=some (.int .i64 0)
 c1:w.cell? ⟨9,1,none⟩=some (.int .i64 0)
 c2:w.cell? ⟨9,2,none⟩=some (.int .i64 0)
 c3:w.cell? ⟨9,3,none⟩=some (.int .i64 1)
 c4:w.cell? ⟨9,4,none⟩=some (.int .i64 1)
 c5:w.cell? ⟨9,5,none⟩=some (.int .i64 1)
 c6:w.cell? ⟨9,6,none⟩=some (.int .i64 1)
 c7:w.cell? ⟨9,7,none⟩=some (.int .i64 2)
 c8:w.cell? ⟨9,8,none⟩=some (.int .i64 1)
 pos:9<w.heap.size
variable {w E:World}
theorem Cnts.below(h:Cnts w)(a:Below w.heap.size w E):Cnts E:=
 ⟨(a.cell (p:=⟨9,0,none⟩) h.pos).trans h.c0,(a.cell (p:=⟨9,1,none⟩) h.pos).trans h.c1,(a.cell (p:=⟨9,2,none⟩) h.pos).trans h.c2,(a.cell (p:=⟨9,3,none⟩) h.pos).trans h.c3,(a.cell (p:=⟨9,4,none⟩) h.pos).trans h.c4,(a.cell (p:=⟨9,5,none⟩) h.pos).trans h.c5,(a.cell (p:=⟨9,6,none⟩) h.pos).trans h.c6,(a.cell (p:=⟨9,7,none⟩) h.pos).trans h.c7,(a.cell (p:=⟨9,8,none⟩) h.pos).trans h.c8,Nat.lt_of_lt_of_le h.pos a.size⟩
def ICells(w:World)(b a:Nat)(J:List Int):Prop:=∀j,j<J.length->w.cell? ⟨b,a+j,none⟩=some (.int .i64 (J[j]?.getD 0))
def IRow(w:World)(v:Value)(J:List Int):Prop:=∃a c,v=.slice a J.length c/\J.length<=9223372036854775807/\J.length<=c/\(J=[]\/∃b d,a=some ⟨b,d,none⟩/\b<w.heap.size/\ICells w b d J)
variable {J:List Int}
theorem ICells.below{b a:Nat}(h:ICells w b a J)(d:b<w.heap.size)(c:Below w.heap.size w E):ICells E b a J:=λj e=>
 (c.cell (p:=⟨b,a+j,none⟩) d).trans (h j e)
theorem IRow.below{v:Value}(h:IRow w v J)(a:Below w.heap.size w E):IRow E v J:=by
 obtain⟨e,c,rfl,g,i,h⟩:=h;refine⟨e,c,rfl,g,i,?_⟩;rcases h with h|⟨b,j,rfl,d,f⟩;exact .inl h;exact .inr ⟨b,j,rfl,Nat.lt_of_lt_of_le d a.size,f.below d a⟩
theorem IRow.nil(w:World):IRow w (.slice none 0 0) []:=⟨none,0,rfl,by simp,by simp,.inl rfl⟩
theorem X0{T:Nat}{v:Value}(h:OwnI w T v J)(i:J.length<=1000000):IRow w v J:=by
 by_cases b:J=[];subst b;rcases h.2 with⟨rfl,_⟩|⟨g,a,f,rfl,_⟩;exact IRow.nil w;exact ⟨_,a,rfl,by simp,by simp,.inl rfl⟩;obtain ⟨g,a,rfl,c,_,d⟩:=h.form b;exact⟨_,a,rfl,by omega,c,.inr ⟨g,0,rfl,d,λj e=>by rw[Nat.zero_add];exact h.cell j e⟩⟩
theorem x8(h:d.size≠0):(d.toList== [])=false:=by
 rw[ByteArray.toList_eq]
 obtain⟨⟨l⟩⟩:=d
 cases l with
 |nil=>exact absurd rfl h
 |cons b l=>rfl
theorem vS(h:d.size=0):d={data:=#[]}:=by
 obtain⟨⟨l⟩⟩:=d
 cases l with
 |nil=>rfl
 |cons b l=>exact absurd h (by show l.length+1≠0;omega)
theorem vC(k:Int)(w:World):Cs 207 #[.int .i64 k] w (.bool (zw k)):=by
 by_cases a:1<=k
 .by_cases h2:k<=8
  .have e:zw k=true:=(wF k).2 ⟨a,h2⟩;rw[e];go_enter Tryz.func207,Tryz.ntmps207
   go_wp2;go_ret;exact⟨by simp[h2],rfl⟩
  have e:zw k=false:=by simp[zw];omega
  rw[e];go_enter Tryz.func207,Tryz.ntmps207
  go_wp2;go_ret;exact⟨by simp[h2],rfl⟩
 have e:zw k=false:=by simp[zw];omega
 rw[e];go_enter Tryz.func207,Tryz.ntmps207
 go_wp2;go_ret;exact⟨rfl,rfl⟩
theorem zh9(n:Nat)(w:World)(h:n<=9223372036854775807):Cs 220 #[.int .i64 2,.int .i64 (n:Int)] w (.bool (zW 2 n)):=by
 have e:Hid (zW 2 n=decide (0<n/\n%2=0/\n<=24)):=by show _=_;simp[zW]
 have a:(n:Int).tmod 2=(n:Int)%2:=Int.tmod_eq_emod_of_nonneg (by omega);by_cases b:0<n
 .have d:(0:Int)<(n:Int):=by omega
  by_cases c:n%2=0
  .have f:(n:Int).tmod 2=0:=by rw[a];omega
   clear a;go_enter Tryz.func220,Tryz.ntmps220
   go_wp2;go_ret;exact⟨by rw[e.out];by_cases g:n<=24<;>simp[b,c,g]<;>omega,rfl⟩
  have f:¬(n:Int).tmod 2=0:=by rw[a];omega
  clear a;go_enter Tryz.func220,Tryz.ntmps220
  go_wp2;go_ret;exact⟨by rw[e.out];simp[c],rfl⟩
 have d:¬(0:Int)<(n:Int):=by omega
 go_enter Tryz.func220,Tryz.ntmps220
 go_wp2;go_ret;exact⟨by rw[e.out];simp[b],rfl⟩
theorem zh2(n:Nat)(w:World)(a:Cnts w)(c:n<=9223372036854775807):Cs 220 #[.int .i64 1,.int .i64 (n:Int)] w (.bool (zW 1 n)):=by
 have e:zW 1 n=decide (n=0):=by simp[zW,zk]
 have b:=a.c1;go_enter Tryz.func220,Tryz.ntmps220
 go_wp2;go_ret;exact⟨by rw[e];by_cases h:n=0<;>simp[h]<;>omega,rfl⟩
theorem zh3(n:Nat)(w:World)(a:Cnts w)(c:n<=9223372036854775807):Cs 220 #[.int .i64 3,.int .i64 (n:Int)] w (.bool (zW 3 n)):=by
 have e:zW 3 n=decide (n=1):=by simp[zW,zk]
 have b:=a.c3;go_enter Tryz.func220,Tryz.ntmps220
 go_wp2;go_ret;exact⟨by rw[e];by_cases h:n=1<;>simp[h]<;>omega,rfl⟩
theorem zh4(n:Nat)(w:World)(a:Cnts w)(c:n<=9223372036854775807):Cs 220 #[.int .i64 4,.int .i64 (n:Int)] w (.bool (zW 4 n)):=by
 have e:zW 4 n=decide (n=1):=by simp[zW,zk]
 have b:=a.c4;go_enter Tryz.func220,Tryz.ntmps220
 go_wp2;go_ret;exact⟨by rw[e];by_cases h:n=1<;>simp[h]<;>omega,rfl⟩
theorem zh5(n:Nat)(w:World)(a:Cnts w)(c:n<=9223372036854775807):Cs 220 #[.int .i64 5,.int .i64 (n:Int)] w (.bool (zW 5 n)):=by
 have e:zW 5 n=decide (n=1):=by simp[zW,zk]
 have b:=a.c5;go_enter Tryz.func220,Tryz.ntmps220
 go_wp2;go_ret;exact⟨by rw[e];by_cases h:n=1<;>simp[h]<;>omega,rfl⟩
theorem zh6(n:Nat)(w:World)(a:Cnts w)(c:n<=9223372036854775807):Cs 220 #[.int .i64 6,.int .i64 (n:Int)] w (.bool (zW 6 n)):=by
 have e:zW 6 n=decide (n=1):=by simp[zW,zk]
 have b:=a.c6;go_enter Tryz.func220,Tryz.ntmps220
 go_wp2;go_ret;exact⟨by rw[e];by_cases h:n=1<;>simp[h]<;>omega,rfl⟩
theorem zh7(n:Nat)(w:World)(a:Cnts w)(c:n<=9223372036854775807):Cs 220 #[.int .i64 7,.int .i64 (n:Int)] w (.bool (zW 7 n)):=by
 have e:zW 7 n=decide (n=2):=by simp[zW,zk]
 have b:=a.c7;go_enter Tryz.func220,Tryz.ntmps220
 go_wp2;go_ret;exact⟨by rw[e];by_cases h:n=2<;>simp[h]<;>omega,rfl⟩
theorem zh8(n:Nat)(w:World)(a:Cnts w)(c:n<=9223372036854775807):Cs 220 #[.int .i64 8,.int .i64 (n:Int)] w (.bool (zW 8 n)):=by
 have e:zW 8 n=decide (n=1):=by simp[zW,zk]
 have b:=a.c8;go_enter Tryz.func220,Tryz.ntmps220
 go_wp2;go_ret;exact⟨by rw[e];by_cases h:n=1<;>simp[h]<;>omega,rfl⟩
theorem yh(k:Int)(n:Nat)(w:World)(b:Cnts w)(c:zw k=true)(a:n<=9223372036854775807):Cs 220 #[.int .i64 k,.int .i64 (n:Int)] w (.bool (zW k n)):=by
 have h:=(wF k).1 c;have d:k=1\/k=2\/k=3\/k=4\/k=5\/k=6\/k=7\/k=8:=by omega
 rcases d with rfl|rfl|rfl|rfl|rfl|rfl|rfl|rfl;exact zh2 n w b a;exact zh9 n w a;exact zh3 n w b a;exact zh4 n w b a;exact zh5 n w b a;exact zh6 n w b a;exact zh7 n w b a;exact zh8 n w b a
theorem zc7(n:Int)(w:World):Cl 222 #[.int .i64 n] w (.bool (!V.zH n)):=by
 by_cases a:n<0
 .have e:V.zH n=false:=by simp[V.zH];omega
  rw[e];go_enter Tryz.func222,Tryz.ntmps222
  go_wp2;go_ret;exact⟨rfl,Below.refl _ _⟩
 by_cases h2:1073741823<n
 .have e:V.zH n=false:=by simp[V.zH];omega
  rw[e];go_enter Tryz.func222,Tryz.ntmps222
  go_wp2;go_ret;exact⟨by simp[h2],Below.refl _ _⟩
 have e:V.zH n=true:=(xG n).2 (by omega);rw[e];go_enter Tryz.func222,Tryz.ntmps222
 go_wp2;go_ret;exact⟨by simp[h2],Below.refl _ _⟩
theorem zhw(g:Option Addr)(c F:Nat)(J:List Int)(w:World)(r:J.length=c)(D:c<=9223372036854775807)(t:J=[]\/∃b d,g=some ⟨b,d,none⟩/\b<w.heap.size/\ICells w b d J):
  Calls Tryz.prog 238 #[.slice g c F,.func (.func 222) #[] #[]] w λe E=>∃i,e=.returned (.int .i64 i)/\((i= -1/\∀j,j<c->V.zH (J[j]?.getD 0)=true)\/∃k:Nat,i=(k:Int)/\k<c/\V.zH (J[k]?.getD 0)=false)/\Below w.heap.size w E:=by
 have u:=zC r;have v:=zC t;clear r t;go_enter Tryz.func238,Tryz.ntmps238
 go_wp2_with fail;go_loopg [5,8] c (λP _ z wr=>∃a:Nat,a<=c/\c-a<=P/\z=.int .i64 a/\Hid (Below w.heap.size w wr)/\Hid (∀j,j<a->V.zH (J[j]?.getD 0)=true))
 case atStart=>exact⟨0,Nat.zero_le _,by omega,rfl,Below.refl _ w,λj q=>absurd q (Nat.not_lt_zero _)⟩
 case round=>
  obtain⟨a,C,A,rfl,f,n⟩:=hrel;by_cases U:a<c
  .have o:(a:Int)<(c:Int):=by omega
   have hkl:a<J.length:=by have:=u.out;omega
   obtain⟨b,d,rfl,Q,p⟩:∃b d,g=some ⟨b,d,none⟩/\b<w.heap.size/\ICells w b d J:=by
    rcases v.out with h|h;rw [h]at hkl;simp at hkl;exact h
   have x:=p.below Q f.out a hkl
   have hcall:=zc7 (J[a]?.getD 0) wr
   clear p hkl
   generalize s:J[a]?.getD 0=y at x hcall
   have B:Hid (J[a]?.getD 0=y):=s
   clear s
   cases l:V.zH y with
   |false=>
    rw[l]at hcall;simp only[Bool.not_false]at hcall;go_wp2_with (go_at_call 222;refine hcall.mono ?_;rintro e E ⟨rfl,m⟩);go_ret;exact⟨_,rfl,.inr ⟨a,by go_num,U,by rw[B.out];exact l⟩,f.out.trans (m.mono f.out.size)⟩
   |true=>
    rw[l]at hcall;simp only[Bool.not_true]at hcall;go_wp2_with (go_at_call 222;refine hcall.mono ?_;rintro e E ⟨rfl,m⟩);go_roundg (c-(a+1))
    case measure=>omega
    case rel=>
     refine⟨a+1,by omega,by omega,by go_num,f.out.trans (m.mono f.out.size),(show Hid _ from λj q=>?_)⟩;by_cases e:j=a;subst e;rw[B.out];exact l;exact n.out j (by omega)
  have o:¬(a:Int)<(c:Int):=by omega
  obtain rfl:a=c:=by omega
  go_wp2_with fail;go_ret;exact⟨-1,rfl,.inl ⟨rfl,n.out⟩,f.out⟩
theorem any_ints:xA J=true↔∃j,j<J.length/\V.zH (J[j]?.getD 0)=false:=by
 unfold xA;rw[List.any_eq_true];constructor;rintro ⟨r,b,h⟩;obtain⟨j,a,e⟩:=List.getElem_of_mem b;exact⟨j,a,by simp[a,e];simpa using h⟩;rintro ⟨j,a,h⟩;rw[List.getElem?_eq_getElem a]at h;exact⟨_,List.getElem_mem a,by simpa using h⟩
theorem ZY(v:Value)(J:List Int)(w:World)(f:IRow w v J):
  Cl 221 #[v,.func (.func 222) #[] #[]] w (.bool (xA J)):=by
 obtain⟨b,c,rfl,q,r,d⟩:=f;have hcon':Calls Tryz.prog 238 #[.slice b J.length c,.func (.func 222) #[] #[]] w λe E=>∃i:Int,e=.returned (.int .i64 i)/\(decide (0<=i)=xA J)/\Below w.heap.size w E:=by
  refine(zhw b J.length c J w rfl q d).mono λe E ⟨i,m,a,g⟩=>⟨i,m,?_,g⟩;rcases a with⟨rfl,h⟩|⟨k,rfl,p,h⟩;have:xA J=false:=by
   cases e:xA J with
   |false=>rfl
   |true=>obtain⟨j,n,hh⟩:=any_ints.1 e;rw[h j n]at hh;cases hh
  rw[this];rfl;rw [any_ints.2 ⟨k,p,h⟩];simp
 clear d r;generalize xA J=t at hcon' |-;generalize J.length=s at*;go_enter Tryz.func221,Tryz.ntmps221
 go_wp2_with (go_at_call 238;refine hcon'.mono ?_;rintro e E ⟨i,rfl,a,l⟩);go_ret;exact⟨by rw[<-a];rfl,l⟩
theorem Z5:(Tryz.prog.info? 5).map (λi=>(i.zero,i.size,i.bytes))=some (some (.int .u8 0),1,1):=by kernel_rfl
theorem Jc(s:ByteArray)(w:World)(z:s.size<=20):Cl 149 #[.string s] w (.string s):=by
 by_cases f:s.size=0
 .obtain rfl:=vS f;go_enter Tryz.func149,Tryz.ntmps149
  go_wp2;go_ret;exact⟨rfl,Below.refl _ _⟩
 obtain ⟨l,c,B,d,F⟩:=info_parts Z5;have u:(Tryz.prog.info? 5).map (·.size)=some 1:=by rw[c];simp[d]
 have r:Tryz.prog.cellsOf 5=1:=by simp[Program.cellsOf,c,d]
 -- the row that make lays,by a name of its own
 obtain⟨M,a⟩:∃M,M=madeCells (Value.int .u8 0).cells (((s.size:Nat):Int).toNat*l.size):=⟨_,rfl⟩;have Q:M.size=s.size:=by rw[a,size_madeCells,d];simp
 have o:∀W:World,(Instr.makeSlice 37 (.int .i64 (s.size:Int)) (.int .i64 (s.size:Int))).run Tryz.prog W=.ok (.slice (some ⟨W.heap.size,0,none⟩) s.size s.size) (W.alloc (.cells M 5)):=λW=>by
  have h:=run_make (P:=Tryz.prog) W 37 5 l (.int .u8 0) Tryz.underlying37 c B .i64 .i64 (s.size:Int) (s.size:Int) (by omega) (by omega) (by rw[F];omega) (by omega);rw[<-a]at h;simpa using h
 clear a;have t:=Lib.run_copy_row_string (P:=Tryz.prog) (w.alloc (.cells M 5)) 37 9 3 5 w.heap.size 0 s.size s.size s M 5 Tryz.underlying37 u (heap_alloc_new w _) (Nat.le_refl _) (by omega);obtain⟨Y,b⟩:∃Y,Y=(M.toList.take 0++Lib.byteCells s.data.toList++M.toList.drop (0+s.size)).toArray:=⟨_,rfl⟩;rw[<-b]at t;have g:Y.toList=Lib.byteCells s.data.toList:=by
  rw[b,List.toList_toArray,List.take_zero,List.nil_append,List.drop_of_length_le (by rw[Array.length_toList];omega),List.append_nil]
 have i:((w.alloc (.cells M 5)).setRow w.heap.size Y).heap[w.heap.size]? =some (.cells Y 5 (0,0)):=setRow_heap _ _ M _ 5 (0,0) (heap_alloc_new w _);have v:s.data.toList≠ []:=λe=>f (by rw[Lib.size_eq,e];rfl);have U:Y.size=s.size:=by rw[<-Array.length_toList,g,Lib.byteCells_length,<-Lib.size_eq]
 have m:=Lib.run_unsafeString_row (P:=Tryz.prog) ((w.alloc (.cells M 5)).setRow w.heap.size Y) 80 3 9 5 Tryz.underlying80 r w.heap.size Y.size (by unfold World.shape?;rw[i]) s.data.toList v (by rw[<-Lib.size_eq];omega) (by rw[<-Lib.size_eq];omega)
  (λj x y=>Lib.cells_of_row i Y.size j _ (by rw[List.take_of_length_le (by rw[Array.length_toList];exact Nat.le_refl _),g];simp[Lib.byteCells,y]))
 rw[<-Lib.size_eq]at m;clear b;go_enter Tryz.func149,Tryz.ntmps149
 go_wp2;go_ret;have n:Below w.heap.size w (w.alloc (.cells M 5)):=(Below.refl _ w).alloc (Nat.le_refl _) _;have q:Below w.heap.size (w.alloc (.cells M 5)) ((w.alloc (.cells M 5)).setRow w.heap.size Y):=⟨rfl,rfl,rfl,by simp,λk V=>setRow_other _ _ _ _ (by omega)⟩;exact⟨rfl,Lib.below_freeze (n.trans q) (p:=⟨w.heap.size,0,none⟩) (Nat.le_refl _) _⟩
theorem Jb(s:ByteArray)(w:World)(a:s.size<=20):Cl 123 #[.string s] w (.string s):=by
 have b:=Jc s w a;clear a;go_enter Tryz.func123,Tryz.ntmps123
 go_wp2_with (go_at_call 149;refine b.mono ?_;rintro e E ⟨rfl,c⟩);go_ret;exact⟨rfl,c⟩
end Go.Proofs.YtdokgalidhmbbaaGreatDoor
namespace Go.Proofs.YtdokgalidhmbbaaGreatDoor
open Go
def Quiet(Q:Exit->Act->World->Prop):Exit->Act->World->Prop:=λx a w=>x=.normal/\Q x a w
variable {Q:Exit->Act->World->Prop}
theorem Quiet.panic{d:Option Tmp}{v:Value}:∀c a w,Quiet Q (.panic c) (a.put d v) w->Quiet Q (.panic c) a w:=λ_ _ _ h=>by have e:=h.1;cases e
variable {a:Act}{w:World}
theorem Quiet.normal(h:Q .normal a w):Quiet Q .normal a w:=⟨rfl,h⟩
theorem Quiet.lets(h:LetsOut (Quiet Q)):False:=by
 obtain⟨a,w,e,_⟩:=h;cases e
variable {P:Program}
theorem zln{n:Nat}{l:Nat}{o:Oper}{K j:Act->World->Prop}(p:∀c,o.op≠ .defer c)(b:∀a w,K a w->j a w)
  (h:o.wp P a w K (Quiet Q)):o.wpIn (Fence.wide.inRound l) n P a w j Q:=by
 refine⟨λ_ _=>trivial,?_⟩
 rw[Oper.semAt_eq _ _ _ p]
 unfold Oper.wp at h
 generalize(execOp a.eval o).run P w=r at*
 cases r with
 |ok x E=>
  cases x with
  |value v=>exact b _ _ h
  |skip=>exact b _ _ h
  |defer d=>exact b _ _ h
  |enter f g=>
   refine⟨(λe=>by simp[Fence.inRound,Fence.wide]at e),CallsIn.inRound l (callsIn_wide.2 ?_)⟩
   refine Calls.mono (show Calls P f g E _ from h) ?_
   intro e k i
   cases e with
   |returned v=>exact b _ _ i
   |panicked c=>(have e:=i.1;cases e)
   |outgrown=>exact(Quiet.lets i).elim
  |row r g=>
   refine⟨(λe=>by simp[Fence.inRound,Fence.wide]at e),λc m _=>?_⟩;obtain⟨v,k,q,s⟩:=(show Rows P r g E _ from h) c m;exact⟨v,k,b _ _ q,stepsIn_wide.2 s⟩
  |_=>exact h.elim
 |halt x E=>
  cases x with
  |panic v=>(have e:=h.1;cases e)
  |_=>exact h.elim
theorem JY{n:Nat}{P:Program}{Z:Region.Mode}{W:Array Oper}{l:Nat}{Q:Exit->Act->World->Prop}(d:∀(i:Nat) (o:Oper),W[i]? =some o->∀c,o.op≠ .defer c):
  ∀(b:Nat) (g:Array Bool) (a:Act) (w:World),wpAny P Z W (Quiet Q) b g a w->wpAnyIn (Fence.wide.inRound l) n P Z W Q b g a w
 |0,_,_,_,h=>⟨h.1,h.2.2⟩
 |b+1,g,a,w,h=>⟨λe=>(h.1 e).2,λi p=>by
   have h2:=h.2 i p
   unfold wpOp at h2
   unfold wpOpIn
   cases f:W[i]? with
   |none=>simp only[f]at h2;exact JY d b _ a w h2
   |some o=>
    simp only[f]at h2
    dsimp only
    by_cases j:Region.wanted o (yielded W a.tmps)
    .simp only[j,if_true]at h2 |-
     rcases h2 with h2|⟨_,h2⟩
     .exact zln (d i o f) (λk E m=>JY d b _ k E m) h2
     .exact (Quiet.lets h2).elim
    .simp only[j]at h2 |-
     exact⟨λ_ _=>trivial,JY d b _ _ _ h2⟩⟩
theorem fB{n:Nat}{l k:Nat}{W:List Oper}(S:World->Prop)(f:P.follows .mixedOrders=true)(d:(W.all λo=> !defers o.op)=true)(b:S w.drew)
  (h:S w.drew->wpAnyH P .any W.toArray (Quiet Q) S W.toArray.size (Array.replicate W.toArray.size false) a w.drew):(Code.region k W.toArray true).wpIn (Fence.wide.inRound l) n P Q a w:=by
 refine wpIn_region_any f (JY (λi o j c e=>?_) _ _ _ _ (wpAny_of_held _ _ _ _ (h b)));have g:o∈W:=by
  have:=Array.mem_of_getElem? j;simpa using this
 have:=List.all_eq_true.1 d o g;rw[e]at this;simp[defers]at this
theorem vR{W:Array Oper}{o:Oper}{K:Act->World->Prop}{E:Prop}
  (I:o.guard=none) (s x:Operand) (t:TypeId) (L:o.op=Op.call {callee:=Callee.builtin Builtin.append,args:=#[s,x],argTypes:=#[t,t]})
  (T:Nat) (e:TypeId) (i:TypeInfo) (z:Value) (b k:Nat) (r:P.underlying t=some (.slice e)) (B:P.info? e=some i) (F:i.zero=some z) (U:i.size=b) (V:i.bytes=k) (A:z.cells.size=b) (C:0<b)
  (v:Value) (n:Nat) (l:List Value) (O:a.eval s=v) (M:w.ownsRow T e b v n l)
  (h:Addr) (m c:Nat) (d:List Value) (S:a.eval x=.slice (some h) m c) (J:d.length=m*b) (H:∀j u,d[j]? =some u->w.cell? (h.add j)=some u) (y:∀u∈d,u.oneCell'=true)
  (p:n+m<=maxLen) (q:(n+m)*k<=140737488355328) (G:T<=w.heap.size)
  (D:∀g f,f.ownsRow T e b g (n+m) (l++d)->w.grownBy f v.ownBlock->K (a.put o.dst g) f):
  if Region.wanted o (yielded W a.tmps)=true then Oper.wp P o a w K Q else E:=by
 have R:Region.wanted o (yielded W a.tmps)=true:=by simp[Region.wanted,I]
 rw[if_pos R];obtain⟨g,f,N,X,Y,_,Z⟩:=run_append_own_at (P:=P) w T t o.type e i z b k r B F U V A C v n l M h m c d J H y p q G;unfold Oper.wp;simp[execOp,L,resolve,invoke,builtin,O,S,N,Result.andThen];exact D g f X Y
end Go.Proofs.YtdokgalidhmbbaaGreatDoor
namespace Go.Proofs.YtdokgalidhmbbaaGreatDoor
open Go.RowKit Go.Shelf Go.Lib
attribute [local go_sem] Oper.semAt_some
theorem kw{W a:World}{c:Option Nat}{b o:Nat}{v:Value}(h:W.cell? ⟨b,o,none⟩=some v)(d:W.grownBy a c)(e:b<W.heap.size)(f:some b≠c):a.cell? ⟨b,o,none⟩=some v:=by
 rw[<-h];unfold World.cell?;rw[d.block b e f]
def vG(M:List Int)(x:Nat):R:=(M[2*x+1]?.getD 0,M[2*x]?.getD 0)
theorem Xz:∀(M:Nat) (c:List Int),c.length=2*M->(List.range M).map (vG c)=zR c:=by
 intro M
 induction M with
 |zero=>
  intro c h;obtain rfl:c=[]:=List.eq_nil_of_length_eq_zero (by omega);rfl
 |succ M d=>
  intro c h
  match c,h with
  |[],h=>simp at h
  |[a],h=>simp at h;omega
  |a::b::c,h=>
   rw[List.range_succ_eq_map,List.map_cons,List.map_map];simp only[zR];rw[<-d c (by simp at h;omega)];congr 1
theorem zol(g d M L C:Nat)(f:List Int)(w:World)(a4:L=2*M)(a5:M<=12)(a3:L<=C)(a9:f.length=L)(hg:g<w.heap.size)(a6:ICells w g d f):
  Calls Tryz.prog 223 #[.slice (some ⟨g,d,none⟩) L C] w λe w'=>∃v,e=.returned v/\Row w' v (zR f)/\Fits v/\Below w.heap.size w w':=by
 refine(callsIn_wide (n:=5)).1 ?_;have ar:Fence.wide.fn 183:=trivial;have Y:=zC a4;have ag:=zC a3;have Z:=zC a5;have a1:=zC a9;have P:=zC hg;have CC:=zC a6;clear a9 hg a6 a4 a3 a5;refine callsIn_of_wp_marks Tryz.func223 rfl trivial ?_ rfl;simp only[Tryz.ntmps223,List.size_toArray,List.length_cons,List.length_nil,Nat.reduceAdd,Nat.reduceSub,Array.replicate_succ,Array.replicate_zero,List.push_toArray,List.append_toArray,List.nil_append,List.cons_append]
 gi_wp2_with (gi_at_call 183;refine(J9 4 _ _ _ _).mono ?_;rintro e w' ⟨rfl,rfl⟩);have kO0:Boxed (((w.alloc (.cells #[.slice none 0 0] 88)).alloc (.cells #[.slice (some ⟨g,d,none⟩) L C] 54)).alloc (.cells #[.int .i64 2] 3)) w.heap.size 88 (.slice none 0 0):=((Boxed.new w 88 _).alloc _).alloc _;have bS:Boxed (((w.alloc (.cells #[.slice none 0 0] 88)).alloc (.cells #[.slice (some ⟨g,d,none⟩) L C] 54)).alloc (.cells #[.int .i64 2] 3)) (w.heap.size+1) 54 (.slice (some ⟨g,d,none⟩) L C):=by
  have:=(Boxed.new (w.alloc (.cells #[.slice none 0 0] 88)) 54 (.slice (some ⟨g,d,none⟩) L C)).alloc (.cells #[.int .i64 2] 3);rwa[World.size_alloc]at this
 have bN:Boxed (((w.alloc (.cells #[.slice none 0 0] 88)).alloc (.cells #[.slice (some ⟨g,d,none⟩) L C] 54)).alloc (.cells #[.int .i64 2] 3)) (w.heap.size+2) 3 (.int .i64 2):=by
  have:=Boxed.new ((w.alloc (.cells #[.slice none 0 0] 88)).alloc (.cells #[.slice (some ⟨g,d,none⟩) L C] 54)) 3 (.int .i64 2);rwa[World.size_alloc,World.size_alloc]at this
 have hB30:Below w.heap.size w (((w.alloc (.cells #[.slice none 0 0] 88)).alloc (.cells #[.slice (some ⟨g,d,none⟩) L C] 54)).alloc (.cells #[.int .i64 2] 3)):=(((Below.refl _ w).alloc (Nat.le_refl _) _).alloc (by simp) _).alloc (by simp;omega) _;have sz3:(((w.alloc (.cells #[.slice none 0 0] 88)).alloc (.cells #[.slice (some ⟨g,d,none⟩) L C] 54)).alloc (.cells #[.int .i64 2] 3)).heap.size=w.heap.size+3:=by simp
 generalize((w.alloc (.cells #[.slice none 0 0] 88)).alloc (.cells #[.slice (some ⟨g,d,none⟩) L C] 54)).alloc (.cells #[.int .i64 2] 3)=W3 at*
 refine wpIn_rangeFunc_ownG rfl (by decide) (gf:=211) (lb:=#[.pointer (some ⟨w.heap.size+1,0,none⟩),.pointer (some ⟨w.heap.size+2,0,none⟩)]) rfl trivial (enters_of Tryz.func211 (by kernel_rfl) rfl)
  (Ja (5-1) (by decide) g d M L C (w.heap.size+1) (w.heap.size+2) Y.out (by have:=Z.out;omega) ag.out W3 (by omega) (by omega) ⟨bS.cell,bN.cell⟩)
  (λh k hR=>k (h hR)) (KpH.put (w:=W3)) (Below.refl _ _) (λ_=>rfl)
  (λ(r:List (Ix M)) W=>(∃v,Boxed W w.heap.size 88 v/\W.ownsRow w.heap.size 143 2 v r.length (flat (r.map (λy=>vG f y.1)))/\True)/\Boxed W (w.heap.size+1) 54 (.slice (some ⟨g,d,none⟩) L C)/\Boxed W (w.heap.size+2) 3 (.int .i64 2)/\Below w.heap.size w W)
  (λ_ _ _=>False)
  (OwnFrom.and (Own.from (holdsRow_own w.heap.size w.heap.size 88 143 2 (λr:List (Ix M)=>r.length) (λr:List (Ix M)=>flat (r.map (λy=>vG f y.1))) (λ_ _=>True)) _) (OwnFrom.and (Own.from (boxed_own _ _ _) _) (OwnFrom.and (Own.from (boxed_own _ _ _) _) (ownFrom_below (Nat.le_refl _) (by omega)))))
  (λ_ _ _ _ _ hs _ _=>hs)
  ⟨⟨_,kO0,World.ownsRow_nil _ _ _ _,trivial⟩,bS,bN,hB30⟩
  (λx=>{tmps:=#[.slice (some ⟨g,d,none⟩) L C,undef,.slice none 0 0,.pointer (some ⟨w.heap.size,0,none⟩),.slice (some ⟨g,d+2*x.1,none⟩) 2 2,.slice (some ⟨g,d,none⟩) L C,.func (.func 211) #[] #[.pointer (some ⟨w.heap.size+1,0,none⟩),.pointer (some ⟨w.heap.size+2,0,none⟩)],.slice (some ⟨g,d+2*x.1,none⟩) 2 2,undef,undef,undef,undef,undef,undef,undef,undef,undef,undef,undef],defers:=[]}) ?assign ?body ?done ?stop
 all_goals clear kO0 bS bN hB30
 case assign=>
  intro l x W K b;clear sz3;gi_wp2;exact b
 case body=>
  rintro l r ⟨x,hx⟩ W ⟨⟨v,S,kr,_⟩,T,R,Q⟩ ap;have hx:x<M:=hx;have ab:2*x+1<f.length:=by have:=a1.out;have:=Y.out;omega
  have a2:=CC.out (2*x) (by omega);have cx1:=CC.out (2*x+1) ab;rw[<-Nat.add_assoc]at cx1;have z0:=(Q.cell (p:=⟨g,d+2*x,none⟩) P.out).trans a2;have z1:=(Q.cell (p:=⟨g,d+2*x+1,none⟩) P.out).trans cx1;have HS:Hid ((r++[(⟨x,hx⟩:Ix M)]).map (λy=>vG f y.1)=r.map (λy=>vG f y.1)++[(f[2*x+1]?.getD 0,f[2*x]?.getD 0)]):=by
   show _=_;rw[List.map_append];rfl
  have aa:r.length<12:=by have:=Z.out;omega
  have O:=zC aa;have aq:Hid (W3.heap.size=w.heap.size+3):=sz3;clear a2 cx1 ap aa sz3 ab;generalize f[2*x]?.getD 0=m at*;generalize f[2*x+1]?.getD 0=q at*;have kOd:Boxed W.drew w.heap.size 88 v:=S;have krd:W.drew.ownsRow w.heap.size 143 2 v r.length (flat (r.map (λy=>vG f y.1))):=kr;have kSd:Boxed W.drew (w.heap.size+1) 54 (.slice (some ⟨g,d,none⟩) L C):=T;have kNd:Boxed W.drew (w.heap.size+2) 3 (.int .i64 2):=R
  have hBd:Below w.heap.size w W.drew:=Q.drew;have KOd:KeepsOthers W W.drew:=⟨Nat.le_refl _,λ_ _ h _=>h⟩;have y0:W.drew.cell? ⟨g,d+2*x,none⟩=some (.int .i64 m):=z0;have y1:W.drew.cell? ⟨g,d+2*x+1,none⟩=some (.int .i64 q):=z1;have y2:=kOd.cell;obtain⟨V,a8,ad,ae,af⟩:=info_parts wX;have B:Hid (Tryz.prog.info? 143=some V/\V.zero=some (.agg #[.int .i64 0,.int .i64 0])/\V.size=2/\V.bytes=16):=⟨a8,ad,ae,af⟩
  have hgd:g<W.drew.heap.size:=Nat.lt_of_lt_of_le P.out hBd.size;have hbd:w.heap.size<W.drew.heap.size:=kOd.lt;clear a8 ad ae af S kr T R Q z0 z1;gi_wp2;refine fB (λX=>X.cell? ⟨g,d+2*x,none⟩=some (.int .i64 m)/\X.cell? ⟨g,d+2*x+1,none⟩=some (.int .i64 q)) (by kernel_rfl) (by kernel_rfl) ⟨y0,y1⟩ (λhHeld=>?_);clear y0 y1;have au:W.drew.heap.size=W.heap.size:=rfl;generalize W.drew=F at*;refine kv 1 (.slice (some ⟨g,d+2*x,none⟩) 2 2) rfl (by kernel_rfl) Quiet.panic rfl (by assumption) ?_ ?_
  .intro E s;obtain⟨z,A⟩:=s;go_simp
  try simp only[Act.put,zD,zF,zG]
  refine kv 2 (.pointer (some ⟨g,d+2*x,none⟩)) rfl (by kernel_rfl) Quiet.panic rfl (by assumption) ?_ ?_;.intro E s;obtain⟨z,A⟩:=s;go_simp
  try simp only[Act.put,zD,zF,zG]
  refine kv 3 (.int .i64 m) rfl (by kernel_rfl) Quiet.panic rfl (by assumption) ?_ ?_;.intro E s;obtain⟨z,A⟩:=s;go_simp
  try simp only[Act.put,zD,zF,zG]
  refine kv 4 (.slice (some ⟨g,d+2*x,none⟩) 2 2) rfl (by kernel_rfl) Quiet.panic rfl (by assumption) ?_ ?_;.intro E s;obtain⟨z,A⟩:=s;go_simp
  try simp only[Act.put,zD,zF,zG]
  refine kv 5 (.pointer (some ⟨g,d+2*x+1,none⟩)) rfl (by kernel_rfl) Quiet.panic rfl (by assumption) ?_ ?_;.intro E s;obtain⟨z,A⟩:=s;go_simp
  try simp only[Act.put,zD,zF,zG]
  refine kv 6 (.int .i64 q) rfl (by kernel_rfl) Quiet.panic rfl (by assumption) ?_ ?_;.intro E s;obtain⟨z,A⟩:=s;go_simp
  try simp only[Act.put,zD,zF,zG]
  refine kv 7 (.agg #[.int .i64 q,.int .i64 m]) rfl (by kernel_rfl) Quiet.panic rfl (by assumption) ?_ ?_;.intro E s;obtain⟨z,A⟩:=s;go_simp
  try simp only[Act.put,zD,zF,zG]
  have a7:=Qy F q m;have CS:Hid (∀j u,[Value.int .i64 q,Value.int .i64 m][j]? =some u->(F.alloc (.cells #[.int .i64 q,.int .i64 m] 143)).cell? ((⟨F.heap.size,0,none⟩:Addr).add j)=some u):=a7;have y3:(F.alloc (.cells #[.int .i64 q,.int .i64 m] 143)).cell? ⟨w.heap.size,0,none⟩=some v:=(World.cell?_alloc_lt _ _ _ hbd).trans y2;clear a7;refine wpAnyH_ready (rs:=[0,8]) (by kernel_rfl) (by simp) ?_;refine AllReadyH.cons (o:= ⟨some 8,.load 88 (.tmp 3),88,"frame.go:57",#[],none⟩) rfl (λK b=>?_) (AllReadyH.cons (o:= ⟨some 16,.buildSlice 88 1 #[(0,.tmp 15)],88,"frame.go:57",#[⟨7,.data⟩],none⟩) rfl (λK b=>?_) AllReadyH.nil)
  .go_simp
   refine b.out _ _ hHeld (λhHeld=>?_)
   clear b K
   try simp only[Act.put,zD,zF,zG]
   refine wpAnyH_ready (rs:=[8]) (by kernel_rfl) (by simp) ?_
   refine AllReadyH.cons (o:= ⟨some 16,.buildSlice 88 1 #[(0,.tmp 15)],88,"frame.go:57",#[⟨7,.data⟩],none⟩) rfl (λK b=>?_) AllReadyH.nil
   go_simp
   refine b.out _ _ ?_ (λhHeld=>?_)
   .exact ⟨(World.cell?_alloc_lt _ _ _ hgd).trans hHeld.1,(World.cell?_alloc_lt _ _ _ hgd).trans hHeld.2⟩
   clear b K
   try simp only[Act.put,zD,zF,zG]
   refine wpAnyH_ready (rs:=[9]) (by kernel_rfl) (by simp) ?_
   refine AllReadyH.cons (o:= ⟨some 17,.call {callee:=.builtin .append,args:=#[.tmp 8,.tmp 16],argTypes:=#[88,88]},88,"frame.go:57",#[⟨0,.data⟩,⟨8,.data⟩],none⟩) rfl (λK b=>?_) AllReadyH.nil
   refine vR rfl (.tmp 8) (.tmp 16) 88 rfl w.heap.size 143 V _ 2 16 Tryz.underlying88 B.out.1 B.out.2.1 B.out.2.2.1 B.out.2.2.2 rfl (by decide) v r.length _ (by simp[Act.eval]) (krd.alloc _) ⟨F.heap.size,0,none⟩ 1 1 [Value.int .i64 q,Value.int .i64 m] (by simp[Act.eval]) rfl CS.out (by intro u hu;simp at hu;rcases hu with rfl|rfl<;>rfl) (by have:=O.out;unfold maxLen;omega) (by have:=O.out;omega) (by simp;omega) ?_
   intro U w4 J t
   obtain⟨N,hv2,hr2,hk2,hb2⟩:=kOd.appended (by decide) krd (Nat.le_of_lt hbd) (Nat.le_refl _) J t
   have an:=N.cell
   have ao:=N.frozen
   have I:some g≠v.ownBlock:=λe=>by have:=(krd.lt g e.symm).1;have:=P.out;omega
   have G:g<(F.alloc (.cells #[.int .i64 q,.int .i64 m] 143)).heap.size:=by simp;omega
   refine b.out _ _ ?_ (λhHeld=>?_)
   .exact ⟨kw hHeld.1 t G I,kw hHeld.2 t G I⟩
   clear b K
   try simp only[Act.put,zD,zF,zG]
   have kS4:=((kSd.alloc (.cells #[.int .i64 q,.int .i64 m] 143)).kept t (kSd.not_row (by decide) krd)).other (B':=w.heap.size) (by omega) U
   have kN4:=((kNd.alloc (.cells #[.int .i64 q,.int .i64 m] 143)).kept t (kNd.not_row (by decide) krd)).other (B':=w.heap.size) (by omega) U
   have H:w.heap.size≠g:=by have:=P.out;omega
   refine wpAnyH_ready (rs:=[10]) (by kernel_rfl) (by simp) ?_
   refine AllReadyH.cons (o:= ⟨none,.store 88 (.tmp 3) (.tmp 17),0,"frame.go:57",#[⟨9,.data⟩,⟨9,.chain⟩,⟨0,.phase⟩,⟨1,.phase⟩,⟨2,.phase⟩,⟨3,.phase⟩,⟨4,.phase⟩,⟨5,.phase⟩,⟨6,.phase⟩,⟨7,.phase⟩,⟨8,.phase⟩,⟨9,.phase⟩],none⟩) rfl (λK b=>?_) AllReadyH.nil
   obtain⟨av,nv,cv,rfl⟩:∃a n c,U=.slice a n c:=by
    rcases J.2 with⟨e,_⟩|⟨g',ah,ai,e,_⟩
    .exact ⟨_,_,_,e⟩
    .exact ⟨_,_,_,e⟩
   go_simp
   refine b.out _ _ ⟨(World.cell?_setCell_far _ _ _ _ H).trans hHeld.1,(World.cell?_setCell_far _ _ _ _ H).trans hHeld.2⟩ (λhHeld=>?_)
   clear b K
   refine wpAnyH_done (by kernel_rfl) (Quiet.normal ?_) _
   clear hHeld
   refine⟨(KOd.trans hk2).from _,λ_=>⟨kS4.cell,kN4.cell⟩,⟨_,hv2,?_,trivial⟩,kS4,kN4,hBd.trans hb2⟩
   rw[HS.out,List.length_append,xL];exact hr2
  .go_simp
   refine b.out _ _ ?_ (λhHeld=>?_)
   .exact ⟨(World.cell?_alloc_lt _ _ _ hgd).trans hHeld.1,(World.cell?_alloc_lt _ _ _ hgd).trans hHeld.2⟩
   clear b K
   try simp only[Act.put,zD,zF,zG]
   refine wpAnyH_ready (rs:=[0]) (by kernel_rfl) (by simp) ?_
   refine AllReadyH.cons (o:= ⟨some 8,.load 88 (.tmp 3),88,"frame.go:57",#[],none⟩) rfl (λK b=>?_) AllReadyH.nil
   go_simp
   refine b.out _ _ ?_ (λhHeld=>?_)
   .exact hHeld
   clear b K
   try simp only[Act.put,zD,zF,zG]
   refine wpAnyH_ready (rs:=[9]) (by kernel_rfl) (by simp) ?_
   refine AllReadyH.cons (o:= ⟨some 17,.call {callee:=.builtin .append,args:=#[.tmp 8,.tmp 16],argTypes:=#[88,88]},88,"frame.go:57",#[⟨0,.data⟩,⟨8,.data⟩],none⟩) rfl (λK b=>?_) AllReadyH.nil
   refine vR rfl (.tmp 8) (.tmp 16) 88 rfl w.heap.size 143 V _ 2 16 Tryz.underlying88 B.out.1 B.out.2.1 B.out.2.2.1 B.out.2.2.2 rfl (by decide) v r.length _ (by simp[Act.eval]) (krd.alloc _) ⟨F.heap.size,0,none⟩ 1 1 [Value.int .i64 q,Value.int .i64 m] (by simp[Act.eval]) rfl CS.out (by intro u hu;simp at hu;rcases hu with rfl|rfl<;>rfl) (by have:=O.out;unfold maxLen;omega) (by have:=O.out;omega) (by simp;omega) ?_
   intro U w4 J t
   obtain⟨N,hv2,hr2,hk2,hb2⟩:=kOd.appended (by decide) krd (Nat.le_of_lt hbd) (Nat.le_refl _) J t
   have an:=N.cell
   have ao:=N.frozen
   have I:some g≠v.ownBlock:=λe=>by have:=(krd.lt g e.symm).1;have:=P.out;omega
   have G:g<(F.alloc (.cells #[.int .i64 q,.int .i64 m] 143)).heap.size:=by simp;omega
   refine b.out _ _ ?_ (λhHeld=>?_)
   .exact ⟨kw hHeld.1 t G I,kw hHeld.2 t G I⟩
   clear b K
   try simp only[Act.put,zD,zF,zG]
   have kS4:=((kSd.alloc (.cells #[.int .i64 q,.int .i64 m] 143)).kept t (kSd.not_row (by decide) krd)).other (B':=w.heap.size) (by omega) U
   have kN4:=((kNd.alloc (.cells #[.int .i64 q,.int .i64 m] 143)).kept t (kNd.not_row (by decide) krd)).other (B':=w.heap.size) (by omega) U
   have H:w.heap.size≠g:=by have:=P.out;omega
   refine wpAnyH_ready (rs:=[10]) (by kernel_rfl) (by simp) ?_
   refine AllReadyH.cons (o:= ⟨none,.store 88 (.tmp 3) (.tmp 17),0,"frame.go:57",#[⟨9,.data⟩,⟨9,.chain⟩,⟨0,.phase⟩,⟨1,.phase⟩,⟨2,.phase⟩,⟨3,.phase⟩,⟨4,.phase⟩,⟨5,.phase⟩,⟨6,.phase⟩,⟨7,.phase⟩,⟨8,.phase⟩,⟨9,.phase⟩],none⟩) rfl (λK b=>?_) AllReadyH.nil
   obtain⟨av,nv,cv,rfl⟩:∃a n c,U=.slice a n c:=by
    rcases J.2 with⟨e,_⟩|⟨g',ah,ai,e,_⟩
    .exact ⟨_,_,_,e⟩
    .exact ⟨_,_,_,e⟩
   go_simp
   refine b.out _ _ ⟨(World.cell?_setCell_far _ _ _ _ H).trans hHeld.1,(World.cell?_setCell_far _ _ _ _ H).trans hHeld.2⟩ (λhHeld=>?_)
   clear b K
   refine wpAnyH_done (by kernel_rfl) (Quiet.normal ?_) _
   clear hHeld
   refine⟨(KOd.trans hk2).from _,λ_=>⟨kS4.cell,kN4.cell⟩,⟨_,hv2,?_,trivial⟩,kS4,kN4,hBd.trans hb2⟩
   rw[HS.out,List.length_append,xL];exact hr2
 case done=>
  rintro D ys W hD a0 ⟨⟨v,S,kr,_⟩,T,R,Q⟩ b;rw[show ys.map (λy=>vG f y.1)=zR f by rw[<-Xz M f (by have:=a1.out;have:=Y.out;omega),<-a0,List.map_map];rfl]at kr;have ac:ys.length=M:=by have:=congrArg List.length a0;simpa using this
  rw[ac]at kr;have aw:=S.cell;have ak:Hid (w.heap.size<=D):=by show _<=_;omega
  have aj:Hid (Below w.heap.size w W):=Q;have am:Hid (Row (W.putObj D (.deferred none)) v (zR f)):=vY (ownsRow_putObj kr _ b rfl) (by
   have:=Xo (zs:=zR f) kr;have:=Z.out;omega)
  have al:Hid (Fits v):=Y8 kr;clear a0 kr T R ac sz3 Q;gi_wp2;refine⟨by simp,.inl ⟨_,_,rfl,run_takeDeferred b,?_⟩⟩;exact⟨_,results_tmp rfl _ _ _,v,rfl,am.out,al.out,aj.out.trans (belowK_b (w:=w) (Nat.le_refl _) W D _ _ ak.out b rfl rfl)⟩
 case stop=>
  rintro D c r W _ _ h _;exact h.elim
theorem dY(v:Value)(a:List Int)(M:Nat)(w:World)(i:IRow w v a)(hM:a.length=2*M)(p:1<=M)(f:M<=12):
  Calls Tryz.prog 223 #[v] w λe E=>∃d,e=.returned d/\Row E d (zR a)/\Fits d/\Below w.heap.size w E:=by
 obtain⟨n,c,rfl,q,k,l⟩:=i;rcases l with h|⟨b,m,rfl,j,g⟩;subst h;simp at hM;omega;exact zol b m M _ c a w hM f k rfl j g
theorem zk7(b m d P:Nat)(J:List R)(w:World)(s:J.length=d)(z:d<=12)(U:b<w.heap.size)(r:Cells w b m J):
  Calls Tryz.prog 240 #[.slice (some ⟨b,m,none⟩) d P] w λe E=>∃n,e=.returned n/\OwnI E w.heap.size n (zK J)/\Below w.heap.size w E:=by
 have HL:=zC s;have B:=zC r;clear s r;go_enter Tryz.func240,Tryz.ntmps240
 go_wp2_with fail;go_loopw [3,8] (λv i wr=>∃k:Nat,k<=d/\i=.int .i64 k/\OwnI wr w.heap.size v (zK (J.take k))/\Below w.heap.size w wr) (λ_ i _=>d-(intOf i).toNat)
 case atStart=>exact⟨0,Nat.zero_le _,rfl,World.ownsRow_nil _ _ _ _,Below.refl _ _⟩
 case round=>
  obtain⟨k,C,rfl,hown,h⟩:=hrel;by_cases D:k<d
  .have Q:(k:Int)<(d:Int):=by omega
   have l:k<J.length:=by have:=HL.out;omega
   obtain⟨c0,c1⟩:=B.out.below U h k l;have HN:Hid (zK (J.take (k+1))=zK (J.take k)++[(at' J k).2,(at' J k).1]):=by
    show _=_;rw[take_at l,Qk];rfl
   have G:(zK (J.take k)).length<=24:=by rw[yC,List.length_take];omega
   clear l;generalize at' J k=y at*;obtain⟨g,f⟩:=y;simp only at c0 c1 HN;have F:Below w.heap.size w (wr.alloc (.cells #[.int .i64 g,.int .i64 f] 143)):=h.alloc h.size _;have t:=hown.alloc (.cells #[.int .i64 g,.int .i64 f] 143);have q:Hid (OwnI (wr.alloc (.cells #[.int .i64 g,.int .i64 f] 143)) w.heap.size u3 (zK (J.take k))):=t;have A:=h.size;have cs:=QC (wr.alloc (.cells #[.int .i64 g,.int .i64 f] 143)) f g
   rw[World.size_alloc]at cs;have x:Hid (∀j u,(qV [f,g])[j]? =some u->((wr.alloc (.cells #[.int .i64 g,.int .i64 f] 143)).alloc (.cells #[.int .i64 f,.int .i64 g] 3)).cell? ((⟨wr.heap.size+1,0,none⟩:Addr).add j)=some u):=cs;clear t hown cs;go_wp2_with (at_builtin;refine yz rfl (.tmp 12) (.tmp 17) rfl w.heap.size _ (zK (J.take k)) rfl (q.out.alloc _) ⟨wr.heap.size+1,0,none⟩ 2 2 [f,g] rfl rfl x.out (by simp;omega) (by simp;omega) ?_;intro n E o V)
   exact⟨⟨k+1,by omega,by go_num,by rw[HN.out];exact o,(F.alloc (by simp;omega) _).grown V (by simp;omega) (λj e=>(q.out.lt j e).1)⟩,by simp[intOf];omega⟩
  have Q:¬(k:Int)<(d:Int):=by omega
  obtain rfl:k=d:=by omega
  have p:Hid (J.take k=J):=by show _=_;rw[<-HL.out,List.take_length]
  rw[p.out]at hown;obtain⟨a,c,rfl⟩:=hown.shape;clear p;go_wp2_with fail;go_ret;exact⟨_,rfl,hown,h⟩
theorem zk6(v:Value)(J:List R)(w:World)(i:Row w v J)(f:J.length<=12)(d:J≠ []):
  Calls Tryz.prog 240 #[v] w λe E=>∃a,e=.returned a/\OwnI E w.heap.size a (zK J)/\Below w.heap.size w E:=by
 obtain⟨m,c,rfl,n,p,k⟩:=i;rcases k with h|⟨b,l,rfl,j,g⟩;exact absurd h d;exact zk7 b l _ c J w rfl f j g
end Go.Proofs.YtdokgalidhmbbaaGreatDoor
namespace Go.Proofs.YtdokgalidhmbbaaGreatDoor
open Go.RowKit Go.Lib Go.Sort
theorem zcr(k:Int)(a:Option Addr)(n c:Nat)(d:ByteArray)(M:List Int)(w:World)(i:Cnts w)(b:IRow w (.slice a n c) M)(l:M.length=n)(j:d.size<=maxLen)(g:zw k=false):
  Cl 205 #[.agg #[.int .i64 k,.slice a n c,.string d]] w (zN 1):=by
 unfold maxLen at j;have m:n<=9223372036854775807:=by obtain⟨_,_,_,h,_⟩:=b;omega
 have f:Below w.heap.size w (w.alloc (.cells #[.int .i64 k,.slice a n c,.string d] 141)):=(Below.refl _ w).alloc (Nat.le_refl _) _;have p:w.heap.size<(w.alloc (.cells #[.int .i64 k,.slice a n c,.string d] 141)).heap.size:=by simp
 have HK:=vC k;rw[g]at HK;clear i b l;go_enter Tryz.func205,Tryz.ntmps205
 go_wp2_with (first|(go_at_call 207;refine(HK _).mono ?_;rintro e q ⟨rfl,rfl⟩));go_ret;exact⟨rfl,f⟩
theorem zcs(k:Int)(a:Option Addr)(n c:Nat)(d:ByteArray)(M:List Int)(w:World)(g:Cnts w)(i:IRow w (.slice a n c) M)(p:M.length=n)(l:d.size<=maxLen)(f:zw k=true)(j:zW k n=false):
  Cl 205 #[.agg #[.int .i64 k,.slice a n c,.string d]] w (zN 3):=by
 unfold maxLen at l;have m:n<=9223372036854775807:=by obtain⟨_,_,_,h,_⟩:=i;omega
 have b:Below w.heap.size w (w.alloc (.cells #[.int .i64 k,.slice a n c,.string d] 141)):=(Below.refl _ w).alloc (Nat.le_refl _) _;have r:w.heap.size<(w.alloc (.cells #[.int .i64 k,.slice a n c,.string d] 141)).heap.size:=by simp
 have HK:=vC k;rw[f]at HK;have HC:=yh k n (w.alloc (.cells #[.int .i64 k,.slice a n c,.string d] 141)) (g.below b) f m;rw[j]at HC;clear g i p;go_enter Tryz.func205,Tryz.ntmps205
 go_wp2_with (first|(go_at_call 207;refine(HK _).mono ?_;rintro e q ⟨rfl,rfl⟩)|(go_at_call 220;refine HC.mono ?_;rintro e q ⟨rfl,rfl⟩));go_ret;exact⟨rfl,b⟩
theorem zct(k:Int)(a:Option Addr)(n c:Nat)(d:ByteArray)(M:List Int)(w:World)(g:Cnts w)(i:IRow w (.slice a n c) M)(s:M.length=n)(p:d.size<=maxLen)(f:zw k=true)(j:zW k n=true)(l:k≠3)(m:d.size≠0):
  Cl 205 #[.agg #[.int .i64 k,.slice a n c,.string d]] w (zN 3):=by
 unfold maxLen at p;have r:n<=9223372036854775807:=by obtain⟨_,_,_,h,_⟩:=i;omega
 have b:Below w.heap.size w (w.alloc (.cells #[.int .i64 k,.slice a n c,.string d] 141)):=(Below.refl _ w).alloc (Nat.le_refl _) _;have v:w.heap.size<(w.alloc (.cells #[.int .i64 k,.slice a n c,.string d] 141)).heap.size:=by simp
 have HK:=vC k;rw[f]at HK;have HC:=yh k n (w.alloc (.cells #[.int .i64 k,.slice a n c,.string d] 141)) (g.below b) f r;rw[j]at HC;have t:=x8 m;have q:¬k=3:=l;clear g i s;go_enter Tryz.func205,Tryz.ntmps205
 go_wp2_with (first|(go_at_call 207;refine(HK _).mono ?_;rintro e u ⟨rfl,rfl⟩)|(go_at_call 220;refine HC.mono ?_;rintro e u ⟨rfl,rfl⟩));go_ret;exact⟨by simp[q,t];rfl,b⟩
theorem zcu(a:Option Addr)(n c:Nat)(d:ByteArray)(M:List Int)(w:World)(k:Cnts w)(g:IRow w (.slice a n c) M)(t:M.length=n)(r:d.size<=maxLen)(j:zw 3=true)(l:zW 3 n=true)(m:xA M=true):
  Cl 205 #[.agg #[.int .i64 3,.slice a n c,.string d]] w (zN 1):=by
 unfold maxLen at r;have s:n<=9223372036854775807:=by obtain⟨_,_,_,h,_⟩:=g;omega
 have b:Below w.heap.size w (w.alloc (.cells #[.int .i64 3,.slice a n c,.string d] 141)):=(Below.refl _ w).alloc (Nat.le_refl _) _;have i:w.heap.size<(w.alloc (.cells #[.int .i64 3,.slice a n c,.string d] 141)).heap.size:=by simp
 have HK:=vC 3;rw[j]at HK;have HC:=yh 3 n (w.alloc (.cells #[.int .i64 3,.slice a n c,.string d] 141)) (k.below b) j s;rw[l]at HC;have HF:=ZY (.slice a n c) M (w.alloc (.cells #[.int .i64 3,.slice a n c,.string d] 141)) (g.below b);rw[m]at HF;have u:(w.alloc (.cells #[.int .i64 3,.slice a n c,.string d] 141)).cell? ⟨w.heap.size,0,none⟩=some (.int .i64 3):=by simp
 have v:(w.alloc (.cells #[.int .i64 3,.slice a n c,.string d] 141)).cell? ⟨w.heap.size,1,none⟩=some (.slice a n c):=by simp
 have x:(w.alloc (.cells #[.int .i64 3,.slice a n c,.string d] 141)).cell? ⟨w.heap.size,2,none⟩=some (.string d):=by simp
 clear k g t;go_enter Tryz.func205,Tryz.ntmps205
 go_wp2_with (first|(go_at_call 207;refine(HK _).mono ?_;rintro e y ⟨rfl,rfl⟩)|(go_at_call 220;refine HC.mono ?_;rintro e y ⟨rfl,rfl⟩)|(go_at_call 221;refine HF.mono ?_;rintro e Q ⟨rfl,f⟩;have B:=(f.cell (p:=⟨w.heap.size,0,none⟩) i).trans u;have F:=(f.cell (p:=⟨w.heap.size,1,none⟩) i).trans v;have P:=(f.cell (p:=⟨w.heap.size,2,none⟩) i).trans x;have q:=b.trans (f.mono b.size)));go_ret;exact⟨rfl,q⟩
theorem zcv(k:Int)(a:Option Addr)(n c:Nat)(M:List Int)(w:World)(j:Cnts w)(f:IRow w (.slice a n c) M)(t:M.length=n)(i:zw k=true)(l:zW k n=true)(m:k≠3)(q:xA M=true):
  Cl 205 #[.agg #[.int .i64 k,.slice a n c,.string {data:=#[]}]] w (zN 1):=by
 skip
 have s:n<=9223372036854775807:=by obtain⟨_,_,_,h,_⟩:=f;omega
 have b:Below w.heap.size w (w.alloc (.cells #[.int .i64 k,.slice a n c,.string {data:=#[]}] 141)):=(Below.refl _ w).alloc (Nat.le_refl _) _;have g:w.heap.size<(w.alloc (.cells #[.int .i64 k,.slice a n c,.string {data:=#[]}] 141)).heap.size:=by simp
 have HK:=vC k;rw[i]at HK;have HC:=yh k n (w.alloc (.cells #[.int .i64 k,.slice a n c,.string {data:=#[]}] 141)) (j.below b) i s;rw[l]at HC;have HF:=ZY (.slice a n c) M (w.alloc (.cells #[.int .i64 k,.slice a n c,.string {data:=#[]}] 141)) (f.below b);rw[q]at HF;have u:(w.alloc (.cells #[.int .i64 k,.slice a n c,.string {data:=#[]}] 141)).cell? ⟨w.heap.size,0,none⟩=some (.int .i64 k):=by simp
 have v:(w.alloc (.cells #[.int .i64 k,.slice a n c,.string {data:=#[]}] 141)).cell? ⟨w.heap.size,1,none⟩=some (.slice a n c):=by simp
 have x:(w.alloc (.cells #[.int .i64 k,.slice a n c,.string {data:=#[]}] 141)).cell? ⟨w.heap.size,2,none⟩=some (.string {data:=#[]}):=by simp
 have B:¬k=3:=m;clear j f t;go_enter Tryz.func205,Tryz.ntmps205
 go_wp2_with (first|(go_at_call 207;refine(HK _).mono ?_;rintro e y ⟨rfl,rfl⟩)|(go_at_call 220;refine HC.mono ?_;rintro e y ⟨rfl,rfl⟩)|(go_at_call 221;refine HF.mono ?_;rintro e U ⟨rfl,d⟩;have F:=(d.cell (p:=⟨w.heap.size,0,none⟩) g).trans u;have P:=(d.cell (p:=⟨w.heap.size,1,none⟩) g).trans v;have Q:=(d.cell (p:=⟨w.heap.size,2,none⟩) g).trans x;have r:=b.trans (d.mono b.size)));go_ret;exact⟨rfl,r⟩
theorem zcw(a:Option Addr)(n c:Nat)(d:ByteArray)(M:List Int)(w:World)(k:Cnts w)(g:IRow w (.slice a n c) M)(t:M.length=n)(r:d.size<=maxLen)(j:zw 3=true)(l:zW 3 n=true)(m:xA M=false)(F:20<d.size):
  Cl 205 #[.agg #[.int .i64 3,.slice a n c,.string d]] w (zN 4):=by
 unfold maxLen at r;have s:n<=9223372036854775807:=by obtain⟨_,_,_,h,_⟩:=g;omega
 have b:Below w.heap.size w (w.alloc (.cells #[.int .i64 3,.slice a n c,.string d] 141)):=(Below.refl _ w).alloc (Nat.le_refl _) _;have i:w.heap.size<(w.alloc (.cells #[.int .i64 3,.slice a n c,.string d] 141)).heap.size:=by simp
 have HK:=vC 3;rw[j]at HK;have HC:=yh 3 n (w.alloc (.cells #[.int .i64 3,.slice a n c,.string d] 141)) (k.below b) j s;rw[l]at HC;have HF:=ZY (.slice a n c) M (w.alloc (.cells #[.int .i64 3,.slice a n c,.string d] 141)) (g.below b);rw[m]at HF;have u:(w.alloc (.cells #[.int .i64 3,.slice a n c,.string d] 141)).cell? ⟨w.heap.size,0,none⟩=some (.int .i64 3):=by simp
 have v:(w.alloc (.cells #[.int .i64 3,.slice a n c,.string d] 141)).cell? ⟨w.heap.size,1,none⟩=some (.slice a n c):=by simp
 have x:(w.alloc (.cells #[.int .i64 3,.slice a n c,.string d] 141)).cell? ⟨w.heap.size,2,none⟩=some (.string d):=by simp
 have B:(20:Int)<(d.size:Int):=by omega
 clear k g t;go_enter Tryz.func205,Tryz.ntmps205
 go_wp2_with (first|(go_at_call 207;refine(HK _).mono ?_;rintro e y ⟨rfl,rfl⟩)|(go_at_call 220;refine HC.mono ?_;rintro e y ⟨rfl,rfl⟩)|(go_at_call 221;refine HF.mono ?_;rintro e V ⟨rfl,f⟩;have P:=(f.cell (p:=⟨w.heap.size,0,none⟩) i).trans u;have Q:=(f.cell (p:=⟨w.heap.size,1,none⟩) i).trans v;have U:=(f.cell (p:=⟨w.heap.size,2,none⟩) i).trans x;have q:=b.trans (f.mono b.size)));go_ret;exact⟨rfl,q⟩
theorem zcx(a:Option Addr)(n c:Nat)(d:ByteArray)(M:List Int)(w:World)(k:Cnts w)(g:IRow w (.slice a n c) M)(t:M.length=n)(r:d.size<=maxLen)(j:zw 3=true)(l:zW 3 n=true)(m:xA M=false)(F:d.size<=20):
  Cl 205 #[.agg #[.int .i64 3,.slice a n c,.string d]] w (zN 0):=by
 unfold maxLen at r;have s:n<=9223372036854775807:=by obtain⟨_,_,_,h,_⟩:=g;omega
 have b:Below w.heap.size w (w.alloc (.cells #[.int .i64 3,.slice a n c,.string d] 141)):=(Below.refl _ w).alloc (Nat.le_refl _) _;have i:w.heap.size<(w.alloc (.cells #[.int .i64 3,.slice a n c,.string d] 141)).heap.size:=by simp
 have HK:=vC 3;rw[j]at HK;have HC:=yh 3 n (w.alloc (.cells #[.int .i64 3,.slice a n c,.string d] 141)) (k.below b) j s;rw[l]at HC;have HF:=ZY (.slice a n c) M (w.alloc (.cells #[.int .i64 3,.slice a n c,.string d] 141)) (g.below b);rw[m]at HF;have u:(w.alloc (.cells #[.int .i64 3,.slice a n c,.string d] 141)).cell? ⟨w.heap.size,0,none⟩=some (.int .i64 3):=by simp
 have v:(w.alloc (.cells #[.int .i64 3,.slice a n c,.string d] 141)).cell? ⟨w.heap.size,1,none⟩=some (.slice a n c):=by simp
 have x:(w.alloc (.cells #[.int .i64 3,.slice a n c,.string d] 141)).cell? ⟨w.heap.size,2,none⟩=some (.string d):=by simp
 have B:¬(20:Int)<(d.size:Int):=by omega
 clear k g t;go_enter Tryz.func205,Tryz.ntmps205
 go_wp2_with (first|(go_at_call 207;refine(HK _).mono ?_;rintro e y ⟨rfl,rfl⟩)|(go_at_call 220;refine HC.mono ?_;rintro e y ⟨rfl,rfl⟩)|(go_at_call 221;refine HF.mono ?_;rintro e V ⟨rfl,f⟩;have P:=(f.cell (p:=⟨w.heap.size,0,none⟩) i).trans u;have Q:=(f.cell (p:=⟨w.heap.size,1,none⟩) i).trans v;have U:=(f.cell (p:=⟨w.heap.size,2,none⟩) i).trans x;have q:=b.trans (f.mono b.size)));go_ret;exact⟨rfl,q⟩
theorem zcy(k:Int)(a:Option Addr)(n c:Nat)(M:List Int)(w:World)(j:Cnts w)(f:IRow w (.slice a n c) M)(u:M.length=n)(i:zw k=true)(l:zW k n=true)(m:k≠3)(q:xA M=false)(r:k≠2):
  Cl 205 #[.agg #[.int .i64 k,.slice a n c,.string {data:=#[]}]] w (zN 0):=by
 skip
 have t:n<=9223372036854775807:=by obtain⟨_,_,_,h,_⟩:=f;omega
 have b:Below w.heap.size w (w.alloc (.cells #[.int .i64 k,.slice a n c,.string {data:=#[]}] 141)):=(Below.refl _ w).alloc (Nat.le_refl _) _;have g:w.heap.size<(w.alloc (.cells #[.int .i64 k,.slice a n c,.string {data:=#[]}] 141)).heap.size:=by simp
 have HK:=vC k;rw[i]at HK;have HC:=yh k n (w.alloc (.cells #[.int .i64 k,.slice a n c,.string {data:=#[]}] 141)) (j.below b) i t;rw[l]at HC;have HF:=ZY (.slice a n c) M (w.alloc (.cells #[.int .i64 k,.slice a n c,.string {data:=#[]}] 141)) (f.below b);rw[q]at HF;have v:(w.alloc (.cells #[.int .i64 k,.slice a n c,.string {data:=#[]}] 141)).cell? ⟨w.heap.size,0,none⟩=some (.int .i64 k):=by simp
 have x:(w.alloc (.cells #[.int .i64 k,.slice a n c,.string {data:=#[]}] 141)).cell? ⟨w.heap.size,1,none⟩=some (.slice a n c):=by simp
 have y:(w.alloc (.cells #[.int .i64 k,.slice a n c,.string {data:=#[]}] 141)).cell? ⟨w.heap.size,2,none⟩=some (.string {data:=#[]}):=by simp
 have P:¬k=3:=m;have F:¬k=2:=r;clear j f u;go_enter Tryz.func205,Tryz.ntmps205
 go_wp2_with (first|(go_at_call 207;refine(HK _).mono ?_;rintro e B ⟨rfl,rfl⟩)|(go_at_call 220;refine HC.mono ?_;rintro e B ⟨rfl,rfl⟩)|(go_at_call 221;refine HF.mono ?_;rintro e o ⟨rfl,d⟩;have Q:=(d.cell (p:=⟨w.heap.size,0,none⟩) g).trans v;have U:=(d.cell (p:=⟨w.heap.size,1,none⟩) g).trans x;have V:=(d.cell (p:=⟨w.heap.size,2,none⟩) g).trans y;have s:=b.trans (d.mono b.size)));go_ret;exact⟨rfl,s⟩
theorem zcz(a:Option Addr)(n c:Nat)(d:List Int)(w:World)(q:Cnts w)(k:IRow w (.slice a n c) d)(P:d.length=n)(F:zw 2=true)(A:zW 2 n=true)(C:xA d=false)(M:Nat)(D:n=2*M)(G:1<=M)(H:M<=12):
  Cl 205 #[.agg #[.int .i64 2,.slice a n c,.string {data:=#[]}]] w (if xC (zR d)≠0 then zN 3 else zN 0):=by
 skip
 have K:n<=9223372036854775807:=by obtain⟨_,_,_,h,_⟩:=k;omega
 have g:Below w.heap.size w (w.alloc (.cells #[.int .i64 2,.slice a n c,.string {data:=#[]}] 141)):=(Below.refl _ w).alloc (Nat.le_refl _) _;have i:w.heap.size<(w.alloc (.cells #[.int .i64 2,.slice a n c,.string {data:=#[]}] 141)).heap.size:=by simp
 have HK:=vC 2;rw[F]at HK;have HC:=yh 2 n (w.alloc (.cells #[.int .i64 2,.slice a n c,.string {data:=#[]}] 141)) (q.below g) F K;rw[A]at HC;have HF:=ZY (.slice a n c) d (w.alloc (.cells #[.int .i64 2,.slice a n c,.string {data:=#[]}] 141)) (k.below g);rw[C]at HF;have Q:(w.alloc (.cells #[.int .i64 2,.slice a n c,.string {data:=#[]}] 141)).cell? ⟨w.heap.size,0,none⟩=some (.int .i64 2):=by simp
 have U:(w.alloc (.cells #[.int .i64 2,.slice a n c,.string {data:=#[]}] 141)).cell? ⟨w.heap.size,1,none⟩=some (.slice a n c):=by simp
 have V:(w.alloc (.cells #[.int .i64 2,.slice a n c,.string {data:=#[]}] 141)).cell? ⟨w.heap.size,2,none⟩=some (.string {data:=#[]}):=by simp
 have B:=λW I=>dY (.slice a n c) d M W (k.below I) (by omega) G H;clear D;have HX0:=λW v (h:Row W v (zR d))=>ZF v (zR d) W h;generalize xC (zR d)=r at*;by_cases u:r=0
 .subst u;rw[if_neg (by simp)];rw[show zN 0=.nilIface from rfl]at HX0;clear q k P;go_enter Tryz.func205,Tryz.ntmps205
  go_wp2_with (first|(go_at_call 207;refine(HK _).mono ?_;rintro e y ⟨rfl,rfl⟩)|(go_at_call 220;refine HC.mono ?_;rintro e y ⟨rfl,rfl⟩)|(go_at_call 221;refine HF.mono ?_;rintro e S ⟨rfl,b⟩;have L:=(b.cell (p:=⟨w.heap.size,0,none⟩) i).trans Q;have N:=(b.cell (p:=⟨w.heap.size,1,none⟩) i).trans U;have O:=(b.cell (p:=⟨w.heap.size,2,none⟩) i).trans V;have f:=g.trans (b.mono g.size))|(go_at_call 223;refine(B _ f).mono ?_;rintro e T ⟨R,rfl,l,J,s⟩;have j:=f.trans (s.mono f.size);have HX:=HX0 _ _ l;obtain⟨o,z,x,_⟩:=id l;subst x)|(go_at_call 158;refine HX.mono ?_;rintro e X ⟨rfl,t⟩;have m:=j.trans (t.mono j.size)))
  go_ret;exact⟨rfl,m⟩
 rw [if_pos u];rw[show zN r=.iface 133 (.int .i64 r) by simp[zN,u]]at HX0;clear q k P;go_enter Tryz.func205,Tryz.ntmps205
 go_wp2_with (first|(go_at_call 207;refine(HK _).mono ?_;rintro e y ⟨rfl,rfl⟩)|(go_at_call 220;refine HC.mono ?_;rintro e y ⟨rfl,rfl⟩)|(go_at_call 221;refine HF.mono ?_;rintro e S ⟨rfl,b⟩;have L:=(b.cell (p:=⟨w.heap.size,0,none⟩) i).trans Q;have N:=(b.cell (p:=⟨w.heap.size,1,none⟩) i).trans U;have O:=(b.cell (p:=⟨w.heap.size,2,none⟩) i).trans V;have f:=g.trans (b.mono g.size))|(go_at_call 223;refine(B _ f).mono ?_;rintro e T ⟨R,rfl,l,J,s⟩;have j:=f.trans (s.mono f.size);have HX:=HX0 _ _ l;obtain⟨o,z,x,_⟩:=id l;subst x)|(go_at_call 158;refine HX.mono ?_;rintro e X ⟨rfl,t⟩;have m:=j.trans (t.mono j.size)))
 go_ret;exact⟨rfl,m⟩
theorem Yb(k:Int)(v:Value)(d:ByteArray)(a:List Int)(w:World)(f:Cnts w)(n:IRow w v a)(h:d.size<=maxLen):
  Cl 205 #[.agg #[.int .i64 k,v,.string d]] w (zN (qX k a d)):=by
 have hR':=n
 obtain⟨b,c,rfl,_⟩:=n
 unfold qX
 cases h1:zw k with
 |false=>rw[if_pos rfl];exact zcr k b _ c d a w f hR' rfl h h1
 |true=>
  rw[if_neg (by simp)]
  cases h2:zW k a.length with
  |false=>rw[if_pos rfl];exact zcs k b _ c d a w f hR' rfl h h1 h2
  |true=>
   rw[if_neg (by simp)];by_cases i:k=3;subst i;rw[if_neg (by simp)];cases g:xA a with
   |true=>rw[if_pos rfl];exact zcu b _ c d a w f hR' rfl h h1 h2 g
   |false=>
    rw[if_neg (by simp)];by_cases l:20<d.size;rw [if_pos l];exact zcw b _ c d a w f hR' rfl h h1 h2 g l;rw [if_neg l,if_neg (by simp)];exact zcx b _ c d a w f hR' rfl h h1 h2 g (by omega)
   by_cases h0:d.size=0;obtain rfl:=vS h0;rw[if_neg (by simp[h0])];cases g:xA a with
   |true=>rw[if_pos rfl];exact zcv k b _ c a w f hR' rfl h1 h2 i g
   |false=>
    rw[if_neg (by simp),if_neg (by rw[h0];omega)];by_cases m:k=2;subst m;obtain⟨M,p,q,r⟩:=ZX h2;refine(zcz b _ c a w f hR' rfl h1 h2 g M p q r).mono ?_;rintro e E ⟨rfl,s⟩;refine⟨?_,s⟩;by_cases j:xC (zR a)=0;rw [if_neg (by simp[j]),if_neg (by simp[j])];rw [if_pos j,if_pos ⟨rfl,j⟩];rw [if_neg (by simp[m])];exact zcy k b _ c a w f hR' rfl h1 h2 i g m
   rw [if_pos ⟨i,h0⟩];exact zct k b _ c d a w f hR' rfl h h1 h2 i h0
theorem za0(v:Value)(M:List Int)(w:World)(g:V.Forms w)(i:IRow w v M)(j:M.length<=40)(k:qp M):
  Cl 225 #[v] w (.tuple #[.string (strOfNums (M.flatMap V.nums)),.nilIface]):=by
 obtain⟨d,c,rfl,_,_,l⟩:=i;rcases l with h|⟨b,m,rfl,a,f⟩;subst h;exact V.zaz d c w;refine (V.WS b m M.length c M w g rfl j a f).mono ?_;rintro e E ⟨⟨_,rfl⟩|⟨ha,_⟩,a⟩;exact ⟨rfl,a⟩;rw [aQ k]at ha;cases ha
theorem pn_2(b:Option Addr)(n c M:Nat)(d:ByteArray)(a:List Int)(w:World)(h:V.Forms w)(i:IRow w (.slice b n c) a)(Q:a.length=n)(x:n=2*M)(y:1<=M)(B:M<=12)(l:Good (zR a))(m:zR a≠ []):
  Cl 206 #[.agg #[.int .i64 2,.slice b n c,.string d]] w (.tuple #[.string (strOfNums (enc (zR a))),.nilIface]):=by
 have f:Below w.heap.size w (w.alloc (.cells #[.int .i64 2,.slice b n c,.string d] 141)):=(Below.refl _ w).alloc (Nat.le_refl _) _;have p:=dY (.slice b n c) a M (w.alloc (.cells #[.int .i64 2,.slice b n c,.string d] 141)) (i.below f) (by omega) y B;have HP:=λW v (q:V.Forms W) (r:Row W v (zR a)) (s:Fits v)=>znp v (zR a) W q r s l m;have u:=h.below f;clear x Q i l m h;generalize strOfNums (enc (zR a))=A at*
 go_enter Tryz.func206,Tryz.ntmps206
 go_wp2_with (first|(go_at_call 223;refine p.mono ?_;rintro e D ⟨C,rfl,j,P,k⟩;have g:=f.trans (k.mono f.size);have HX:=HP _ _ (u.below k) j P;obtain⟨o,z,U,_⟩:=id j;subst U)|(go_at_call 224;refine HX.mono ?_;rintro e G ⟨rfl,F⟩;have t:=g.trans (F.mono g.size)));go_ret2
 exact⟨rfl,t⟩
theorem pn_3(b a c:Nat)(z:Int)(d:ByteArray)(w:World)(j:V.Forms w)(i:b<w.heap.size)(m:w.cell? ⟨b,a,none⟩=some (.int .i64 z))(P:0<=z/\z<1073741824)(F:d.size<=20):
  Cl 206 #[.agg #[.int .i64 3,.slice (some ⟨b,a,none⟩) 1 c,.string d]] w (.tuple #[.string (strOfNums (([z]++[(d.size:Int)]).flatMap V.nums)),.nilIface]):=by
 have bel:Below w.heap.size w (w.alloc (.cells #[.int .i64 3,.slice (some ⟨b,a,none⟩) 1 c,.string d] 141)):=(Below.refl _ w).alloc (Nat.le_refl _) _;have hlt:w.heap.size<(w.alloc (.cells #[.int .i64 3,.slice (some ⟨b,a,none⟩) 1 c,.string d] 141)).heap.size:=by simp
 have p1:(w.alloc (.cells #[.int .i64 3,.slice (some ⟨b,a,none⟩) 1 c,.string d] 141)).cell? ⟨w.heap.size,1,none⟩=some (.slice (some ⟨b,a,none⟩) 1 c):=by simp
 have p2:(w.alloc (.cells #[.int .i64 3,.slice (some ⟨b,a,none⟩) 1 c,.string d] 141)).cell? ⟨w.heap.size,2,none⟩=some (.string d):=by simp
 have p0:(w.alloc (.cells #[.int .i64 3,.slice (some ⟨b,a,none⟩) 1 c,.string d] 141)).cell? ⟨w.heap.size,0,none⟩=some (.int .i64 3):=by simp
 have pc:=(bel.cell (p:=⟨b,a,none⟩) i).trans m;have k:=j.below bel;have hb1:b<(w.alloc (.cells #[.int .i64 3,.slice (some ⟨b,a,none⟩) 1 c,.string d] 141)).heap.size:=by simp;omega
 have HA:∀W:World,V.Forms W->Calls Tryz.prog 225 #[.slice (some ⟨W.heap.size,0,none⟩) 2 2] (W.alloc (.cells #[.int .i64 z,.int .i64 (d.size:Int)] 3)) λe E=>e=.returned (.tuple #[.string (strOfNums (([z]++[(d.size:Int)]).flatMap V.nums)),.nilIface])/\Below W.heap.size W E:=by
  intro W v;have h:Below W.heap.size W (W.alloc (.cells #[.int .i64 z,.int .i64 (d.size:Int)] 3)):=(Below.refl _ W).alloc (Nat.le_refl _) _;have B:OwnI (W.alloc (.cells #[.int .i64 z,.int .i64 (d.size:Int)] 3)) W.heap.size (.slice (some ⟨W.heap.size,0,none⟩) 2 2) [z,(d.size:Int)]:=World.ownsRow_lit (base:=W.heap.size) (e:=3) (size:=1) W #[.int .i64 z,.int .i64 (d.size:Int)] 2 (Nat.le_refl _) (by decide) rfl
  refine(J3 _ _ _ _ (v.below h) B (by simp) (by simp) (λy hy=>by simp at hy;rcases hy with rfl|rfl<;>omega)).mono ?_;rintro e E ⟨rfl,i⟩;exact⟨rfl,h.trans (i.mono h.size)⟩
 have S0:Hid (V.Forms (w.alloc (.cells #[.int .i64 3,.slice (some ⟨b,a,none⟩) 1 c,.string d] 141))):=k;clear j m k;generalize strOfNums (([z]++[(d.size:Int)]).flatMap V.nums)=A at*;go_enter Tryz.func206,Tryz.ntmps206
 go_wp2_with fail;generalize w.alloc (.cells #[.int .i64 3,.slice (some ⟨b,a,none⟩) 1 c,.string d] 141)=f at*;have q:Hid (V.Forms f.drew):=S0.out.below (Below.refl _ f).drew;have l:Below w.heap.size w f.drew:=bel.drew;have n:w.heap.size<f.drew.heap.size:=hlt;have x:b<f.drew.heap.size:=hb1;have r:f.drew.cell? ⟨w.heap.size,1,none⟩=some (.slice (some ⟨b,a,none⟩) 1 c):=p1;have s:f.drew.cell? ⟨w.heap.size,2,none⟩=some (.string d):=p2
 have t:f.drew.cell? ⟨b,a,none⟩=some (.int .i64 z):=pc;clear p0 S0;go_region_held3 (λX=>X.cell? ⟨w.heap.size,1,none⟩=some (.slice (some ⟨b,a,none⟩) 1 c)/\X.cell? ⟨w.heap.size,2,none⟩=some (.string d)/\X.cell? ⟨b,a,none⟩=some (.int .i64 z)) (go_keep) (first|(go_at_call 225;refine(HA _ q.out).mono ?_;rintro e C ⟨rfl,g⟩;have Q:=(g.cell (p:=⟨w.heap.size,1,none⟩) n).trans r;have U:=(g.cell (p:=⟨w.heap.size,2,none⟩) n).trans s;have o:=(g.cell (p:=⟨b,a,none⟩) x).trans t;have u:=l.trans (g.mono l.size)))
 go_wp2_with fail;go_ret2
 exact⟨rfl,u⟩
theorem gQ:strOfNums []={data:=#[]}:=rfl
theorem pn_o(k:Int)(a:Option Addr)(n c:Nat)(d:ByteArray)(M:List Int)(w:World)(f:V.Forms w)(g:IRow w (.slice a n c) M)(i:M.length<=40)(h:qp M)(j:k≠2)(l:k≠3):
  Cl 206 #[.agg #[.int .i64 k,.slice a n c,.string d]] w (.tuple #[.string (strOfNums (M.flatMap V.nums)),.nilIface]):=by
 have b:Below w.heap.size w (w.alloc (.cells #[.int .i64 k,.slice a n c,.string d] 141)):=(Below.refl _ w).alloc (Nat.le_refl _) _;have HA:=za0 (.slice a n c) M (w.alloc (.cells #[.int .i64 k,.slice a n c,.string d] 141)) (f.below b) (g.below b) i h;have q:¬k=2:=j;have r:¬k=3:=l;clear f g i h;generalize strOfNums (M.flatMap V.nums)=s at*;go_enter Tryz.func206,Tryz.ntmps206
 go_wp2_with (first|(go_at_call 225;refine HA.mono ?_;rintro e t ⟨rfl,p⟩;have m:=b.trans (p.mono b.size)));go_ret2
 exact⟨rfl,m⟩
theorem zno(k:Int)(v:Value)(d:ByteArray)(a:List Int)(w:World)(j:V.Forms w)(p:IRow w v a)(h:qX k a d=0):
  Cl 206 #[.agg #[.int .i64 k,v,.string d]] w (.tuple #[.string (strOfNums (mid k a d)),.nilIface]):=by
 obtain⟨P,h2,Q,g,t,h6⟩:=kV h;have q:=p;obtain⟨m,c,rfl,U,r,l⟩:=p;by_cases f:k=2;subst f;obtain⟨M,n,x,y⟩:=ZX h2;rw[show mid 2 a d=enc (zR a) by simp[mid]];exact pn_2 m _ c M d a w j q rfl n x y (h6 rfl) (λe=>by have:=ZQ M a n;rw[e]at this;simp at this;omega);by_cases i:k=3;subst i;have s:a.length=1:=by simpa[zW,zk]using h2
 match a,s,l,g,r with
 |[z],_,l,g,r=>
  rcases l with e|⟨b,F,rfl,B,u⟩;cases e;rw [show mid 3 [z] d=([z]++[(d.size:Int)]).flatMap V.nums by simp[mid]];have:=u 0 (by simp);exact pn_3 b F c z d w j B (by simpa using this) (g z (by simp)) t
 rw [show mid k a d=a.flatMap V.nums by simp[mid,f,i]];have s:a.length<=2:=by
  have:a.length=zk k:=by simpa[zW,f]using h2
  rw[this];unfold zk;split;.omega
  split<;>omega
 exact pn_o k m _ c d a w j q (by omega) g f i
variable {k:Int}{d:ByteArray}
theorem aT{a:List Int}(h:qX k a d=0):(strOfNums (mid k a d)).size<=100:=by
 obtain⟨g,h2,i,j,l,h6⟩:=kV h;rw[strOfNums_size];unfold mid;split;rename_i b;subst b;obtain⟨M,c,m,n⟩:=ZX h2;have f:zR a≠ []:=λe=>by have:=ZQ M a c;rw[e]at this;simp at this;omega
 have:=Jo (h6 rfl) f;have:=ZQ M a c;omega;rename_i b;have p:a.length<=2:=by
  have:a.length=zk k:=by simpa[zW,b]using h2
  rw[this];unfold zk;split;.omega
  split<;>omega
 split;have:=yc (a++[(d.size:Int)]);rw[List.length_append]at this;simp at this |-;omega;have:=yc a;omega
theorem zgj(k:Int)(v:Value)(d:ByteArray)(M:List Int)(w:World)(a:Cnts w)(g:IRow w v M)(i:d.size<=maxLen)(h:qX k M d≠0):
  Cl 177 #[.agg #[.int .i64 k,v,.string d]] w (.tuple #[.string {data:=#[]},zN (qX k M d)]):=by
 have bel:Below w.heap.size w (w.alloc (.cells #[.int .i64 k,v,.string d] 141)):=(Below.refl _ w).alloc (Nat.le_refl _) _;have HC:=Yb k v d M _ (a.below bel) (g.below bel) i;have b:zN (qX k M d)=.iface 133 (.int .i64 (qX k M d)):=by simp[zN,h]
 rw[b]at HC |-;obtain⟨m,c,rfl,_⟩:=g;clear a i h b;generalize qX k M d=f at*;generalize M.length=n at*;go_enter Tryz.func177,Tryz.ntmps177
 go_wp2_with (first|(go_at_call 205;refine HC.mono ?_;rintro e p ⟨rfl,l⟩;have j:=bel.trans (l.mono bel.size)));go_ret2
 exact⟨rfl,j⟩
theorem zgk(k:Int)(v:Value)(d:ByteArray)(M:List Int)(w:World)(q:Cnts w)(r:V.Forms w)(g:IRow w v M)(h:qX k M d=0):
  Cl 177 #[.agg #[.int .i64 k,v,.string d]] w (.tuple #[.string (jB k M d),.nilIface]):=by
 have z:=(wF k).1 (kV h).1;have U:=(kV h).2.2.2.2.1;have bel:Below w.heap.size w (w.alloc (.cells #[.int .i64 k,v,.string d] 141)):=(Below.refl _ w).alloc (Nat.le_refl _) _;have hlt:w.heap.size<(w.alloc (.cells #[.int .i64 k,v,.string d] 141)).heap.size:=by simp
 have p0:(w.alloc (.cells #[.int .i64 k,v,.string d] 141)).cell? ⟨w.heap.size,0,none⟩=some (.int .i64 k):=by simp
 have p1:(w.alloc (.cells #[.int .i64 k,v,.string d] 141)).cell? ⟨w.heap.size,1,none⟩=some v:=by simp
 have p2:(w.alloc (.cells #[.int .i64 k,v,.string d] 141)).cell? ⟨w.heap.size,2,none⟩=some (.string d):=by simp
 have HC:=Yb k v d M _ (q.below bel) (g.below bel) (by unfold maxLen;omega);rw[h,show zN 0=.nilIface from rfl]at HC;have HP:=λW (s:Below w.heap.size w W)=>zno k v d M W (r.below s) (g.below s) h;have A:=aT h;have t:=λW=>V.vv [k] W #[.int .u8 k] rfl;simp only[List.length_cons,List.length_nil,Nat.reduceAdd]at t;have HS:Hid (strOfNums [k]++strOfNums (mid k M d)++d=jB k M d):=rfl;have G:(strOfNums [k]).size=1:=by rw[strOfNums_size];rfl
 obtain⟨Q,c,rfl,_⟩:=g;clear q h r;generalize strOfNums (mid k M d)=l at*;generalize x:strOfNums [k]=j at*;generalize jB k M d=H at*;generalize M.length=n at*;clear x;have I:j.size+l.size<=9223372036854775807:=by omega
 have J:(j++l).size<=101:=by rw[ByteArray.size_append];omega
 have K:(j++l).size+d.size<=9223372036854775807:=by omega
 go_enter Tryz.func177,Tryz.ntmps177
 go_wp2_with (first|(go_at_call 205;refine HC.mono ?_;rintro e L ⟨rfl,a⟩;have f:=bel.trans (a.mono bel.size);have y:=(a.cell (p:=⟨w.heap.size,0,none⟩) hlt).trans p0;have C:=(a.cell (p:=⟨w.heap.size,1,none⟩) hlt).trans p1;have B:=(a.cell (p:=⟨w.heap.size,2,none⟩) hlt).trans p2;have i:=Nat.lt_of_lt_of_le hlt a.size)|(go_at_call 206;refine(HP _ f).mono ?_;rintro e P ⟨rfl,b⟩;have m:=f.trans (b.mono f.size);have D:=(b.cell (p:=⟨w.heap.size,0,none⟩) i).trans y;have F:=(b.cell (p:=⟨w.heap.size,2,none⟩) i).trans B;have u:=Nat.lt_of_lt_of_le i b.size;have N:=λo=>(World.cell?_alloc_lt P o ⟨w.heap.size,2,none⟩ u).trans F))
 go_ret2
 exact⟨by rw[HS.out];rfl,m.alloc m.size _⟩
theorem Jp(s:ByteArray)(A B:Nat)(a:A<=s.size)(b:A+B<=s.size):(s.extract A s.size).extract B (s.extract A s.size).size=s.extract (A+B) s.size:=by
 apply jq;have c:(s.extract A s.size).size=s.size-A:=by rw[ByteArray.size_extract];omega
 rw[qY _ B (by omega),qY s A a,qY s (A+B) b,List.drop_drop]
theorem zf5(s:ByteArray):s.extract 0 s.size=s:=by
 apply jq;rw[qY s 0 (Nat.zero_le _)];rfl
variable {l:List Int}
theorem vW(f:Bytes l){g c:Int}(h:V.zL l=some (g,c)):∃n:Nat,c=(n:Int)/\n<=4/\n<=l.length/\0<=g/\g<1073741824:=by
 obtain⟨a,i,d⟩:=QS f h;have b:=V.Xa g;have m:=(xG g).1 a;have e:=congrArg List.length d;rw[List.length_append,List.length_drop]at e;have:=Zh g;exact⟨c.toNat,by omega,by omega,by omega,m.1,m.2⟩
abbrev yL:Ending:=.returned (.tuple #[.slice none 0 0,.string {data:=#[]},xS])
theorem vK(s:ByteArray)(a:Nat)(w:World)(D:V.Forms w)(B:s.size<=maxLen)(hm:a<=100):
  Calls Tryz.prog 227 #[.string s,.int .i64 (a:Int)] w λe E=>((tk a (V.ints s)=none/\e=yL)\/(∃M c v,tk a (V.ints s)=some (M,c)/\e=.returned (.tuple #[v,.string (s.extract c s.size),.nilIface])/\OwnI E w.heap.size v M))/\Below w.heap.size w E:=by
 unfold maxLen at B;simp only[yL,xS];go_enter Tryz.func227,Tryz.ntmps227
 go_wp2_with fail;go_loopw [0,7,12] (λu v i wr=>∃(t:ByteArray) (A k:Nat) (M:List Int),u=.string t/\i=.int .i64 (k:Int)/\k<=a/\OwnI wr w.heap.size v M/\M.length=k/\t.size<=9223372036854775807/\A<=s.size/\Hid (t=s.extract A s.size)/\Hid (tk a (V.ints s)=jg (a-k) M A (V.ints s))/\Below w.heap.size w wr) (λ_ _ i _=>a-(intOf i).toNat)
 case atStart=>exact⟨s,0,0,[],rfl,rfl,Nat.zero_le _,World.ownsRow_nil _ _ _ _,rfl,B,Nat.zero_le _,(zf5 s).symm,(show tk a (V.ints s)=jg (a-0) [] 0 (V.ints s) by rw[Vw];rfl),Below.refl _ _⟩
 case round=>
  obtain⟨t,A,k,M,rfl,rfl,hk,hown,r,O,y,l,hE,d⟩:=hrel;have h:V.ints t=(V.ints s).drop A:=by rw[l.out,qY s A y]
  obtain⟨o,z,rfl⟩:=hown.shape;by_cases a1:k<a
  .have W:(k:Int)<(a:Int):=by omega
   have HG:=V.Z0 t wr (D.below d) (by unfold maxLen;exact O)
   have q:a-k=(a-(k+1))+1:=by omega
   cases hg:V.zL (V.ints t)with
   |none=>
    rw[hg]at HG;have f:Hid (tk a (V.ints s)=none):=by show _=_;rw[hE.out,q];exact Vu (by rw[<-h];exact hg)
    clear hE hg h r q;simp only[V.yH]at HG;go_wp2_with fail;refine HG.mono ?_;rintro e x ⟨rfl,g⟩;have m:=d.trans (g.mono d.size);go_wp2_with fail;go_ret3
    exact⟨.inl ⟨f.out,rfl⟩,m⟩
   |some p=>
    obtain⟨n,c⟩:=p;rw[hg]at HG;obtain⟨b,rfl,Y,G,Z,a0⟩:=vW (zu t) hg;rw[zg]at G;have N:t.size=s.size-A:=by rw[l.out,ByteArray.size_extract];omega
    have f:Hid (tk a (V.ints s)=jg (a-(k+1)) (M++[n]) (A+b) (V.ints s)):=by
     show _=_;rw[hE.out,q,Vv (by rw[<-h];exact hg)];rfl
    have U:Hid (t.extract b t.size=s.extract (A+b) s.size):=by
     show _=_;rw[l.out];exact Jp s A b y (by omega)
    have F:Hid (A+b<=s.size):=by show _<=_;omega
    have X:(b:Int)<=(t.size:Int):=by omega
    have R:(t.extract b t.size).size<=9223372036854775807:=by rw[ByteArray.size_extract];omega
    have J:M.length+1<=100:=by omega
    have P:Hid (M.length=k):=r;clear hE hg h q N r;simp only[V.yH]at HG;go_wp2_with fail;refine HG.mono ?_;rintro e x ⟨rfl,g⟩;have m:=d.trans (g.mono d.size);have L:=m.size;have S:=(hown.below g).alloc (.cells #[.int .i64 n] 3);have I:=(hown.below g).lt;clear HG;go_wp2_with (at_builtin;refine yz rfl (.tmp 23) (.tmp 25) rfl w.heap.size _ M rfl S ⟨x.heap.size,0,none⟩ 1 1 [n] rfl rfl (cells_one x n) (by simp at J |-;omega) (by simp;omega) ?_;intro v2 T K H)
    have C:Below w.heap.size w T:=(m.alloc L _).grown H (by simp;omega) (λj e=>(I j e).1);exact⟨⟨_,A+b,k+1,M++[n],rfl,by go_num,by omega,K,by simp[P.out],R,F.out,U,f,C⟩,by simp[intOf];omega⟩
  obtain rfl:k=a:=by omega
  have f:Hid (tk k (V.ints s)=some (M,A)):=by show _=_;rw[hE.out,Nat.sub_self,Vx]
  have Q:Hid (OwnI wr w.heap.size (.slice o M.length z) M):=hown;clear hE h hown;go_wp2_with fail;go_ret3
  exact⟨.inr ⟨M,A,_,f.out,by rw[<-l.out];rfl,Q.out⟩,d⟩
theorem je(s:ByteArray)(a:Nat)(h:a<=s.size)(c:s.size<=9223372036854775807)(w:World):(Instr.slice 9 (.string s) (some (.int .i64 (a:Int))) none none).run Tryz.prog w=.ok (.string (s.extract a s.size)) w:=by
 have b:(a:Int)<=(s.size:Int):=by omega
 have e:=Tryz.underlying9;go_simp
theorem fM(s:ByteArray)(b:Nat)(h:b<=s.size)(c:s.size<=9223372036854775807)(w:World):(Instr.slice 9 (.string s) none (some (.int .i64 (b:Int))) none).run Tryz.prog w=.ok (.string (s.extract 0 b)) w:=by
 have a:(b:Int)<=(s.size:Int):=by omega
 have e:=Tryz.underlying9;go_simp
theorem Vb(s:ByteArray)(a b:Nat)(f:a<=b)(h:b<=s.size)(g:s.size<=9223372036854775807)(w:World):(Instr.slice 9 (.string s) (some (.int .i64 (a:Int))) (some (.int .i64 (b:Int))) none).run Tryz.prog w=.ok (.string (s.extract a b)) w:=by
 have c:(b:Int)<=(s.size:Int):=by omega
 have d:(a:Int)<=(b:Int):=by omega
 have e:=Tryz.underlying9;go_simp
theorem zf7(s:ByteArray)(A q:Nat)(a:A<=s.size)(b:A+q<=s.size):(s.extract A s.size).extract 0 q=s.extract A (A+q):=by
 apply jq;rw[kX,qY s A a,kX];simp
abbrev yj:Ending:=.returned (.tuple #[.string {data:=#[]},.string {data:=#[]},xS])
theorem zmy(s:ByteArray)(w:World)(a:V.Forms w)(b:s.size<=maxLen)(h:V.zL (V.ints s)=none):Calls Tryz.prog 209 #[.string s] w λe E=>e=yj/\Below w.heap.size w E:=by
 have HG:=V.Z0 s w a b;rw[h]at HG;simp only[V.yH]at HG;simp only[yj,xS];clear h a b;go_enter Tryz.func209,Tryz.ntmps209
 go_wp2_with (first|(go_at_call 228;refine HG.mono ?_;rintro e d ⟨rfl,c⟩));go_ret3
 exact⟨rfl,c⟩
theorem zmz(s:ByteArray)(w:World)(b:V.Forms w)(a:s.size<=maxLen)(n:Int)(c:Nat)(h:V.zL (V.ints s)=some (n,(c:Int)))(d:c<=s.size)(i:20<n):Calls Tryz.prog 209 #[.string s] w λe E=>e=yj/\Below w.heap.size w E:=by
 have HG:=V.Z0 s w b a;unfold maxLen at a;have g:=je s c d a;rw[h]at HG;simp only[V.yH]at HG;simp only[yj,xS];generalize s.extract c s.size=t at g;clear h b a d;go_enter Tryz.func209,Tryz.ntmps209
 go_wp2_with (first|(go_at_call 228;refine HG.mono ?_;rintro e j ⟨rfl,f⟩));go_ret3
 exact⟨rfl,f⟩
theorem zm3(s:ByteArray)(w:World)(b:V.Forms w)(a:s.size<=maxLen)(n:Int)(c:Nat)(h:V.zL (V.ints s)=some (n,(c:Int)))(d:c<=s.size)(f:n<=20)(i:(s.size:Int)<c+n):Calls Tryz.prog 209 #[.string s] w λe E=>e=yj/\Below w.heap.size w E:=by
 have HG:=V.Z0 s w b a;unfold maxLen at a;have j:=je s c d a;rw[h]at HG;simp only[V.yH]at HG;simp only[yj,xS];have ht:(s.extract c s.size).size=s.size-c:=by rw[ByteArray.size_extract];omega
 generalize s.extract c s.size=t at j ht;have k:(t.size:Int)<n:=by omega
 have l:¬20<n:=by omega
 have m:t.size<=9223372036854775807:=by omega
 clear h b a d ht i f;go_enter Tryz.func209,Tryz.ntmps209
 go_wp2_with (first|(go_at_call 228;refine HG.mono ?_;rintro e p ⟨rfl,g⟩));go_ret3
 exact⟨rfl,g⟩
theorem zm0(s:ByteArray)(w:World)(d:V.Forms w)(a:s.size<=maxLen)(q c:Nat)(h:V.zL (V.ints s)=some ((q:Int),(c:Int)))(b:c+q<=s.size)(i:q<=20):Cl 209 #[.string s] w (.tuple #[.string (s.extract c (c+q)),.string (s.extract (c+q) s.size),.nilIface]):=by
 have HG:=V.Z0 s w d a;unfold maxLen at a;have u:=je s c (by omega) a;rw[h]at HG;simp only[V.yH]at HG;have ht:(s.extract c s.size).size=s.size-c:=by rw[ByteArray.size_extract];omega
 have e1:=zf7 s c q (by omega) b;have e2:=Jp s c q (by omega) b;generalize s.extract c s.size=t at*;have k:=fM t q (by omega) (by omega);have l:=je t q (by omega) (by omega);rw[e1]at k;rw[e2]at l;have z1:(s.extract c (c+q)).size<=20:=by rw[ByteArray.size_extract];omega
 generalize s.extract c (c+q)=m at*;generalize s.extract (c+q) s.size=v at*;have p:¬(t.size:Int)<(q:Int):=by omega
 have r:¬(20:Int)<(q:Int):=by omega
 have x:t.size<=9223372036854775807:=by omega
 have g:=λW=>Jb m W z1;clear h d a b ht e1 e2 z1 i;go_enter Tryz.func209,Tryz.ntmps209
 go_wp2_with (first|(go_at_call 228;refine HG.mono ?_;rintro e n ⟨rfl,f⟩));go_region_with (first|(go_at_call 123;refine(g _).mono ?_;rintro e y ⟨rfl,j⟩))
 go_wp2_with fail;go_ret3
 exact⟨rfl,f.trans ((Below.refl _ n).drew.trans (j.mono (Nat.le_refl _)) |>.mono f.size)⟩
theorem zm2(s:ByteArray)(w:World)(b:V.Forms w)(d:s.size<=maxLen)(h:jM (V.ints s)=none):Calls Tryz.prog 209 #[.string s] w λe E=>e=yj/\Below w.heap.size w E:=by
 unfold jM at h
 cases hg:V.zL (V.ints s)with
 |none=>exact zmy s w b d hg
 |some x=>
  obtain⟨n,c⟩:=x;obtain⟨a,rfl,i,hcl,j,k⟩:=vW (zu s) hg;rw[zg]at hcl;rw[hg]at h;simp only[zg]at h;by_cases f:20<n;exact zmz s w b d n a hg hcl f;by_cases g:(s.size:Int)<a+n;exact zm3 s w b d n a hg hcl (by omega) g;rw [if_neg (by omega)]at h;cases h
theorem zm4(s:ByteArray)(w:World)(b:V.Forms w)(d:s.size<=maxLen)(q c:Nat)(h:jM (V.ints s)=some (q,c)):Cl 209 #[.string s] w (.tuple #[.string (s.extract c (c+q)),.string (s.extract (c+q) s.size),.nilIface]):=by
 unfold jM at h
 cases hg:V.zL (V.ints s)with
 |none=>rw[hg]at h;cases h
 |some x=>
  obtain⟨n,f⟩:=x;obtain⟨a,rfl,g,i,j,k⟩:=vW (zu s) hg;rw[hg]at h;simp only[zg]at h;split at h;cases h;rename_i l;simp only[Option.some.injEq,Prod.mk.injEq]at h;obtain⟨rfl,rfl⟩:=h;refine zm0 s w b d n.toNat (a:Int).toNat ?_ (by omega) (by omega);rw[hg,Int.toNat_natCast,show((n.toNat:Nat):Int)=n by omega]
theorem zom(h:tk 3 l=none):zt l=none:=by simp[zt,h]
variable {a m:Int}{c:Nat}
theorem zon{d:Int}(h:tk 3 l=some ([a,m,d],c))(b:12<=m):zt l=none:=by simp[zt,h,b]
theorem zoo{d:Int}(h:tk 3 l=some ([a,m,d],c))(e:¬12<=m)(b:tk (2*m.toNat) (l.drop c)=none):zt l=none:=by simp[zt,h,e,b]
theorem zop{f:List Int}{d:Int}{e:Nat}(g:Bytes l)(h:tk 3 l=some ([a,m,d],c))(p:¬12<=m)(j:tk (2*m.toNat) (l.drop c)=some (f,e)):zt l=(parse (l.take (c+e))).map λJ=>(J,c+e):=by
 obtain⟨s,i2,t,u⟩:=yU 3 l _ c g h;obtain⟨v,r,w,x⟩:=yU _ _ _ _ (ji g _) j;have y:=(i2 m (by simp)).1;have q:qp (a::m::d::f):=by
  intro z b;rcases List.mem_cons.1 b with rfl|b;exact i2 _ (by simp);rcases List.mem_cons.1 b with rfl|b;exact i2 _ (by simp);rcases List.mem_cons.1 b with rfl|b;exact i2 _ (by simp);exact r z b
 have k:l.take (c+e)=(a::m::d::f).flatMap V.nums:=by
  rw[List.take_add,Qh g h,Qh (ji g _) j];simp only[List.flatMap_cons,List.flatMap_nil,List.append_nil,List.append_assoc]
 have n:parse (l.take (c+e))=kH (a::m::d::f):=by
  unfold parse;rw[k,eT _ 25 q (by simp;omega)];rfl
 rw[n];simp only[zt,h,Option.bind_some,kH];rw[if_neg p,j];simp only[Option.bind_some];by_cases i:0<=jV (a-d) f;rw [if_pos i,if_pos ⟨by omega,i⟩];rfl;rw [if_neg i,if_neg (by rintro⟨_,h⟩;exact i h)];rfl
theorem Qf(s:ByteArray)(a:Nat)(w:World)(b:V.Forms w)(g:s.size<=maxLen)(i:a<=100)(h:tk a (V.ints s)=none):
  Calls Tryz.prog 227 #[.string s,.int .i64 (a:Int)] w λe E=>e=yL/\Below w.heap.size w E:=by
 refine(vK s a w b g i).mono ?_;rintro e E ⟨⟨_,f⟩|⟨M,c,v,h1,_⟩,d⟩;exact ⟨f,d⟩;rw [h]at h1;cases h1
theorem JL(s:ByteArray)(a:Nat)(w:World)(b:V.Forms w)(g:s.size<=maxLen)(i:a<=100)(M:List Int)(c:Nat)(h:tk a (V.ints s)=some (M,c)):
  Calls Tryz.prog 227 #[.string s,.int .i64 (a:Int)] w λe E=>∃v,e=.returned (.tuple #[v,.string (s.extract c s.size),.nilIface])/\OwnI E w.heap.size v M/\Below w.heap.size w E:=by
 refine(vK s a w b g i).mono ?_;rintro e E ⟨⟨h1,_⟩|⟨l,k,v,h1,f,j⟩,d⟩;rw [h]at h1;cases h1;rw [h]at h1;cases h1;exact⟨v,f,j,d⟩
abbrev Zw(s:ByteArray)(w:World)(e:Ending)(E:World):Prop:=
 ((zt (V.ints s)=none/\e=yL)\/(∃J c v,zt (V.ints s)=some (J,c)/\e=.returned (.tuple #[v,.string (s.extract c s.size),.nilIface])/\OwnI E w.heap.size v (zK J)))/\Below w.heap.size w E
theorem zae(s:ByteArray)(w:World)(b:V.Forms w)(c:s.size<=maxLen)(h:tk 3 (V.ints s)=none):Calls Tryz.prog 226 #[.string s] w (Zw s w):=by
 have a:=Qf s 3 w b c (by decide) h;have d:Hid (zt (V.ints s)=none):=zom h;simp only[yL,xS]at a;clear h b c;go_enter Tryz.func226,Tryz.ntmps226
 go_wp2_with (first|(go_at_call 227;refine a.mono ?_;rintro e g ⟨rfl,f⟩));go_ret3
 exact⟨.inl ⟨d.out,rfl⟩,f⟩
theorem zaf(s:ByteArray)(w:World)(b:V.Forms w)(f:s.size<=maxLen)(a m d:Int)(c:Nat)(h:tk 3 (V.ints s)=some ([a,m,d],c))(l:12<=m):Calls Tryz.prog 226 #[.string s] w (Zw s w):=by
 have H3:=JL s 3 w b f (by decide) _ _ h;have i:Hid (zt (V.ints s)=none):=zon h l;generalize s.extract c s.size=r at H3;clear h b f;go_enter Tryz.func226,Tryz.ntmps226
 go_wp2_with (first|(go_at_call 227;refine H3.mono ?_;rintro e t ⟨v,rfl,ho,j⟩;obtain⟨g,p,rfl,k,_,q⟩:=ho.form (by simp);have n:=ho.cell 1 (by simp);simp only[List.getElem?_cons_succ,List.getElem?_cons_zero,Option.getD_some,List.length_cons,List.length_nil,Nat.reduceAdd]at n k |-));go_ret3
 exact⟨.inl ⟨i.out,rfl⟩,j⟩
theorem zah(s:ByteArray)(w:World)(f:V.Forms w)(j:s.size<=maxLen)(a d:Int)(m c:Nat)(h:tk 3 (V.ints s)=some ([a,(m:Int),d],c))(P:m<12)(k:c<=s.size)(b:tk (2*m) ((V.ints s).drop c)=none):Calls Tryz.prog 226 #[.string s] w (Zw s w):=by
 have H3:=JL s 3 w f j (by decide) _ _ h;have l:Hid (zt (V.ints s)=none):=zoo h (by omega) (by rw[Int.toNat_natCast];exact b);have hd:=qY s c k;unfold maxLen at j;have hr:(s.extract c s.size).size<=maxLen:=by unfold maxLen;rw[ByteArray.size_extract];omega
 generalize s.extract c s.size=x at*;have H4:=λW (q:V.Forms W)=>Qf x (2*m) W q hr (by omega) (by rw[hd];exact b);rw[show((2*m:Nat):Int)=2*(m:Int) by omega]at H4;simp only[yL,xS]at H4;have B:¬(12:Int)<=(m:Int):=by omega
 have n:=zC f;clear h f j b hd k hr;go_enter Tryz.func226,Tryz.ntmps226
 go_wp2_with fail;refine H3.mono ?_;rintro e Q ⟨v,rfl,ho,i⟩;obtain⟨g,y,rfl,t,_,F⟩:=ho.form (by simp);have u:=ho.cell 1 (by simp);simp only[List.getElem?_cons_succ,List.getElem?_cons_zero,Option.getD_some,List.length_cons,List.length_nil,Nat.reduceAdd]at u t |-;have p:=H4 _ (n.out.below i);go_wp2_with (first|(go_at_call 227;refine p.mono ?_;rintro e U ⟨rfl,r⟩));go_ret3
 exact⟨.inl ⟨l.out,rfl⟩,i.trans (r.mono i.size)⟩
theorem zai(s:ByteArray)(w:World)(t:V.Forms w)(B:s.size<=maxLen)(a d:Int)(m c f:Nat)(O:List Int)(h:tk 3 (V.ints s)=some ([a,(m:Int),d],c))(hm:m<12)(y:c<=s.size)(q:tk (2*m) ((V.ints s).drop c)=some (O,f))(hc2:c+f<=s.size):Calls Tryz.prog 226 #[.string s] w (Zw s w):=by
 have H3:=JL s 3 w t B (by decide) _ _ h
 have HE:Hid (zt (V.ints s)=(parse ((V.ints s).take (c+f))).map λJ=>(J,c+f)):=zop (zu s) h (by omega) (by rw[Int.toNat_natCast];exact q)
 have hd:=qY s c y
 unfold maxLen at B
 have hr:(s.extract c s.size).size<=maxLen:=by unfold maxLen;rw[ByteArray.size_extract];omega
 have ex:=Jp s c f y hc2
 generalize s.extract c s.size=S at*
 have H4:=λW (j:V.Forms W)=>JL S (2*m) W j hr (by omega) _ _ (by rw[hd];exact q)
 rw[show((2*m:Nat):Int)=2*(m:Int) by omega,ex]at H4
 generalize A:c+f=C at*
 have a5:=fM s C (by omega) B
 have hip:V.ints (s.extract 0 C)=(V.ints s).take C:=by rw[kX];rfl
 have hpl:(s.extract 0 C).size<=maxLen:=by unfold maxLen;rw[ByteArray.size_extract];omega
 generalize s.extract 0 C=p at*
 have hr2:(s.extract C s.size).size=s.size-C:=by rw[ByteArray.size_extract];omega
 obtain⟨k,F⟩:∃k,s.extract C s.size=k:=⟨_,rfl⟩
 rw[F]at H4 hr2
 have z:Hid (s.extract C s.size=k):=F
 have a6:(s.size:Int)-(k.size:Int)=(C:Int):=by omega
 have gm:¬(12:Int)<=(m:Int):=by omega
 have gr:(k.size:Int)<=(s.size:Int):=by omega
 have P:=zC t
 rw[<-hip]at HE
 have HPn:=λW (j:V.Forms W)=>zmd p W j hpl
 have HPy:=λW (j:V.Forms W)=>zmg p W j hpl
 have hby:=zu p
 clear h t q hd y hr F hr2 hip ex A hc2 hpl
 generalize V.ints p=N at*
 go_enter Tryz.func226,Tryz.ntmps226
 go_wp2_with fail
 refine H3.mono ?_
 rintro e w1 ⟨v,rfl,ho,u⟩
 obtain⟨g,cp,rfl,G,_,hg⟩:=ho.form (by simp)
 have R:=ho.cell 1 (by simp)
 simp only[List.getElem?_cons_succ,List.getElem?_cons_zero,Option.getD_some,List.length_cons,List.length_nil,Nat.reduceAdd]at R G |-
 have Q:=H4 _ (P.out.below u)
 clear H3 H4 ho
 go_wp2_with fail
 refine Q.mono ?_
 rintro e w2 ⟨v2,rfl,H,D⟩
 obtain⟨X,a0,rfl⟩:=H.shape
 have i:=u.trans (D.mono u.size)
 have U:=P.out.below i
 clear Q
 cases b:parse N with
 |none=>
  have n:Hid (zt (V.ints s)=none):=by show _=_;rw[HE.out,b];rfl
  have l:=HPn _ U b;clear HE HPn HPy b;go_wp2_with (first|(go_at_call 239;refine l.mono ?_;rintro e o ⟨rfl,x⟩));go_ret3
  exact⟨.inl ⟨n.out,rfl⟩,i.trans (x.mono i.size)⟩
 |some J=>
  have n:Hid (zt (V.ints s)=some (J,C)):=by show _=_;rw[HE.out,b];rfl
  obtain⟨L,M,_⟩:=(zmc hby J).1 b;have l:=HPy _ U J b;clear HE HPn HPy b;go_wp2_with fail;refine l.mono ?_;rintro e o ⟨T,rfl,hR3,a1,x⟩;have r:=i.trans (x.mono i.size);have HM:=zk6 T J o hR3 M.1 L;obtain⟨Y,c3,I,_⟩:=id hR3;subst I;clear l hR3;go_wp2_with (first|(go_at_call 240;refine HM.mono ?_;rintro e w4 ⟨v4,rfl,ho4,E⟩;obtain⟨Z,c4,K⟩:=id ho4.shape;subst K));go_ret3
  exact⟨.inr ⟨J,C,_,n.out,by rw[z.out];rfl,jE ho4 r.size⟩,r.trans (E.mono r.size)⟩
theorem zr8(s:ByteArray)(w:World)(e:V.Forms w)(f:s.size<=maxLen):Calls Tryz.prog 226 #[.string s] w (Zw s w):=by
 cases h:tk 3 (V.ints s)with
 |none=>exact zae s w e f h
 |some x=>
  obtain⟨M,c⟩:=x
  obtain⟨k,g,_,_⟩:=yU 3 _ _ c (zu s) h
  have hc:=Qg (zu s) h
  rw[zg]at hc
  match M,k,g,h with
  |[a,m,d],_,g,h=>
   have n:=(g m (by simp)).1;by_cases j:12<=m;exact zaf s w e f a m d c h j;obtain ⟨b,rfl⟩:∃b:Nat,m=(b:Int):=⟨m.toNat,by omega⟩;cases h2:tk (2*b) ((V.ints s).drop c)with
   |none=>exact zah s w e f a d b c h (by omega) hc h2
   |some y=>
    obtain⟨l,i⟩:=y;have hc2:=Qg (ji (zu s) _) h2;rw[List.length_drop,zg]at hc2;exact zai s w e f a d b c i l h (by omega) hc h2 (by omega)
abbrev jh(k:Int)(s:ByteArray)(w:World)(e:Ending)(E:World):Prop:=
 ((qQ k (V.ints s)=none/\e=yL)\/(∃M c v,qQ k (V.ints s)=some (M,c)/\e=.returned (.tuple #[v,.string (s.extract c s.size),.nilIface])/\OwnI E w.heap.size v M))/\Below w.heap.size w E
theorem zlg(s:ByteArray)(w:World)(f:V.Forms w)(h:s.size<=maxLen):Calls Tryz.prog 208 #[.int .i64 2,.string s] w (jh 2 s w):=by
 have a:Hid (qQ 2 (V.ints s)=(zt (V.ints s)).map λx=>(zK x.1,x.2)):=by show _=_;simp[qQ]
 have i:Calls Tryz.prog 226 #[.string s] w λe E=>∃(v:Value) (r:ByteArray) (b:Value),e=.returned (.tuple #[v,.string r,b])/\Hid (jh 2 s w (.returned (.tuple #[v,.string r,b])) E):=by
  refine(zr8 s w f h).mono ?_;rintro e E ⟨⟨d,rfl⟩|⟨J,c,v,d,rfl,j⟩,g⟩;exact ⟨_,_,_,rfl,.inl ⟨by rw[a.out,d];rfl,rfl⟩,g⟩;exact ⟨_,_,_,rfl,.inr ⟨zK J,c,v,by rw[a.out,d];rfl,rfl,j⟩,g⟩
 clear a f h;go_enter Tryz.func208,Tryz.ntmps208
 go_wp2_with (first|(go_at_call 226;refine i.mono ?_;rintro e l ⟨v,r,b,rfl,k⟩));go_ret3
 exact k.out
theorem Kn(s:ByteArray)(w:World)(f:Cnts w)(g:V.Forms w)(i:s.size<=maxLen):Calls Tryz.prog 208 #[.int .i64 1,.string s] w (jh 1 s w):=by
 have a:Hid (qQ 1 (V.ints s)=tk 0 (V.ints s)):=by show _=_;simp[qQ,zk]
 have j:Calls Tryz.prog 227 #[.string s,.int .i64 0] w λe E=>∃(v:Value) (r:ByteArray) (b:Value),e=.returned (.tuple #[v,.string r,b])/\Hid (jh 1 s w (.returned (.tuple #[v,.string r,b])) E):=by
  refine(vK s 0 w g i (by decide)).mono ?_;rintro e E ⟨⟨d,rfl⟩|⟨M,c,v,d,rfl,k⟩,h⟩;exact ⟨_,_,_,rfl,.inl ⟨by rw[a.out,d],rfl⟩,h⟩;exact ⟨_,_,_,rfl,.inr ⟨M,c,v,by rw[a.out,d],rfl,k⟩,h⟩
 have m:=f.c1;clear a g i f;go_enter Tryz.func208,Tryz.ntmps208
 go_wp2_with (first|(go_at_call 227;refine j.mono ?_;rintro e n ⟨v,r,b,rfl,l⟩));go_ret3
 exact l.out
theorem zla(s:ByteArray)(w:World)(f:Cnts w)(g:V.Forms w)(i:s.size<=maxLen):Calls Tryz.prog 208 #[.int .i64 3,.string s] w (jh 3 s w):=by
 have a:Hid (qQ 3 (V.ints s)=tk 1 (V.ints s)):=by show _=_;simp[qQ,zk]
 have j:Calls Tryz.prog 227 #[.string s,.int .i64 1] w λe E=>∃(v:Value) (r:ByteArray) (b:Value),e=.returned (.tuple #[v,.string r,b])/\Hid (jh 3 s w (.returned (.tuple #[v,.string r,b])) E):=by
  refine(vK s 1 w g i (by decide)).mono ?_;rintro e E ⟨⟨d,rfl⟩|⟨M,c,v,d,rfl,k⟩,h⟩;exact ⟨_,_,_,rfl,.inl ⟨by rw[a.out,d],rfl⟩,h⟩;exact ⟨_,_,_,rfl,.inr ⟨M,c,v,by rw[a.out,d],rfl,k⟩,h⟩
 have m:=f.c3;clear a g i f;go_enter Tryz.func208,Tryz.ntmps208
 go_wp2_with (first|(go_at_call 227;refine j.mono ?_;rintro e n ⟨v,r,b,rfl,l⟩));go_ret3
 exact l.out
theorem zlb(s:ByteArray)(w:World)(f:Cnts w)(g:V.Forms w)(i:s.size<=maxLen):Calls Tryz.prog 208 #[.int .i64 4,.string s] w (jh 4 s w):=by
 have a:Hid (qQ 4 (V.ints s)=tk 1 (V.ints s)):=by show _=_;simp[qQ,zk]
 have j:Calls Tryz.prog 227 #[.string s,.int .i64 1] w λe E=>∃(v:Value) (r:ByteArray) (b:Value),e=.returned (.tuple #[v,.string r,b])/\Hid (jh 4 s w (.returned (.tuple #[v,.string r,b])) E):=by
  refine(vK s 1 w g i (by decide)).mono ?_;rintro e E ⟨⟨d,rfl⟩|⟨M,c,v,d,rfl,k⟩,h⟩;exact ⟨_,_,_,rfl,.inl ⟨by rw[a.out,d],rfl⟩,h⟩;exact ⟨_,_,_,rfl,.inr ⟨M,c,v,by rw[a.out,d],rfl,k⟩,h⟩
 have m:=f.c4;clear a g i f;go_enter Tryz.func208,Tryz.ntmps208
 go_wp2_with (first|(go_at_call 227;refine j.mono ?_;rintro e n ⟨v,r,b,rfl,l⟩));go_ret3
 exact l.out
theorem zlc(s:ByteArray)(w:World)(f:Cnts w)(g:V.Forms w)(i:s.size<=maxLen):Calls Tryz.prog 208 #[.int .i64 5,.string s] w (jh 5 s w):=by
 have a:Hid (qQ 5 (V.ints s)=tk 1 (V.ints s)):=by show _=_;simp[qQ,zk]
 have j:Calls Tryz.prog 227 #[.string s,.int .i64 1] w λe E=>∃(v:Value) (r:ByteArray) (b:Value),e=.returned (.tuple #[v,.string r,b])/\Hid (jh 5 s w (.returned (.tuple #[v,.string r,b])) E):=by
  refine(vK s 1 w g i (by decide)).mono ?_;rintro e E ⟨⟨d,rfl⟩|⟨M,c,v,d,rfl,k⟩,h⟩;exact ⟨_,_,_,rfl,.inl ⟨by rw[a.out,d],rfl⟩,h⟩;exact ⟨_,_,_,rfl,.inr ⟨M,c,v,by rw[a.out,d],rfl,k⟩,h⟩
 have m:=f.c5;clear a g i f;go_enter Tryz.func208,Tryz.ntmps208
 go_wp2_with (first|(go_at_call 227;refine j.mono ?_;rintro e n ⟨v,r,b,rfl,l⟩));go_ret3
 exact l.out
theorem zld(s:ByteArray)(w:World)(f:Cnts w)(g:V.Forms w)(i:s.size<=maxLen):Calls Tryz.prog 208 #[.int .i64 6,.string s] w (jh 6 s w):=by
 have a:Hid (qQ 6 (V.ints s)=tk 1 (V.ints s)):=by show _=_;simp[qQ,zk]
 have j:Calls Tryz.prog 227 #[.string s,.int .i64 1] w λe E=>∃(v:Value) (r:ByteArray) (b:Value),e=.returned (.tuple #[v,.string r,b])/\Hid (jh 6 s w (.returned (.tuple #[v,.string r,b])) E):=by
  refine(vK s 1 w g i (by decide)).mono ?_;rintro e E ⟨⟨d,rfl⟩|⟨M,c,v,d,rfl,k⟩,h⟩;exact ⟨_,_,_,rfl,.inl ⟨by rw[a.out,d],rfl⟩,h⟩;exact ⟨_,_,_,rfl,.inr ⟨M,c,v,by rw[a.out,d],rfl,k⟩,h⟩
 have m:=f.c6;clear a g i f;go_enter Tryz.func208,Tryz.ntmps208
 go_wp2_with (first|(go_at_call 227;refine j.mono ?_;rintro e n ⟨v,r,b,rfl,l⟩));go_ret3
 exact l.out
theorem zle(s:ByteArray)(w:World)(f:Cnts w)(g:V.Forms w)(i:s.size<=maxLen):Calls Tryz.prog 208 #[.int .i64 7,.string s] w (jh 7 s w):=by
 have a:Hid (qQ 7 (V.ints s)=tk 2 (V.ints s)):=by show _=_;simp[qQ,zk]
 have j:Calls Tryz.prog 227 #[.string s,.int .i64 2] w λe E=>∃(v:Value) (r:ByteArray) (b:Value),e=.returned (.tuple #[v,.string r,b])/\Hid (jh 7 s w (.returned (.tuple #[v,.string r,b])) E):=by
  refine(vK s 2 w g i (by decide)).mono ?_;rintro e E ⟨⟨d,rfl⟩|⟨M,c,v,d,rfl,k⟩,h⟩;exact ⟨_,_,_,rfl,.inl ⟨by rw[a.out,d],rfl⟩,h⟩;exact ⟨_,_,_,rfl,.inr ⟨M,c,v,by rw[a.out,d],rfl,k⟩,h⟩
 have m:=f.c7;clear a g i f;go_enter Tryz.func208,Tryz.ntmps208
 go_wp2_with (first|(go_at_call 227;refine j.mono ?_;rintro e n ⟨v,r,b,rfl,l⟩));go_ret3
 exact l.out
theorem zlf(s:ByteArray)(w:World)(f:Cnts w)(g:V.Forms w)(i:s.size<=maxLen):Calls Tryz.prog 208 #[.int .i64 8,.string s] w (jh 8 s w):=by
 have a:Hid (qQ 8 (V.ints s)=tk 1 (V.ints s)):=by show _=_;simp[qQ,zk]
 have j:Calls Tryz.prog 227 #[.string s,.int .i64 1] w λe E=>∃(v:Value) (r:ByteArray) (b:Value),e=.returned (.tuple #[v,.string r,b])/\Hid (jh 8 s w (.returned (.tuple #[v,.string r,b])) E):=by
  refine(vK s 1 w g i (by decide)).mono ?_;rintro e E ⟨⟨d,rfl⟩|⟨M,c,v,d,rfl,k⟩,h⟩;exact ⟨_,_,_,rfl,.inl ⟨by rw[a.out,d],rfl⟩,h⟩;exact ⟨_,_,_,rfl,.inr ⟨M,c,v,by rw[a.out,d],rfl,k⟩,h⟩
 have m:=f.c8;clear a g i f;go_enter Tryz.func208,Tryz.ntmps208
 go_wp2_with (first|(go_at_call 227;refine j.mono ?_;rintro e n ⟨v,r,b,rfl,l⟩));go_ret3
 exact l.out
theorem bK(k:Int)(s:ByteArray)(w:World)(c:Cnts w)(a:V.Forms w)(b:s.size<=maxLen)(d:zw k=true):Calls Tryz.prog 208 #[.int .i64 k,.string s] w (jh k s w):=by
 have h:=(wF k).1 d;have e:k=1\/k=2\/k=3\/k=4\/k=5\/k=6\/k=7\/k=8:=by omega
 rcases e with rfl|rfl|rfl|rfl|rfl|rfl|rfl|rfl;exact Kn s w c a b;exact zlg s w a b;exact zla s w c a b;exact zlb s w c a b;exact zlc s w c a b;exact zld s w c a b;exact zle s w c a b;exact zlf s w c a b
theorem zlk(k:Int)(s:ByteArray)(w:World)(a:Cnts w)(b:V.Forms w)(i:s.size<=maxLen)(g:zw k=true)(h:qQ k (V.ints s)=none):
  Calls Tryz.prog 208 #[.int .i64 k,.string s] w λe E=>e=yL/\Below w.heap.size w E:=by
 refine(bK k s w a b i g).mono ?_;rintro e E ⟨⟨_,f⟩|⟨M,c,v,h1,_⟩,d⟩;exact ⟨f,d⟩;rw [h]at h1;cases h1
theorem Ko(k:Int)(s:ByteArray)(w:World)(a:Cnts w)(b:V.Forms w)(i:s.size<=maxLen)(g:zw k=true)(M:List Int)(c:Nat)(h:qQ k (V.ints s)=some (M,c)):
  Calls Tryz.prog 208 #[.int .i64 k,.string s] w λe E=>∃v,e=.returned (.tuple #[v,.string (s.extract c s.size),.nilIface])/\OwnI E w.heap.size v M/\Below w.heap.size w E:=by
 refine(bK k s w a b i g).mono ?_;rintro e E ⟨⟨h1,_⟩|⟨m,l,v,h1,f,j⟩,d⟩;rw [h]at h1;cases h1;rw [h]at h1;cases h1;exact⟨v,f,j,d⟩
def FBox(W:World)(B:Nat)(k:Int)(v:Value)(d:ByteArray):Prop:=W.heap[B]? =some (.cells #[.int .i64 k,v,.string d] 141 (0,0))
variable {W:World}{B:Nat}{v:Value}
theorem FBox.lt(h:FBox W B k v d):B<W.heap.size:=(Array.getElem?_eq_some_iff.1 h).1
theorem FBox.c0(h:FBox W B k v d):W.cell? ⟨B,0,none⟩=some (.int .i64 k):=by simp[World.cell?,show W.heap[B]? =_ from h]
theorem FBox.c1(h:FBox W B k v d):W.cell? ⟨B,1,none⟩=some v:=by simp[World.cell?,show W.heap[B]? =_ from h]
theorem FBox.c2(h:FBox W B k v d):W.cell? ⟨B,2,none⟩=some (.string d):=by simp[World.cell?,show W.heap[B]? =_ from h]
theorem FBox.fz(h:FBox W B k v d)(j:Nat):W.frozen? ⟨B,j,none⟩=false:=by simp[World.frozen?,show W.heap[B]? =_ from h]
theorem FBox.new(W:World)(k:Int)(v:Value)(d:ByteArray):FBox (W.alloc (.cells #[.int .i64 k,v,.string d] 141)) W.heap.size k v d:=World.alloc_heap_new W _
theorem FBox.alloc(h:FBox W B k v d)(o:Obj):FBox (W.alloc o) B k v d:=(Below.block (((Below.refl W.heap.size W).alloc (Nat.le_refl _) o)) B h.lt).trans h
theorem FBox.below{a:World}{n:Nat}(h:FBox W B k v d)(b:Below n W a)(c:B<n):FBox a B k v d:=(b.block B c).trans h
theorem FBox.set1(h:FBox W B k v d)(a:Value):FBox (W.setCell ⟨B,1,none⟩ a) B k a d:=JF h 1 a
theorem FBox.set2(h:FBox W B k v d)(a:ByteArray):FBox (W.setCell ⟨B,2,none⟩ (.string a)) B k v a:=JF h 2 (.string a)
theorem FBox.other{B' j:Nat}(h:FBox W B k v d)(a:B≠B')(u:Value):FBox (W.setCell ⟨B',j,none⟩ u) B k v d:=(Below.heap_setCell _ _ _ B a).trans h
theorem jd{c:Func}{p u q:Tmp}{d:TypeId}(h:c.results=#[.cell p d,.tmp u,.tmp q])(b:Array Value)(P:Program)(w:World):
  (results c b).run P w=((asAddr (b.getD p undef)).run P w).andThen λa e=>((loadVar d a).run P e).andThen λv f=>.ok (.tuple #[v,b.getD u undef,b.getD q undef]) f:=by
 simp only[results,h];simp[Sem.run_bind,Result.andThen]
abbrev jJ:Value:=.agg #[.int .i64 0,.slice none 0 0,.string {data:=#[]}]
abbrev wZ:Ending:=.returned (.tuple #[jJ,.int .i64 0,xS])
theorem jP(s:ByteArray)(k:Int)(l:List Int)(h:V.ints s=k::l)(w:World):(Instr.index 9 (.string s) (.int .i64 0)).run Tryz.prog w=.ok (.int .u8 k) w:=by
 have hp:0<s.size:=by rw[<-zg,h];simp
 have e:(s[0].toNat:Int)=k:=by
  obtain⟨⟨r⟩⟩:=s
  cases r with
  |nil=>exact absurd hp (by decide)
  |cons b r=>
   simp only[V.ints,List.map_cons,List.cons.injEq]at h;exact h.1
 have a:=Tryz.underlying9;have c:(0:Int)<(s.size:Int):=by omega
 go_simp;first|done|simp[e]
theorem zl5(w:World):Calls Tryz.prog 179 #[.string {data:=#[]}] w λe E=>e=wZ/\Below w.heap.size w E:=by
 simp only[wZ,xS];go_enter Tryz.func179,Tryz.ntmps179
 go_wp2_with fail;refine bodyPost_ret (v:=.tuple #[jJ,.int .i64 0,.iface 133 (.int .i64 2)]) ?_ rfl ⟨rfl,?_⟩;.rw [jd rfl];go_simp
 exact (Below.refl _ w).alloc (Nat.le_refl _) _
theorem zl6(s:ByteArray)(k:Int)(l:List Int)(w:World)(a:V.ints s=k::l)(b:zw k=false):Calls Tryz.prog 179 #[.string s] w λe E=>e=wZ/\Below w.heap.size w E:=by
 have f:(s.toList== [])=false:=x8 (by rw[<-zg,a];simp);have c:=jP s k l a;have d:=zu s k (by rw[a];simp);have HK:=vC k;rw[b]at HK;simp only[wZ,xS];clear a;go_enter Tryz.func179,Tryz.ntmps179
 go_wp2_with (first|(go_at_call 207;refine(HK _).mono ?_;rintro e g ⟨rfl,rfl⟩));refine bodyPost_ret (v:=.tuple #[jJ,.int .i64 0,.iface 133 (.int .i64 2)]) ?_ rfl ⟨rfl,?_⟩;.rw [jd rfl];go_simp
 exact (Below.refl _ w).alloc (Nat.le_refl _) _
theorem zl7(s:ByteArray)(k:Int)(l:List Int)(w:World)(n:Cnts w)(p:V.Forms w)(g:s.size<=maxLen)(b:V.ints s=k::l)(i:zw k=true)(j:qQ k l=none):Calls Tryz.prog 179 #[.string s] w λe E=>e=wZ/\Below w.heap.size w E:=by
 have A:(s.toList== [])=false:=x8 (by rw[<-zg,b];simp);have o:=jP s k l b;have z:=zu s k (by rw[b];simp);have HK:=vC k;rw[i]at HK;have x:s.size=l.length+1:=by rw[<-zg,b];rfl
 unfold maxLen at g;have G:∀W,(Instr.slice 9 (.string s) (some (.int .i64 1)) none none).run Tryz.prog W=.ok (.string (s.extract 1 s.size)) W:=je s 1 (by omega) g;have hid:=qY s 1 (by omega);rw[b]at hid;simp only[List.drop_succ_cons,List.drop_zero]at hid;have C:(s.extract 1 s.size).size=s.size-1:=by rw[ByteArray.size_extract];omega
 have hB2:Below w.heap.size w ((w.alloc (.cells #[.int .i64 0,.slice none 0 0,.string {data:=#[]}] 141)).alloc (.cells #[.int .i64 k,.slice none 0 0,.string {data:=#[]}] 141)):=((Below.refl _ w).alloc (Nat.le_refl _) _).alloc (by simp) _;have bR:FBox ((w.alloc (.cells #[.int .i64 0,.slice none 0 0,.string {data:=#[]}] 141)).alloc (.cells #[.int .i64 k,.slice none 0 0,.string {data:=#[]}] 141)) w.heap.size 0 (.slice none 0 0) {data:=#[]}:=(FBox.new w 0 _ _).alloc _
 have bF:FBox ((w.alloc (.cells #[.int .i64 0,.slice none 0 0,.string {data:=#[]}] 141)).alloc (.cells #[.int .i64 k,.slice none 0 0,.string {data:=#[]}] 141)) (w.heap.size+1) k (.slice none 0 0) {data:=#[]}:=by
  have:=FBox.new (w.alloc (.cells #[.int .i64 0,.slice none 0 0,.string {data:=#[]}] 141)) k (.slice none 0 0) {data:=#[]};rwa[World.size_alloc]at this
 have hs2:((w.alloc (.cells #[.int .i64 0,.slice none 0 0,.string {data:=#[]}] 141)).alloc (.cells #[.int .i64 k,.slice none 0 0,.string {data:=#[]}] 141)).heap.size=w.heap.size+2:=by simp
 have hr1':(s.extract 1 s.size).size<=maxLen:=by unfold maxLen;omega
 generalize s.extract 1 s.size=y at*;have h:=λW (q:Below w.heap.size w W)=>zlk k y W (n.below q) (p.below q) hr1' i (by rw[hid];exact j);simp only[yL,wZ,xS]at h |-;clear hr1' hid j;clear n p b g x;go_enter Tryz.func179,Tryz.ntmps179
 go_wp2_with (first|(go_at_call 207;refine(HK _).mono ?_;rintro e H ⟨rfl,rfl⟩));generalize((w.alloc (.cells #[.int .i64 0,.slice none 0 0,.string {data:=#[]}] 141)).alloc (.cells #[.int .i64 k,.slice none 0 0,.string {data:=#[]}] 141))=c at*;have Q:c.drew.cell? ⟨w.heap.size+1,0,none⟩=some (.int .i64 k):=bF.c0;have d:Below w.heap.size w c.drew:=hB2.drew;have u:FBox c.drew w.heap.size 0 (.slice none 0 0) {data:=#[]}:=bR
 have t:FBox c.drew (w.heap.size+1) k (.slice none 0 0) {data:=#[]}:=bF;have D:c.drew.heap.size=w.heap.size+2:=hs2;clear bR bF hB2 hs2;go_region_held3 (λX=>X.cell? ⟨w.heap.size+1,0,none⟩=some (.int .i64 k)) (go_keep) (first|(go_at_call 208;refine(h _ d).mono ?_;rintro e I ⟨rfl,f⟩;have r:=t.below f (by omega);have a:=u.below f (by omega);have U:=r.c0;have m:=d.trans (f.mono d.size)))
 have B:=a.c0;have F:=a.c1;have P:=a.c2;have J:=a.fz 0;have K:=a.fz 1;have L:=a.fz 2;go_wp2_with fail;refine bodyPost_ret (v:=.tuple #[jJ,.int .i64 0,.iface 133 (.int .i64 2)]) ?_ rfl ⟨rfl,?_⟩;.rw [jd rfl];go_simp
 first|exact m|exact((m.setCell (Nat.le_refl _) _).setCell (Nat.le_refl _) _).setCell (Nat.le_refl _) _
theorem yt{w:World}{T d:Nat}{K:List Int}(h:OwnI w T v K)(i:d<=T):OwnI w d v K:=
 ⟨h.1,h.2.imp id (λ⟨g,e,f,a,b,c⟩=>⟨g,e,f,a,Nat.le_trans i b,c⟩)⟩
theorem xW{w:World}{T j:Nat}{u:Value}{K:List Int}(h:OwnI w T v K)(b:B<T):OwnI (w.setCell ⟨B,j,none⟩ u) T v K:=
 ownsRow_setCell_other (a:=⟨B,j,none⟩) h (λe=>by have:=(h.lt B e).1;omega) u
theorem zl9(s:ByteArray)(k:Int)(l:List Int)(w:World)(P:Cnts w)(Q:V.Forms w)(n:s.size<=maxLen)(d:V.ints s=k::l)(x:zw k=true)(I:k≠3)(M:List Int)(c:Nat)(y:qQ k l=some (M,c))(K:c<=l.length)(N:Nat)(J:N=1+c)(o:M.length<=24):Calls Tryz.prog 179 #[.string s] w λe E=>∃v,e=.returned (.tuple #[.agg #[.int .i64 k,v,.string {data:=#[]}],.int .i64 (N:Int),.nilIface])/\OwnI E w.heap.size v M/\Below w.heap.size w E:=by
 have a5:(s.toList== [])=false:=x8 (by rw[<-zg,d];simp);have a0:=jP s k l d;have a1:=zu s k (by rw[d];simp);have HK:=vC k;rw[x]at HK;have L:s.size=l.length+1:=by rw[<-zg,d];rfl
 unfold maxLen at n;have a7:∀W,(Instr.slice 9 (.string s) (some (.int .i64 1)) none none).run Tryz.prog W=.ok (.string (s.extract 1 s.size)) W:=je s 1 (by omega) n;have hid:=qY s 1 (by omega);rw[d]at hid;simp only[List.drop_succ_cons,List.drop_zero]at hid;have a6:(s.extract 1 s.size).size=s.size-1:=by rw[ByteArray.size_extract];omega
 have hB2:Below w.heap.size w ((w.alloc (.cells #[.int .i64 0,.slice none 0 0,.string {data:=#[]}] 141)).alloc (.cells #[.int .i64 k,.slice none 0 0,.string {data:=#[]}] 141)):=((Below.refl _ w).alloc (Nat.le_refl _) _).alloc (by simp) _;have bR:FBox ((w.alloc (.cells #[.int .i64 0,.slice none 0 0,.string {data:=#[]}] 141)).alloc (.cells #[.int .i64 k,.slice none 0 0,.string {data:=#[]}] 141)) w.heap.size 0 (.slice none 0 0) {data:=#[]}:=(FBox.new w 0 _ _).alloc _
 have bF:FBox ((w.alloc (.cells #[.int .i64 0,.slice none 0 0,.string {data:=#[]}] 141)).alloc (.cells #[.int .i64 k,.slice none 0 0,.string {data:=#[]}] 141)) (w.heap.size+1) k (.slice none 0 0) {data:=#[]}:=by
  have:=FBox.new (w.alloc (.cells #[.int .i64 0,.slice none 0 0,.string {data:=#[]}] 141)) k (.slice none 0 0) {data:=#[]};rwa[World.size_alloc]at this
 have hs2:((w.alloc (.cells #[.int .i64 0,.slice none 0 0,.string {data:=#[]}] 141)).alloc (.cells #[.int .i64 k,.slice none 0 0,.string {data:=#[]}] 141)).heap.size=w.heap.size+2:=by simp
 have hr1':(s.extract 1 s.size).size<=maxLen:=by unfold maxLen;omega
 generalize s.extract 1 s.size=h at*;have HN:=λW (U:Below w.heap.size w W)=>Ko k h W (P.below U) (Q.below U) hr1' x M c (by rw[hid];exact y);have hr2:(h.extract c h.size).size=s.size-1-c:=by rw[ByteArray.size_extract];omega
 generalize h.extract c h.size=A at*;have a8:(s.size:Int)-(A.size:Int)=(N:Int):=by omega
 have Z:(A.size:Int)<=(s.size:Int):=by omega
 have tl:s.size<=9223372036854775807:=n;have a4:=zC o;clear o;have a2:¬k=3:=I;clear hr1' hid y K J hr2;clear P Q d n L;go_enter Tryz.func179,Tryz.ntmps179
 go_wp2_with (first|(go_at_call 207;refine(HK _).mono ?_;rintro e w1 ⟨rfl,rfl⟩));generalize((w.alloc (.cells #[.int .i64 0,.slice none 0 0,.string {data:=#[]}] 141)).alloc (.cells #[.int .i64 k,.slice none 0 0,.string {data:=#[]}] 141))=f at*;have C:f.drew.cell? ⟨w.heap.size+1,0,none⟩=some (.int .i64 k):=bF.c0;have i:Below w.heap.size w f.drew:=hB2.drew;have t:FBox f.drew w.heap.size 0 (.slice none 0 0) {data:=#[]}:=bR
 have q:FBox f.drew (w.heap.size+1) k (.slice none 0 0) {data:=#[]}:=bF;have z:f.drew.heap.size=w.heap.size+2:=hs2;clear bR bF hB2 hs2;go_region_held3 (λX=>X.cell? ⟨w.heap.size+1,0,none⟩=some (.int .i64 k)) (go_keep) (first|(go_at_call 208;refine(HN _ i).mono ?_;rintro e p ⟨v3,rfl,ho3,m⟩;obtain⟨a,b,O⟩:=id ho3.shape;subst O;have g:=q.below m (by omega);have r:=t.below m (by omega);have D:=g.c0;have F:=i.trans (m.mono i.size)))
 have G:=g.c1;have H:=g.fz 1;rw[z]at ho3;clear t q i C m z HN;go_upto_region 8 with fail
 have bF4:=g.set1 (.slice a M.length b);have bR4:FBox (p.setCell ⟨w.heap.size+1,1,none⟩ (.slice a M.length b)) w.heap.size 0 (.slice none 0 0) {data:=#[]}:=r.other (by omega) _;have hB4:Below w.heap.size w (p.setCell ⟨w.heap.size+1,1,none⟩ (.slice a M.length b)):=F.setCell (by simp) _;have ho4:=xW (B:=w.heap.size+1) (j:=1) (u:=.slice a M.length b) ho3 (by omega);generalize p.setCell ⟨w.heap.size+1,1,none⟩ (.slice a M.length b)=R at*
 clear g r F ho3 D G H;have q0:=bF4.c0;have q1:=bF4.c1;have q2:=bF4.c2;have S:=bR4.c0;have T:=bR4.c1;have Y:=bR4.c2;have z0:=bR4.fz 0;have z1:=bR4.fz 1;have z2:=bR4.fz 2;go_wp2_with fail;refine bodyPost_ret (v:=.tuple #[.agg #[.int .i64 k,.slice a M.length b,.string {data:=#[]}],.int .i64 (N:Int),.nilIface]) ?_ rfl ⟨_,rfl,?_,?_⟩;.rw [jd rfl];go_simp
 exact yt (xW (xW (xW ho4 (by omega)) (by omega)) (by omega)) (by omega);exact ((hB4.setCell (Nat.le_refl _) _).setCell (Nat.le_refl _) _).setCell (Nat.le_refl _) _
theorem zma(s:ByteArray)(l:List Int)(w:World)(L:Cnts w)(P:V.Forms w)(F:s.size<=maxLen)(m:V.ints s=3::l)(G:zw 3=true)(M:List Int)(c:Nat)(H:qQ 3 l=some (M,c))(hc:c<=l.length)(q f:Nat)(I:jM (l.drop c)=some (q,f))(hq:q<=20)(a1:c+f+q<=l.length)(N:Nat)(hN:N=1+c+f+q)(R:M.length<=24):Calls Tryz.prog 179 #[.string s] w λe E=>∃v,e=.returned (.tuple #[.agg #[.int .i64 3,v,.string (s.extract (1+c+f) N)],.int .i64 (N:Int),.nilIface])/\OwnI E w.heap.size v M/\Below w.heap.size w E:=by
 have ab:(s.toList== [])=false:=x8 (by rw[<-zg,m];simp);have a8:=jP s 3 l m;have a9:=zu s 3 (by rw[m];simp);have HK:=vC 3;rw[G]at HK;have a2:s.size=l.length+1:=by rw[<-zg,m];rfl
 unfold maxLen at F;have ad:∀W,(Instr.slice 9 (.string s) (some (.int .i64 1)) none none).run Tryz.prog W=.ok (.string (s.extract 1 s.size)) W:=je s 1 (by omega) F;have hid:=qY s 1 (by omega);rw[m]at hid;simp only[List.drop_succ_cons,List.drop_zero]at hid;have ac:(s.extract 1 s.size).size=s.size-1:=by rw[ByteArray.size_extract];omega
 have hB2:Below w.heap.size w ((w.alloc (.cells #[.int .i64 0,.slice none 0 0,.string {data:=#[]}] 141)).alloc (.cells #[.int .i64 3,.slice none 0 0,.string {data:=#[]}] 141)):=((Below.refl _ w).alloc (Nat.le_refl _) _).alloc (by simp) _;have bR:FBox ((w.alloc (.cells #[.int .i64 0,.slice none 0 0,.string {data:=#[]}] 141)).alloc (.cells #[.int .i64 3,.slice none 0 0,.string {data:=#[]}] 141)) w.heap.size 0 (.slice none 0 0) {data:=#[]}:=(FBox.new w 0 _ _).alloc _
 have bF:FBox ((w.alloc (.cells #[.int .i64 0,.slice none 0 0,.string {data:=#[]}] 141)).alloc (.cells #[.int .i64 3,.slice none 0 0,.string {data:=#[]}] 141)) (w.heap.size+1) 3 (.slice none 0 0) {data:=#[]}:=by
  have:=FBox.new (w.alloc (.cells #[.int .i64 0,.slice none 0 0,.string {data:=#[]}] 141)) 3 (.slice none 0 0) {data:=#[]};rwa[World.size_alloc]at this
 have hs2:((w.alloc (.cells #[.int .i64 0,.slice none 0 0,.string {data:=#[]}] 141)).alloc (.cells #[.int .i64 3,.slice none 0 0,.string {data:=#[]}] 141)).heap.size=w.heap.size+2:=by simp
 have hr1':(s.extract 1 s.size).size<=maxLen:=by unfold maxLen;omega
 have HXX:Hid (∀a b,(s.extract 1 s.size).extract a b=s.extract (1+a) (1+b)\/s.size<1+b):=by
  show∀a b,_;intro a b;by_cases x:s.size<1+b;exact .inr x
  .left
   apply jq
   rw[kX (s.extract 1 s.size) a b,kX s (1+a) (1+b),qY s 1 (by omega),List.drop_drop,show 1+b-(1+a)=b-a by omega]
 generalize s.extract 1 s.size=d at*;have HN:=λW (x:Below w.heap.size w W)=>Ko 3 d W (L.below x) (P.below x) hr1' G M c (by rw[hid];exact H);have hr2:(d.extract c d.size).size=s.size-1-c:=by rw[ByteArray.size_extract];omega
 have hid2:V.ints (d.extract c d.size)=l.drop c:=by rw[qY d c (by omega),hid]
 have hr2':(d.extract c d.size).size<=maxLen:=by unfold maxLen;omega
 have HDD:Hid ((d.extract c d.size).extract f (f+q)=s.extract (1+c+f) N):=by
  show _=_;have e1:(d.extract c d.size).extract f (f+q)=d.extract (c+f) (c+f+q):=by
   apply jq;rw[kX (d.extract c d.size) f (f+q),kX d (c+f) (c+f+q),qY d c (by omega),List.drop_drop];congr 1
   omega
  rw[e1];rcases HXX.out (c+f) (c+f+q)with e|e;rw [e];congr 1<;>omega
  .omega
 have HP:=λW hW=>zm4 (d.extract c d.size) W hW hr2' q f (by rw[hid2];exact I);have hr3:((d.extract c d.size).extract (f+q) (d.extract c d.size).size).size=s.size-N:=by rw[ByteArray.size_extract];omega
 generalize d.extract c d.size=Q at*;generalize Q.extract f (f+q)=k at*;generalize Q.extract (f+q) Q.size=Z at*;have ae:(s.size:Int)-(Z.size:Int)=(N:Int):=by omega
 have gr:(Z.size:Int)<=(s.size:Int):=by omega
 have tl:s.size<=9223372036854775807:=F;rw[<-HDD.out];have aa:=zC R;have HF:=zC P;clear hr1' hid H hc hN hr2 hid2 hr2' I hq a1 hr3 HDD HXX R;clear L P m F a2;go_enter Tryz.func179,Tryz.ntmps179
 go_wp2_with (first|(go_at_call 207;refine(HK _).mono ?_;rintro e w1 ⟨rfl,rfl⟩));generalize((w.alloc (.cells #[.int .i64 0,.slice none 0 0,.string {data:=#[]}] 141)).alloc (.cells #[.int .i64 3,.slice none 0 0,.string {data:=#[]}] 141))=n at*;have d0:n.drew.cell? ⟨w.heap.size+1,0,none⟩=some (.int .i64 3):=bF.c0;have t:Below w.heap.size w n.drew:=hB2.drew;have D:FBox n.drew w.heap.size 0 (.slice none 0 0) {data:=#[]}:=bR
 have z:FBox n.drew (w.heap.size+1) 3 (.slice none 0 0) {data:=#[]}:=bF;have T:n.drew.heap.size=w.heap.size+2:=hs2;clear bR bF hB2 hs2;go_region_held3 (λX=>X.cell? ⟨w.heap.size+1,0,none⟩=some (.int .i64 3)) (go_keep) (first|(go_at_call 208;refine(HN _ t).mono ?_;rintro e U ⟨v3,rfl,ho3,y⟩;obtain⟨g,i,a4⟩:=id ho3.shape;subst a4;have p:=z.below y (by omega);have A:=D.below y (by omega);have f0:=p.c0;have J:=t.trans (y.mono t.size)))
 have f1:=p.c1;have a0:=p.fz 1;rw[T]at ho3;clear D z t d0 y T HN;go_upto_region 8 with fail
 have bF4:=p.set1 (.slice g M.length i);have bR4:FBox (U.setCell ⟨w.heap.size+1,1,none⟩ (.slice g M.length i)) w.heap.size 0 (.slice none 0 0) {data:=#[]}:=A.other (by omega) _;have hB4:Below w.heap.size w (U.setCell ⟨w.heap.size+1,1,none⟩ (.slice g M.length i)):=J.setCell (by simp) _;have ho4:=xW (B:=w.heap.size+1) (j:=1) (u:=.slice g M.length i) ho3 (by omega);generalize U.setCell ⟨w.heap.size+1,1,none⟩ (.slice g M.length i)=W4 at*
 clear p A J ho3 f0 f1 a0;have Y:=bF4.c0;have O:=HP W4 (HF.out.below hB4);go_wp2_with fail;refine O.mono ?_;rintro e o ⟨rfl,r⟩;have h:=bF4.below r bF4.lt;have C:=bR4.below r bR4.lt;have S:=ho4.below r;have K:=hB4.trans (r.mono hB4.size);have y0:=h.c0;have y1:=h.c1;have y2:=h.c2;have y3:=h.fz 2;clear O HP r bR4 bF4 ho4 hB4 Y;go_upto_region 10 with fail
 have bF6:=h.set2 k;have bR6:FBox (o.setCell ⟨w.heap.size+1,2,none⟩ (.string k)) w.heap.size 0 (.slice none 0 0) {data:=#[]}:=C.other (by omega) _;have hB6:Below w.heap.size w (o.setCell ⟨w.heap.size+1,2,none⟩ (.string k)):=K.setCell (by simp) _;have ho6:=xW (B:=w.heap.size+1) (j:=2) (u:=.string k) S (by omega);generalize o.setCell ⟨w.heap.size+1,2,none⟩ (.string k)=W6 at*;clear h C K S y0 y1 y2 y3
 have Y:=bF6.c0;have q1:=bF6.c1;have q2:=bF6.c2;have a5:=bR6.c0;have a6:=bR6.c1;have a7:=bR6.c2;have z0:=bR6.fz 0;have z1:=bR6.fz 1;have z2:=bR6.fz 2;go_wp2_with fail;refine bodyPost_ret (v:=.tuple #[.agg #[.int .i64 3,.slice g M.length i,.string k],.int .i64 (N:Int),.nilIface]) ?_ rfl ⟨_,rfl,?_,?_⟩;.rw [jd rfl];go_simp
 exact yt (xW (xW (xW ho6 (by omega)) (by omega)) (by omega)) (by omega);exact ((hB6.setCell (Nat.le_refl _) _).setCell (Nat.le_refl _) _).setCell (Nat.le_refl _) _
theorem zl8(s:ByteArray)(l:List Int)(w:World)(G:Cnts w)(t:V.Forms w)(x:s.size<=maxLen)(f:V.ints s=3::l)(z:zw 3=true)(M:List Int)(c:Nat)(A:qQ 3 l=some (M,c))(T:c<=l.length)(C:jM (l.drop c)=none):Calls Tryz.prog 179 #[.string s] w λe w'=>e=wZ/\Below w.heap.size w w':=by
 have a6:(s.toList== [])=false:=x8 (by rw[<-zg,f];simp);have a4:=jP s 3 l f;have a5:=zu s 3 (by rw[f];simp);have HK:=vC 3;rw[z]at HK;have Y:s.size=l.length+1:=by rw[<-zg,f];rfl
 unfold maxLen at x;have a8:∀W,(Instr.slice 9 (.string s) (some (.int .i64 1)) none none).run Tryz.prog W=.ok (.string (s.extract 1 s.size)) W:=je s 1 (by omega) x;have hid:=qY s 1 (by omega);rw[f]at hid;simp only[List.drop_succ_cons,List.drop_zero]at hid;have a7:(s.extract 1 s.size).size=s.size-1:=by rw[ByteArray.size_extract];omega
 have hB2:Below w.heap.size w ((w.alloc (.cells #[.int .i64 0,.slice none 0 0,.string {data:=#[]}] 141)).alloc (.cells #[.int .i64 3,.slice none 0 0,.string {data:=#[]}] 141)):=((Below.refl _ w).alloc (Nat.le_refl _) _).alloc (by simp) _;have bR:FBox ((w.alloc (.cells #[.int .i64 0,.slice none 0 0,.string {data:=#[]}] 141)).alloc (.cells #[.int .i64 3,.slice none 0 0,.string {data:=#[]}] 141)) w.heap.size 0 (.slice none 0 0) {data:=#[]}:=(FBox.new w 0 _ _).alloc _
 have bF:FBox ((w.alloc (.cells #[.int .i64 0,.slice none 0 0,.string {data:=#[]}] 141)).alloc (.cells #[.int .i64 3,.slice none 0 0,.string {data:=#[]}] 141)) (w.heap.size+1) 3 (.slice none 0 0) {data:=#[]}:=by
  have:=FBox.new (w.alloc (.cells #[.int .i64 0,.slice none 0 0,.string {data:=#[]}] 141)) 3 (.slice none 0 0) {data:=#[]};rwa[World.size_alloc]at this
 have hs2:((w.alloc (.cells #[.int .i64 0,.slice none 0 0,.string {data:=#[]}] 141)).alloc (.cells #[.int .i64 3,.slice none 0 0,.string {data:=#[]}] 141)).heap.size=w.heap.size+2:=by simp
 have hr1':(s.extract 1 s.size).size<=maxLen:=by unfold maxLen;omega
 have HXX:Hid (∀a b,(s.extract 1 s.size).extract a b=s.extract (1+a) (1+b)\/s.size<1+b):=by
  show∀a b,_;intro a b;by_cases n:s.size<1+b;exact .inr n
  .left
   apply jq
   rw[kX (s.extract 1 s.size) a b,kX s (1+a) (1+b),qY s 1 (by omega),List.drop_drop,show 1+b-(1+a)=b-a by omega]
 generalize s.extract 1 s.size=d at*;have HN:=λW (n:Below w.heap.size w W)=>Ko 3 d W (G.below n) (t.below n) hr1' z M c (by rw[hid];exact A);have hr2:(d.extract c d.size).size=s.size-1-c:=by rw[ByteArray.size_extract];omega
 have hid2:V.ints (d.extract c d.size)=l.drop c:=by rw[qY d c (by omega),hid]
 have hr2':(d.extract c d.size).size<=maxLen:=by unfold maxLen;omega
 have HP:=λW S=>zm2 (d.extract c d.size) W S hr2' (by rw[hid2];exact C);simp only[yj,wZ,xS]at HP |-;generalize d.extract c d.size=r2 at*;have J:=zC t;clear hr1' hid A T hr2 hid2 hr2' C HXX;clear G t f x Y;go_enter Tryz.func179,Tryz.ntmps179
 go_wp2_with (first|(go_at_call 207;refine(HK _).mono ?_;rintro e w1 ⟨rfl,rfl⟩));generalize((w.alloc (.cells #[.int .i64 0,.slice none 0 0,.string {data:=#[]}] 141)).alloc (.cells #[.int .i64 3,.slice none 0 0,.string {data:=#[]}] 141))=g at*;have L:g.drew.cell? ⟨w.heap.size+1,0,none⟩=some (.int .i64 3):=bF.c0;have m:Below w.heap.size w g.drew:=hB2.drew;have o:FBox g.drew w.heap.size 0 (.slice none 0 0) {data:=#[]}:=bR
 have P:FBox g.drew (w.heap.size+1) 3 (.slice none 0 0) {data:=#[]}:=bF;have I:g.drew.heap.size=w.heap.size+2:=hs2;clear bR bF hB2 hs2;go_region_held3 (λX=>X.cell? ⟨w.heap.size+1,0,none⟩=some (.int .i64 3)) (go_keep) (first|(go_at_call 208;refine(HN _ m).mono ?_;rintro e y ⟨v3,rfl,ho3,p⟩;obtain⟨h,k,Z⟩:=id ho3.shape;subst Z;have i:=P.below p (by omega);have Q:=o.below p (by omega);have N:=i.c0;have D:=m.trans (p.mono m.size)))
 have O:=i.c1;have R:=i.fz 1;rw[I]at ho3;clear o P m L p I HN;go_upto_region 8 with fail
 have bF4:=i.set1 (.slice h M.length k);have bR4:FBox (y.setCell ⟨w.heap.size+1,1,none⟩ (.slice h M.length k)) w.heap.size 0 (.slice none 0 0) {data:=#[]}:=Q.other (by omega) _;have hB4:Below w.heap.size w (y.setCell ⟨w.heap.size+1,1,none⟩ (.slice h M.length k)):=D.setCell (by simp) _;have ho4:=xW (B:=w.heap.size+1) (j:=1) (u:=.slice h M.length k) ho3 (by omega);generalize y.setCell ⟨w.heap.size+1,1,none⟩ (.slice h M.length k)=K at*
 clear i Q D ho3 N O R;have q0:=bF4.c0;have H:=HP K (J.out.below hB4);go_wp2_with fail;refine H.mono ?_;rintro e F ⟨rfl,q⟩;have r:=bF4.below q bF4.lt;have U:=bR4.below q bR4.lt;have E:=hB4.trans (q.mono hB4.size);have y2:=r.c2;have y3:=r.fz 2;clear H HP q bR4 bF4 ho4 hB4 q0;go_upto_region 10 with fail
 have bR6:FBox (F.setCell ⟨w.heap.size+1,2,none⟩ (.string {data:=#[]})) w.heap.size 0 (.slice none 0 0) {data:=#[]}:=U.other (by omega) _;have hB6:Below w.heap.size w (F.setCell ⟨w.heap.size+1,2,none⟩ (.string {data:=#[]})):=E.setCell (by simp) _;generalize F.setCell ⟨w.heap.size+1,2,none⟩ (.string {data:=#[]})=W6 at*;clear r U E y2 y3;have a0:=bR6.c0;have a1:=bR6.c1;have a2:=bR6.c2;have z0:=bR6.fz 0
 have z1:=bR6.fz 1;have z2:=bR6.fz 2;go_wp2_with fail;refine bodyPost_ret (v:=.tuple #[jJ,.int .i64 0,.iface 133 (.int .i64 2)]) ?_ rfl ⟨rfl,?_⟩;.rw [jd rfl];go_simp
 first|exact((hB6.setCell (Nat.le_refl _) _).setCell (Nat.le_refl _) _).setCell (Nat.le_refl _) _|exact hB6
theorem zli{M:List Int}(a:Bytes l)(h:qQ k l=some (M,c)):M.length<=24:=by
 have h1:=(Xu a h).1;unfold zW at h1;split at h1;have:=of_decide_eq_true h1;omega;have:=of_decide_eq_true h1;rw[this];unfold zk;split;.omega
 split<;>omega
theorem zgh(s:ByteArray)(w:World)(d:Cnts w)(f:V.Forms w)(g:s.size<=maxLen)(h:jL s=none):Calls Tryz.prog 179 #[.string s] w λe E=>e=wZ/\Below w.heap.size w E:=by
 unfold jL at h
 cases hs:V.ints s with
 |nil=>
  obtain rfl:s={data:=#[]}:=vS (by rw[<-zg,hs];rfl);exact zl5 w
 |cons k l=>
  rw[hs]at h
  simp only at h
  have i:Bytes l:=λz m=>zu s z (by rw[hs];simp[m])
  cases h1:zw k with
  |false=>exact zl6 s k l w hs h1
  |true=>
   rw[h1]at h
   simp only[Bool.true_eq_false,if_false]at h
   cases h2:qQ k l with
   |none=>exact zl7 s k l w d f g hs h1 h2
   |some x=>
    obtain⟨M,c⟩:=x;have j:=(Xu i h2).2.2.2.2;rw[h2]at h;simp only[Option.bind_some]at h;by_cases a:k=3;subst a;rw[if_pos rfl]at h;cases b:jM (l.drop c)with
    |none=>exact zl8 s l w d f g hs h1 M c h2 j b
    |some y=>rw[b]at h;cases h
    rw [if_neg a]at h;cases h
theorem zgi(s:ByteArray)(w:World)(i:Cnts w)(j:V.Forms w)(p:s.size<=maxLen)(k:Int)(M:List Int)(d:ByteArray)(n:Nat)(h:jL s=some ((k,M,d),n)):
  Calls Tryz.prog 179 #[.string s] w λe E=>∃v,e=.returned (.tuple #[.agg #[.int .i64 k,v,.string d],.int .i64 (n:Int),.nilIface])/\OwnI E w.heap.size v M/\Below w.heap.size w E:=by
 unfold jL at h
 cases hs:V.ints s with
 |nil=>rw[hs]at h;cases h
 |cons a l=>
  rw[hs]at h
  simp only at h
  have f:Bytes l:=λz F=>zu s z (by rw[hs];simp[F])
  cases h1:zw a with
  |false=>rw[h1]at h;simp at h
  |true=>
   rw[h1]at h
   simp only[Bool.true_eq_false,if_false]at h
   cases h2:qQ a l with
   |none=>rw[h2]at h;cases h
   |some x=>
    obtain⟨u,c⟩:=x;have m:=(Xu f h2).2.2.2.2;have r:=zli f h2;rw[h2]at h;simp only[Option.bind_some]at h;by_cases b:a=3;subst b;rw[if_pos rfl]at h;cases h4:jM (l.drop c)with
    |none=>rw[h4]at h;cases h
    |some y=>
     obtain⟨q,g⟩:=y;rw[h4]at h;simp only[Option.map_some,Option.some.injEq,Prod.mk.injEq]at h;obtain⟨⟨rfl,rfl,rfl⟩,rfl⟩:=h;have t:q<=20/\c+g+q<=l.length:=by
      have h5:=h4
      unfold jM at h5
      cases hg:V.zL (l.drop c)with
      |none=>rw[hg]at h5;cases h5
      |some z=>
       obtain⟨A,P⟩:=z;obtain⟨Q,rfl,_,B,U,_⟩:=vW (ji f c) hg;rw[hg]at h5;simp only[List.length_drop]at h5 B;split at h5;cases h5;rename_i o;simp only[Option.some.injEq,Prod.mk.injEq]at h5;omega
     exact zma s l w i j p hs h1 u c h2 m q g h4 t.1 t.2 _ rfl r
    rw [if_neg b]at h;simp only[Option.some.injEq,Prod.mk.injEq]at h;obtain⟨⟨rfl,rfl,rfl⟩,rfl⟩:=h;exact zl9 s a l w i j p hs h1 b u c h2 m _ rfl r
end Go.Proofs.YtdokgalidhmbbaaGreatDoor
namespace Go.Proofs.YtdokgalidhmbbaaGreatDoor
open Go.RowKit Go.Lib Go.Sort
end Go.Proofs.YtdokgalidhmbbaaGreatDoor
