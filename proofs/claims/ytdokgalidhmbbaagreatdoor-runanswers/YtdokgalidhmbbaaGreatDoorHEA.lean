/- What the law RunAnswers needs. -/
import Derived.Test.YtdokgalidhmbbaaGreatDoorHS
import Derived.Test.YtdokgalidhmbbaaGreatDoorHC
import Derived.Deep.MidRow
import Derived.ChangeKeysEq
set_option linter.unusedVariables false
set_option linter.unusedSimpArgs false
set_option maxRecDepth 100000
set_option maxHeartbeats 8000000
namespace Go.Proofs.YtdokgalidhmbbaaGreatDoor
open Go.RowKit Go.Lib Go.Sort
def qR:R->Bool->List R->List R
 |x,p,[]=>if p then[]else[x]
 |x,p,r::a=>if x.2+1<r.1 then r::qR x p a
  else if r.2<x.1-1 then(if p then r::qR x true a else x::r::qR x true a)
  else qR (if r.1<x.1 then r.1 else x.1,if x.2<r.2 then r.2 else x.2) p a
theorem iO:∀(a:List R) (x:R),x.1<=x.2->(∀s,s∈a->s.1<=s.2/\s.2+1<x.1)->qR x true a=a
 |[],x,_,_=>rfl
 |r::a,x,c,h=>by
  have d:=h r List.mem_cons_self
  rw[qR,if_neg (by omega),if_pos (by omega),if_pos rfl,iO a x c (λs b=>h s (List.mem_cons_of_mem _ b))]
theorem WF:∀(f:List R) (x:R),x.1<=x.2->jK f->jK (qR x false f)/\∀n,Mem (qR x false f) n↔(x.1<=n/\n<=x.2)\/Mem f n
 |[],x,g,_=>by
  refine⟨⟨g,λs d=>by simp at d,trivial⟩,λn=>?_⟩
  show Mem [x] n↔_
  rw[K9]
  exact⟨.inl,λh=>h.resolve_right (Zc n)⟩
 |r::f,x,g,c=>by
  rw[qR]
  by_cases k:x.2+1<r.1
  .rw [if_pos k]
   obtain⟨i,j⟩:=WF f x g c.2.2
   refine⟨⟨c.1,λs d=>?_,i⟩,λn=>?_⟩
   .have u:=kG i s d
    rcases(j s.2).1 ⟨s,d,u,Int.le_refl _⟩with a|⟨q,t,a,b⟩
    .omega
    .have:=c.2.1 q t;omega
   .rw [mem_cons,mem_cons,j n]
    constructor
    .rintro (a|a|a)
     .exact .inr (.inl a)
     .exact .inl a
     .exact .inr (.inr a)
    .rintro (a|a|a)
     .exact .inr (.inl a)
     .exact .inl a
     .exact .inr (.inr a)
  .rw [if_neg k]
   by_cases l:r.2<x.1-1
   .rw [if_pos l,if_neg (by decide)]
    have e:qR x true f=f:=iO f x g (λs d=>⟨kG c.2.2 s d,by have:=c.2.1 s d;have:=c.1;omega⟩)
    rw[e]
    refine⟨⟨g,λs d=>?_,c⟩,λn=>by rw[mem_cons]⟩
    rcases List.mem_cons.1 d with rfl|d
    .omega
    .have:=c.2.1 s d;have:=c.1;omega
   .rw [if_neg l]
    have y:=c.1
    have v:(if r.1<x.1 then r.1 else x.1)<=(if x.2<r.2 then r.2 else x.2):=by(repeat' split)<;>omega
    obtain⟨i,j⟩:=WF f ((if r.1<x.1 then r.1 else x.1),(if x.2<r.2 then r.2 else x.2)) v c.2.2
    refine⟨i,λn=>?_⟩
    rw[j n,mem_cons]
    show((if r.1<x.1 then r.1 else x.1)<=n/\n<=(if x.2<r.2 then r.2 else x.2))\/Mem f n↔_
    constructor
    .rintro (a|a)
     .by_cases w:x.1<=n/\n<=x.2
      .exact .inl w
      .refine .inr (.inl ?_)
       obtain⟨m,p⟩:=a
       split at m<;>split at p<;>omega
     .exact .inr (.inr a)
    .rintro (a|a|a)
     .exact .inl ⟨by split<;>omega,by split<;>omega⟩
     .exact .inl ⟨by split<;>omega,by split<;>omega⟩
     .exact .inr a
open Sx (zP)
def nilB:ByteArray:={data:=#[]}
structure Ld where
 lo:Nat
 hi:Nat
 a:Nat
 b:Nat
structure En where
 d:ByteArray
 t:Nat
 l:Int
 m:Nat
 k:Int
 ls:List Ld
 s:Sx.St
 c:Cx.St
 cm:List R
def zi(n:Int):En:=⟨nilB,0,n,0,-1,[],Sx.qE,Cx.qE n,[]⟩
def en(e:En):Nat:=min e.d.size e.l.toNat
structure EInv(e:En):Prop where
 d60:e.d.size<=60
 t1:e.t<=en e
 l0:1<=e.l
 l1:e.l<=1073741823
 m1:e.m<=1073741824
 k0: -1<=e.k
 k1:e.k<e.m
 ls:∀x∈e.ls,x.hi<e.m/\(x.a<x.b\/(x.a=0/\x.b=0))/\x.a<=e.t/\x.b<=en e
 s:Sx.Inv e.s
 c:Cx.Inv e.c
 cm:xC e.cm=0
 ll:e.ls.length<=e.m
theorem ky(e:En):en e<=e.d.size:=Nat.min_le_left _ _
variable {e:En}
theorem EInv.en60(h:EInv e):en e<=60:=Nat.le_trans (ky e) h.d60
variable {n:Int}
theorem EInv.new(h:Cx.vL n=true):EInv (zi n):=by
 have a:1<=n/\n<=1000:=of_decide_eq_true h;refine⟨(show 0<=60 by omega),by simp[zi],a.1,by simp[zi];omega,by simp[zi],by simp[zi],by simp[zi],λx b=>by simp[zi]at b,Sx.Inv.new,Cx.Inv.start h,rfl,by simp[zi]⟩
def vk(e:En)(b:ByteArray):Int:=if 60<e.d.size+b.size then 4 else 0
def xR(e:En)(b:ByteArray):En:=if 60<e.d.size+b.size then e else{e with d:=e.d++b}
theorem zfv(e:En)(b:ByteArray):en e<=en {e with d:=e.d++b}:=by
 unfold en;simp only[ByteArray.size_append];omega
theorem EInv.write(h:EInv e)(b:ByteArray):EInv (xR e b):=by
 unfold xR;split;exact h;rename_i d;have a:=zfv e b;refine⟨by simp only[ByteArray.size_append];omega,Nat.le_trans h.t1 a,h.l0,h.l1,h.m1,h.k0,h.k1,λx c=>?_,h.s,h.c,h.cm,h.ll⟩;have:=h.ls x c;exact⟨this.1,this.2.1,this.2.2.1,Nat.le_trans this.2.2.2 a⟩
def xH(e:En)(n:Int):Int:=if n<0 then 1 else Cx.qx e.c (Sx.takeN e.s n:Nat)
def jR(e:En)(n:Int):ByteArray:=if xH e n=0 then strOfNums (Sx.xQ e.s n)else nilB
def qg(e:En)(n:Int):En:=if xH e n=0 then{e with s:=Sx.zm e.s n,c:=Cx.xM e.c (Sx.takeN e.s n:Nat)}else e
theorem EInv.read(h:EInv e)(n:Int):EInv (qg e n):=by
 unfold qg;split;exact ⟨h.d60,h.t1,h.l0,h.l1,h.m1,h.k0,h.k1,h.ls,h.s.take n,h.c.get _,h.cm,h.ll⟩;exact h
def z8(d:ByteArray)(b:Nat):Nat->Nat->List (Nat×ByteArray)
 |0,_=>[]
 |n+1,a=>if a<b then(a,d.extract a (min b (a+20)))::z8 d b n (min b (a+20))else[]
def pieces(e:En):List (Nat×ByteArray):=z8 e.d (en e) 3 e.t
theorem VG(d:ByteArray)(b:Nat):∀n,z8 d b n b=[]
 |0=>rfl
 |n+1=>by simp[z8]
theorem yO(d:ByteArray)(b:Nat):∀n a,(z8 d b n a).length<=n
 |0,_=>by simp[z8]
 |n+1,a=>by
  simp only[z8]
  split
  .simpa using yO d b n _
  .simp
theorem Zk(d:ByteArray)(b:Nat)(c:b<=d.size):∀n a,∀p∈z8 d b n a,a<=p.1/\p.1+p.2.size<=b/\1<=p.2.size/\p.2.size<=20
 |0,_,p,h=>by simp[z8]at h
 |n+1,a,p,h=>by
  simp only[z8]at h
  split at h
  .rename_i e
   rcases List.mem_cons.1 h with rfl|h
   .simp only[ByteArray.size_extract]
    omega
   .have:=Zk d b c n _ p h
    omega
  .simp at h
def qK(p:Nat×ByteArray):F:=(3,[(p.1:Int)],p.2)
def qO(e:En):List F:=(if e.cm=[]then[]else[(2,zK e.cm,nilB)])++(4,[e.c.lim],nilB)::(pieces e).map qK
def xV(e:En):Int:=vX e.m e.k (qO e)
def qP(e:En):ByteArray:=if xV e=0 then xw e.m e.k (qO e)else nilB
def pk(e:En):Nat×Nat:=if e.t<en e then(e.t,en e)else(0,0)
def jC(G:List Ld)(m a b:Nat):List Ld:=match G.getLast? with
 |none=>[⟨m,m,a,b⟩]
 |some x=>if x.a=a/\x.b=b then G.dropLast++[⟨x.lo,m,a,b⟩]else G++[⟨m,m,a,b⟩]
def q9(e:En):En:=if xV e=0 then{e with ls:=jC e.ls e.m (pk e).1 (pk e).2,m:=e.m+1}else e
theorem dM(h:EInv e):((pk e).1<(pk e).2\/((pk e).1=0/\(pk e).2=0))/\(pk e).1<=e.t/\(pk e).2<=en e:=by
 unfold pk;split;exact ⟨.inl ‹_›,Nat.le_refl _,Nat.le_refl _⟩;exact ⟨.inr ⟨rfl,rfl⟩,Nat.zero_le _,Nat.zero_le _⟩
variable {b:Nat}
theorem ziq{G:List Ld}{m a:Nat}{x:Ld}(h:x∈jC G m a b):(x.hi=m/\x.a=a/\x.b=b)\/x∈G:=by
 unfold jC at h;split at h;simp at h;subst h;exact .inl ⟨rfl,rfl,rfl⟩;split at h;rcases List.mem_append.1 h with h|h;exact .inr (List.dropLast_subset _ h);simp at h;subst h;exact .inl ⟨rfl,rfl,rfl⟩;rcases List.mem_append.1 h with h|h;exact .inr h;simp at h;subst h;exact .inl ⟨rfl,rfl,rfl⟩
theorem zin(G:List Ld)(m a b:Nat):(jC G m a b).length<=G.length+1:=by
 unfold jC;split;show 1<=_;omega
 .split
  .rw [List.length_append,List.length_dropLast]
   show G.length-1+1<=_
   omega
  .rw [List.length_append]
   show G.length+1<=_
   omega
theorem aN(h:xV e=0):e.m<=1073741823:=by
 obtain⟨a,_⟩:=Zl h;obtain⟨_,b,_⟩:=U.wL a;omega
theorem EInv.make(h:EInv e):EInv (q9 e):=by
 unfold q9;split;rename_i f;have i:=aN f;have a:=dM h;refine⟨h.d60,h.t1,h.l0,h.l1,by simp only;omega,h.k0,by have:=h.k1;simp only;omega,λx b=>?_,h.s,h.c,h.cm,Nat.le_trans (zin _ _ _ _) (by have:=h.ll;simp only;omega)⟩;rcases ziq b with⟨g,c,d⟩|b;refine ⟨by simp only;omega,by rw[c,d];exact a.1,by rw[c];exact a.2.1,by rw[d];exact a.2.2⟩;have:=h.ls x b;exact⟨by have:=this.1;simp only;omega,this.2.1,this.2.2.1,this.2.2.2⟩
 exact h
def qy(G:List Ld)(t:Nat)(r:R):Nat:=G.foldl (λt x=>if(x.hi:Int)<r.1\/r.2<(x.lo:Int)then t else max t x.b) t
def tells(G:List Ld)(t:Nat)(a:List R):Nat:=a.foldl (qy G) t
theorem Vt{ls:List Ld}(r:R):∀t,t<=b->(∀x∈ls,x.b<=b)->t<=qy ls t r/\qy ls t r<=b:=by
 unfold qy
 induction ls with
 |nil=>intro t h _;exact⟨Nat.le_refl _,h⟩
 |cons x ls d=>
  intro t h a;simp only[List.foldl_cons];have e:=a x List.mem_cons_self;split;exact d t h λy c=>a y (List.mem_cons_of_mem _ c);have:=d (max t x.b) (by omega) λy c=>a y (List.mem_cons_of_mem _ c);omega
theorem iA{G:List Ld}(d:∀x∈G,x.b<=b):∀(a:List R) t,t<=b->t<=tells G t a/\tells G t a<=b:=by
 intro a
 unfold tells
 induction a with
 |nil=>intro t h;exact⟨Nat.le_refl _,h⟩
 |cons r a e=>
  intro t h;simp only[List.foldl_cons];have c:=Vt (ls:=G) r t h d;have f:=e (qy G t r) c.2;omega
def first(M:List Int):Int:=M[0]?.getD 0
def zn(e:En)(f:F):Int×En:=
  if f.1=2 then(if(e.m:Int)<=first f.2.1 then(6,e)else(0,{e with k:=max e.k (first f.2.1),t:=tells e.ls e.t (zR f.2.1)}))
  else if f.1=4 then(0,{e with l:=max e.l (first f.2.1)})
  else if f.1=3 then
    (if Cx.qh e.c (first f.2.1+f.2.2.size)≠0 then(Cx.qh e.c (first f.2.1+f.2.2.size),e)
     else(Sx.xg e.s (first f.2.1) f.2.2,{e with c:=Cx.zm e.c (first f.2.1+f.2.2.size),s:=Sx.xY e.s (first f.2.1) f.2.2}))
  else(3,e)
def runF:List F->En->Int×En
 |[],e=>(0,e)
 |f::a,e=>if(zn e f).1≠0 then zn e f else runF a (zn e f).2
def zU(e:En):Int:=match e.cm with
 |[]=>0
 |r::_=>r.2+1
def qU(a:List R)(n:Int):List R:=qR (n,n) false a
def come(e:En)(n:Int)(a:List F):Int×En:=
 if xD e.cm n=true then(0,e)
 else if(runF a e).1≠0 then((runF a e).1,e)
 else if 12<(qU e.cm n).length then(4,e)
 else(0,{(runF a e).2 with cm:=qU e.cm n})
def qD(e:En)(b:ByteArray):Int×En:=
 if xO b (zU e)≠0 then(xO b (zU e),e)
 else match xZ b (zU e)with
 |none=>(2,e)
 |some (n,a)=>come e n a
theorem zgc{M:List Int}(h:qp M):0<=first M/\first M<=1073741823:=by
 cases M with
 |nil=>simp[first]
 |cons a M=>
  have:=h a List.mem_cons_self;simp[first]at this |-;omega
theorem EInv.stp(h:EInv e){f:F}(d:fF f=0):EInv (zn e f).2:=by
 obtain⟨i,j,k,c,m,n⟩:=kV d;have q:=zgc c;unfold Go.Proofs.YtdokgalidhmbbaaGreatDoor.zn;split
 .split
  .exact h
  .rename_i p
   have g:=iA (λx a=>(h.ls x a).2.2.2) (zR f.2.1) e.t h.t1
   refine⟨h.d60,g.2,h.l0,h.l1,h.m1,by have:=h.k0;simp only;omega,by have:=h.k1;simp only;omega,λx a=>?_,h.s,h.c,h.cm,h.ll⟩
   have:=h.ls x a
   exact⟨this.1,this.2.1,by simp only;omega,this.2.2.2⟩
 .split
  .have b:en e<=en {e with l:=max e.l (first f.2.1)}:=by unfold en;simp only;omega
   refine⟨h.d60,Nat.le_trans h.t1 b,by have:=h.l0;simp only;omega,by have:=h.l1;simp only;omega,h.m1,h.k0,h.k1,λx a=>?_,h.s,h.c,h.cm,h.ll⟩
   have:=h.ls x a
   exact⟨this.1,this.2.1,this.2.2.1,Nat.le_trans this.2.2.2 b⟩
  .split
   .split
    .exact h
    .exact ⟨h.d60,h.t1,h.l0,h.l1,h.m1,h.k0,h.k1,h.ls,h.s.put _ _,h.c.take _,h.cm,h.ll⟩
   .exact h
theorem EInv.runF:∀(a:List F) {e:En},EInv e->(∀f∈a,fF f=0)->EInv (runF a e).2
 |[],e,h,_=>h
 |f::a,e,h,b=>by
  have c:=h.stp (b f List.mem_cons_self)
  simp only[Go.Proofs.YtdokgalidhmbbaaGreatDoor.runF]
  split
  .exact c
  .exact EInv.runF a c λg d=>b g (List.mem_cons_of_mem _ d)
theorem Qn{b:List R}(h:xC b=0):jK (qU b n)/\(∀k,Mem (qU b n) k↔Mem b k\/k=n):=by
 obtain⟨_,_,c⟩:=(x9 b).1 h;obtain⟨d,e⟩:=WF b (n,n) (Int.le_refl _) c;refine⟨d,λk=>?_⟩;show Mem (qR _ _ _) k↔_;rw[e k];constructor;rintro (a|a);exact .inr (by simp only at a;omega);exact .inl a;rintro (a|rfl);exact .inr a;exact .inl ⟨Int.le_refl _,Int.le_refl _⟩
theorem WK{a J:List R}(h:xC a=0)(c:jK J)(b:∀k,Mem J k↔Mem a k\/k=n):J=qU a n:=
 bD c (Qn h).1 λk=>(b k).trans ((Qn h).2 k).symm
theorem J2{c:List R}(h:xC c=0)(hn:qC n=true)(l:(qU c n).length<=12):xC (qU c n)=0:=by
 obtain⟨_,i,_⟩:=(x9 c).1 h;obtain⟨g,m⟩:=Qn (n:=n) h;have e:∀k,Mem (qU c n) k->0<=k/\k<=1073741823:=λk j=>by
  rcases(m k).1 j with⟨r,d,a,b⟩|rfl;have:=i r d;omega;exact (wC k).1 hn
 refine(x9 _).2 ⟨l,λr d=>?_,g⟩;have f:=kG g r d;have a:=e r.1 ⟨r,d,Int.le_refl _,f⟩;have b:=e r.2 ⟨r,d,f,Int.le_refl _⟩;exact⟨a.1,b.2⟩
theorem EInv.come(h:EInv e)(d:qC n=true){b:List F}(c:∀f∈b,fF f=0):EInv (come e n b).2:=by
 have a:=h.runF b c;unfold Go.Proofs.YtdokgalidhmbbaaGreatDoor.come;split;exact h
 .split
  .exact h
  .split
   .exact h
   .exact ⟨a.d60,a.t1,a.l0,a.l1,a.m1,a.k0,a.k1,a.ls,a.s,a.c,J2 h.cm d (by omega),a.ll⟩
end Go.Proofs.YtdokgalidhmbbaaGreatDoor
namespace Go.Proofs.YtdokgalidhmbbaaGreatDoor
open Go.RowKit Go.Lib Go.Sort
open Sx (zP)
variable {n:Nat}
theorem Off.row{K:Nat->Prop}{w E:World}(h:Off K w E){B e c:Nat}{v:Value}{d:List Value}(b:w.ownsRow B e c v n d)(hn:∀k,v.ownBlock=some k->¬K k):E.ownsRow B e c v n d:=by
 refine⟨b.1,?_⟩;rcases b.2 with j|⟨g,f,i,rfl,l,a,m⟩;exact .inl j;exact .inr ⟨g,f,i,rfl,l,(h.block g (Array.getElem?_eq_some_iff.1 a).1 (hn g rfl)).trans a,m⟩
def row(n:Nat)(f:Nat->Value):List Value:=(List.range n).map f
theorem qM(n:Nat)(f:Nat->Value):(row n f).length=n:=by simp[row]
variable {f:Nat->Value}
theorem JB{i:Nat}(h:i<n):(row n f)[i]? =some (f i):=by simp[row,h]
theorem JC{i:Nat}{v:Value}(h:(row n f)[i]? =some v):i<n/\v=f i:=by
 have a:i<n:=by
  have:=(List.getElem?_eq_some_iff.1 h).1;rwa[qM]at this
 rw[JB a]at h;exact⟨a,(Option.some.inj h).symm⟩
theorem row_one(h:∀i,i<n->(f i).oneCell'=true):(row n f).toArray.all (·.oneCell')=true:=
 all_oneCell_toArray λv b=>by
  obtain⟨i,a,rfl⟩:=List.mem_map.1 b
  exact h i (by simpa using a)
def zY(s:Sx.St)(i:Nat):Value:=if i<60 then .int .u8 (s.byt i)else if i<120 then .bool (s.cm (i-60))else .int .i64 s.tk
def zZ(c:Cx.St)(i:Nat):Value:=if i=0 then .int .i64 c.win else if i=1 then .int .i64 c.lim else if i=2 then .int .i64 c.came else .int .i64 c.read
def zM(e:En)(C A:Value)(i:Nat):Value:=
 if i<60 then .int .u8 (zP e.d i)else if i=60 then .int .i64 e.d.size else if i<121 then .bool (decide (i-61<e.t))else if i=121 then .int .i64 e.l else if i=122 then .int .i64 e.m
 else if i=123 then .int .i64 e.k else if i=124 then C else if i<246 then zY e.s (i-125)else if i<250 then zZ e.c (i-246)else A
section
variable {e : En} {vl vc : Value}
variable {i:Nat}
theorem YW(h:i<60):zM e vl vc i=.int .u8 (zP e.d i):=if_pos h
theorem YX:zM e vl vc 60=.int .i64 e.d.size:=rfl
theorem QN(h:i<60):zM e vl vc (61+i)=.bool (decide (i<e.t)):=by
 unfold zM;rw[if_neg (by omega),if_neg (by omega),if_pos (by omega),show 61+i-61=i by omega]
theorem zfo:zM e vl vc 121=.int .i64 e.l:=rfl
theorem y9:zM e vl vc 122=.int .i64 e.m:=rfl
theorem YV:zM e vl vc 123=.int .i64 e.k:=rfl
theorem y8:zM e vl vc 124=vl:=rfl
theorem QM(h:i<121):zM e vl vc (125+i)=zY e.s i:=by
 unfold zM;rw[if_neg (by omega),if_neg (by omega),if_neg (by omega),if_neg (by omega),if_neg (by omega),if_neg (by omega),if_neg (by omega),if_pos (by omega),show 125+i-125=i by omega]
theorem Jn(h:i<4):zM e vl vc (246+i)=zZ e.c i:=by
 unfold zM;rw[if_neg (by omega),if_neg (by omega),if_neg (by omega),if_neg (by omega),if_neg (by omega),if_neg (by omega),if_neg (by omega),if_neg (by omega),if_pos (by omega),show 246+i-246=i by omega]
theorem vw:zM e vl vc 250=vc:=rfl
end
variable {s:Sx.St}
theorem Qb{i:Nat}(h:i<60):zY s i=.int .u8 (s.byt i):=if_pos h
theorem Qc{i:Nat}(h:i<60):zY s (60+i)=.bool (s.cm i):=by
 unfold zY;rw[if_neg (by omega),if_pos (by omega),show 60+i-60=i by omega]
theorem zrk:zY s 120=.int .i64 s.tk:=rfl
theorem Qd(s:Sx.St)(i:Nat):(zY s i).oneCell'=true:=by
 unfold zY;split;.rfl
 split<;>rfl
theorem ZE(c:Cx.St)(i:Nat):(zZ c i).oneCell'=true:=by
 unfold zZ;split;.rfl
 .split
  .rfl
  .split<;>rfl
theorem XH{e:En}{C A:Value}(a:C.oneCell'=true)(b:A.oneCell'=true)(i:Nat):(zM e C A i).oneCell'=true:=by
 unfold zM;split;.rfl
 split;.rfl
 split;.rfl
 split;.rfl
 split;.rfl
 split;.rfl
 split;exact a;split;exact Qd _ _;split;exact ZE _ _;exact b
def jb(x:Ld):List Value:=.int .i64 x.lo:: .int .i64 x.hi::row 60 (λi=>.bool (decide (x.a<=i/\i<x.b)))
theorem Z9(x:Ld):(jb x).length=62:=by simp[jb,qM]
def qf(G:List Ld):List Value:=G.flatMap jb
theorem Yz:∀G:List Ld,(qf G).length=G.length*62
 |[]=>rfl
 |x::G=>by
  show(jb x++qf G).length=_
  rw[List.length_append,Z9,Yz G,List.length_cons]
  omega
theorem Yy(a b:List Ld):qf (a++b)=qf a++qf b:=by simp[qf]
theorem QX:∀(G:List Ld) (j i:Nat) (b:j<G.length),i<62->(qf G)[j*62+i]? =(jb G[j])[i]?
 |[],j,i,h,_=>by simp at h
 |x::G,0,i,_,a=>by
  show(jb x++qf G)[0*62+i]? =_
  rw[List.getElem?_append_left (by rw[Z9];omega)]
  simp
 |x::G,j+1,i,b,a=>by
  show(jb x++qf G)[(j+1)*62+i]? =_
  rw[List.getElem?_append_right (by rw[Z9];omega),Z9,show(j+1)*62+i-62=j*62+i by omega,QX G j i (by simpa using b) a]
  rfl
def qz(o:Nat)(C A:Value)(k:Nat):Prop:=k=o\/C.ownBlock=some k\/A.ownBlock=some k
structure EO(w:World)(B eb:Nat)(vl vc:Value)(e:En):Prop where
 inv:EInv e
 cl:∀i,i<251->w.cell? ⟨eb,i,none⟩=some (zM e vl vc i)
 fz:∀i,w.frozen? ⟨eb,i,none⟩=false
 hs:B<=eb
 ld:w.ownsRow B 241 62 vl e.ls.length (qf e.ls)
 cm:w.ownsRow B 143 2 vc e.cm.length (flat e.cm)
 ap:vl.ownBlock≠some eb/\vc.ownBlock≠some eb
section
variable {w w' : World} {B eb : Nat} {vl vc : Value} {e : En}
theorem EO.lt(h:EO w B eb vl vc e):eb<w.heap.size:=World.block_lt_of_cell? w _ (h.cl 60 (by omega))
theorem EO.own_lt(h:EO w B eb vl vc e){k:Nat}(a:qz eb vl vc k):B<=k/\k<w.heap.size:=by
 rcases a with rfl|a|a;exact ⟨h.hs,h.lt⟩;exact h.ld.lt k a;exact h.cm.lt k a
theorem EO.off{K:Nat->Prop}(h:EO w B eb vl vc e)(b:Off K w w')(a:∀k,qz eb vl vc k->¬K k):EO w' B eb vl vc e:=
 ⟨h.inv,λi d=>b.cell (h.cl i d) (a eb (.inl rfl)),λi=>(b.frozen (p:=⟨eb,i,none⟩) h.lt (a eb (.inl rfl))).trans (h.fz i),h.hs,
  b.row h.ld λk c=>a k (.inr (.inl c)),b.row h.cm λk c=>a k (.inr (.inr c)),h.ap⟩
theorem EO.below(h:EO w B eb vl vc e)(a:Below w.heap.size w w'):EO w' B eb vl vc e:=h.off (Off.of_below (K:=λ_=>False) a) λ_ _=>id
theorem EO.told(h:EO w B eb vl vc e)(i:Nat)(a:i<60):w.cell? ⟨eb,61+i,none⟩=some (.bool (decide (i<e.t))):=by rw[h.cl _ (by omega),QN a]
theorem EO.sy(h:EO w B eb vl vc e):Sy.Obj w eb e.s:=
 ⟨h.inv.s,λi a=>by rw[h.cl _ (by omega),QM (by omega),Qb a],λi a=>by rw[h.cl _ (by omega),show 185+i=125+(60+i) by omega,QM (by omega),Qc a],h.cl 245 (by omega),λi _=>h.fz _,λi _=>h.fz _⟩
theorem EO.cy(h:EO w B eb vl vc e):Cy.Obj w eb e.c:=
 ⟨h.inv.c,h.cl 246 (by omega),h.cl 247 (by omega),h.cl 248 (by omega),h.cl 249 (by omega),h.fz _⟩
theorem EO.ones(h:EO w B eb vl vc e):vl.oneCell'=true/\vc.oneCell'=true:=by
 constructor;rcases h.ld.2 with⟨e,_⟩|⟨g,a,b,e,_⟩<;>rw[e]<;>rfl
 rcases h.cm.2 with⟨e,_⟩|⟨g,a,b,e,_⟩<;>rw[e]<;>rfl
end
def Turn(w E:World)(B o:Nat)(C A:Value)(e:En):Prop:=
 ∃b a,EO E B o b a e/\Off (qz o C A) w E/\∀k,qz o b a k->qz o C A k\/w.heap.size<=k
theorem EO.new{n:Int}(c:Cx.vL n=true)(w:World){B:Nat}(a:B<=w.heap.size):EO (w.alloc (.cells (row 251 (zM (zi n) (.slice none 0 0) (.slice none 0 0))).toArray 104)) B w.heap.size (.slice none 0 0) (.slice none 0 0) (zi n):=
 ⟨EInv.new c,λi b=>by simp[row,b],λi=>by simp,a,World.ownsRow_nil _ _ _ _,World.ownsRow_nil _ _ _ _,by simp[Value.ownBlock]⟩
theorem VS(w:World)(t:TypeId)(n:Nat)(f:Nat->Value):(w.alloc (.cells (row n f).toArray t)).rangeAt w.heap.size 0 (row n f):=λj v b=>by
 obtain⟨a,rfl⟩:=JC b
 simp[row,a]
end Go.Proofs.YtdokgalidhmbbaaGreatDoor
namespace Go.Proofs.YtdokgalidhmbbaaGreatDoor
open Go.RowKit Go.Lib Go.Sort
open Sx (zP)
theorem ZO{b:Func}{p:Tmp}{d:TypeId}(h:b.results=#[.cell p d])(c:Array Value)(P:Program)(w:World):
  (results b c).run P w=((asAddr (c.getD p undef)).run P w).andThen λa e=>(loadVar d a).run P e:=by
 simp only[results,h];simp[Sem.run_bind,Result.andThen]
theorem zbn(d:ByteArray)(i:Nat):zP d i=(V.ints d)[i]?.getD 0:=by
 unfold zP V.ints;rw[List.getElem?_map,Array.getElem?_toList];cases d.data[i]? <;>rfl
theorem zr4{d:ByteArray}{a b:Nat}(f:b<=d.size):strOfNums ((List.range (b-a)).map λi=>zP d (a+i))=d.extract a b:=by
 have e:((List.range (b-a)).map λi=>zP d (a+i))=V.ints (d.extract a b):=by
  rw[kX];apply List.ext_getElem?;intro i;rw[List.getElem?_map,List.getElem?_take,List.getElem?_drop];by_cases h:i<b-a;rw [if_pos h,List.getElem?_range h];have c:a+i<(V.ints d).length:=by rw[zg];omega
  rw[Option.map_some,zbn,List.getElem?_eq_getElem c];rfl;rw [if_neg h,List.getElem?_eq_none (by simpa using h)];rfl
 rw[e];exact V.ZT _
end Go.Proofs.YtdokgalidhmbbaaGreatDoor
namespace Go.Proofs.YtdokgalidhmbbaaGreatDoor
open Go.RowKit Go.Lib Go.Sort
def zz(l:List (Nat×ByteArray)):List Value:=l.flatMap λp=>[.int .i64 p.1,.string p.2]
theorem VC(a b:List (Nat×ByteArray)):zz (a++b)=zz a++zz b:=by simp[zz]
theorem wm:∀(l:List (Nat×ByteArray)) (j:Nat) (a:j<l.length),(zz l)[j*2]? =some (.int .i64 (l[j].1:Int))/\(zz l)[j*2+1]? =some (.string l[j].2)
 |[],j,h=>by simp at h
 |p::l,0,_=>by simp[zz]
 |p::l,j+1,a=>by
  have i:=wm l j (by simpa using a)
  have e:(j+1)*2=j*2+1+1:=by omega
  rw[e]
  simpa[zz]using i
theorem VE{l:List (Nat×ByteArray)}:∀u,u∈zz l->u.oneCell'=true:=by
 intro u a;obtain⟨p,_,h⟩:=List.mem_flatMap.1 a;simp at h;rcases h with rfl|rfl<;>rfl
theorem Yp:(Tryz.prog.info? 146).map (λi=>(i.zero,i.size,i.bytes))=some (some (.agg #[.int .i64 0,.string {data:=#[]}]),2,24):=by kernel_rfl
theorem VD(w:World)(a:Nat)(s:ByteArray)(j:Nat)(u:Value)(hu:(zz [(a,s)])[j]? =some u):(w.alloc (.cells #[.int .i64 a,.string s] 146)).cell? ((⟨w.heap.size,0,none⟩:Addr).add j)=some u:=by
 match j,hu with
 |0,hu=>simp[zz]at hu;subst hu;rw[Addr.add_lit];simp
 |1,hu=>simp[zz]at hu;subst hu;rw[Addr.add_lit];simp
 |j+2,hu=>simp[zz]at hu
variable {w:World}
theorem qL{T e f:Nat}{v:Value}{n:Nat}{K:List Value}(h:w.ownsRow T e f v n K):∃a c,v=.slice a n c:=by
 rcases h.2 with⟨rfl,d⟩|⟨g,b,i,rfl,_⟩;exact ⟨none,0,by rw[d]⟩;exact ⟨_,b,rfl⟩
variable {b:Nat}
theorem cell_kept{W a:World}{c:Option Nat}{o:Nat}{v:Value}(h:W.cell? ⟨b,o,none⟩=some v)(d:W.grownBy a c)(e:b<W.heap.size)(f:some b≠c):a.cell? ⟨b,o,none⟩=some v:=by
 rw[<-h];unfold World.cell?;rw[d.block b e f]
theorem toList_some{s:ByteArray}(h:s.size≠0):s.toList.isEmpty=false:=by
 rw[ByteArray.toList_eq]
 obtain⟨⟨l⟩⟩:=s
 cases l with
 |nil=>exact absurd rfl h
 |cons b r=>rfl
theorem zf9{d:ByteArray}{a:Nat}(h:b<=a):d.extract a b={data:=#[]}:=by
 have:(d.extract a b).size=0:=by rw[ByteArray.size_extract];omega
 apply ByteArray.ext;exact Array.eq_empty_of_size_eq_zero this
theorem Yl{a:List R}(h:xC a=0)(c:a≠ []):fF (2,zK a,nilB)=0:=by
 have b:=(x9 a).1 h;have d:a.length≠0:=λe=>c (List.eq_nil_of_length_eq_zero e);refine yg rfl ?_ (λ_=>rfl) (WA b) (show 0<=20 by omega) (λ_=>by rw[Zn];exact b);have:=b.1;unfold zW;rw[if_pos rfl,yC];exact decide_eq_true ⟨by omega,by omega,by omega⟩
theorem KN{z:Int}(a:0<=z)(b:z<=1073741823):fF (4,[z],nilB)=0:=
 yg rfl rfl (λ_=>rfl) (λy hy=>by simp at hy;subst hy;omega) (show 0<=20 by omega) (λe=>by cases e)
theorem KP{p:Nat×ByteArray}(b:p.1<=60)(a:p.2.size<=20):fF (qK p)=0:=by
 show qX 3 [(p.1:Int)] p.2=0;exact yg rfl rfl (λe=>absurd rfl e) (λy hy=>by simp at hy;subst hy;omega) a (λe=>by cases e)
theorem zfy(b m d P:Nat)(J:List R)(w:World)(s:J.length=d)(z:d<=12)(U:b<w.heap.size)(r:Cells w b m J):
  Calls Tryz.prog 153 #[.slice (some ⟨b,m,none⟩) d P] w λe E=>∃n,e=.returned n/\OwnI E w.heap.size n (zK J)/\Below w.heap.size w E:=by
 have HL:=zC s;have B:=zC r;clear s r;go_enter Tryz.func153,Tryz.ntmps153
 go_wp2_with fail;go_loopw [3,8] (λv i wr=>∃k:Nat,k<=d/\i=.int .i64 k/\OwnI wr w.heap.size v (zK (J.take k))/\Below w.heap.size w wr) (λ_ i _=>d-(intOf i).toNat)
 case atStart=>exact⟨0,Nat.zero_le _,rfl,World.ownsRow_nil _ _ _ _,Below.refl _ _⟩
 case round=>
  obtain⟨k,C,rfl,hown,h⟩:=hrel;by_cases D:k<d
  .have Q:(k:Int)<(d:Int):=by omega
   have l:k<J.length:=by have:=HL.out;omega
   obtain⟨c0,c1⟩:=B.out.below U h k l;have HN:Hid (zK (J.take (k+1))=zK (J.take k)++[(at' J k).2,(at' J k).1]):=by
    show _=_;rw[take_at l,Qk];rfl
   have G:(zK (J.take k)).length<=24:=by rw[yC,List.length_take];omega
   clear l;generalize at' J k=y at*;obtain⟨g,f⟩:=y;simp only at c0 c1 HN;have F:Below w.heap.size w (wr.alloc (.cells #[.int .i64 g,.int .i64 f] 143)):=h.alloc h.size _;have t:=hown.alloc (.cells #[.int .i64 g,.int .i64 f] 143);have q:Hid (OwnI (wr.alloc (.cells #[.int .i64 g,.int .i64 f] 143)) w.heap.size u3 (zK (J.take k))):=t;have A:=h.size;have cs:=QC (wr.alloc (.cells #[.int .i64 g,.int .i64 f] 143)) f g
   rw[World.size_alloc]at cs;have x:Hid (∀j u,(qV [f,g])[j]? =some u->((wr.alloc (.cells #[.int .i64 g,.int .i64 f] 143)).alloc (.cells #[.int .i64 f,.int .i64 g] 3)).cell? ((⟨wr.heap.size+1,0,none⟩:Addr).add j)=some u):=cs;clear t hown cs;go_wp2_with (at_builtin;refine yz rfl (.tmp 12) (.tmp 17) rfl w.heap.size _ (zK (J.take k)) rfl (q.out.alloc _) ⟨wr.heap.size+1,0,none⟩ 2 2 [f,g] rfl rfl x.out (by simp;omega) (by simp;omega) ?_;intro n E o V)
   exact⟨⟨k+1,by omega,by go_num,by rw[HN.out];exact o,(F.alloc (by simp;omega) _).grown V (by simp;omega) (λj e=>(q.out.lt j e).1)⟩,by simp[intOf];omega⟩
  have Q:¬(k:Int)<(d:Int):=by omega
  obtain rfl:k=d:=by omega
  have p:Hid (J.take k=J):=by show _=_;rw[<-HL.out,List.take_length]
  rw[p.out]at hown;obtain⟨a,c,rfl⟩:=hown.shape;clear p;go_wp2_with fail;go_ret;exact⟨_,rfl,hown,h⟩
theorem zfx(v:Value)(J:List R)(w:World)(i:Row w v J)(f:J.length<=12)(d:J≠ []):
  Calls Tryz.prog 153 #[v] w λe E=>∃a,e=.returned a/\OwnI E w.heap.size a (zK J)/\Below w.heap.size w E:=by
 obtain⟨m,c,rfl,n,p,k⟩:=i;rcases k with h|⟨b,l,rfl,j,g⟩;exact absurd h d;exact zfy b l _ c J w rfl f j g
def zJ(f:Nat->Bool):List Value:=row 60 λi=>.bool (f i)
variable {f:Nat->Bool}
theorem Qv{i:Nat}(h:i<60):(zJ f)[i]? =some (.bool (f i)):=JB h
theorem kQ(f:Nat->Bool):(zJ f).length=60:=qM _ _
theorem zb0(f:Nat->Bool):(zJ f).toArray.all (·.oneCell')=true:=row_one λ_ _=>rfl
theorem zbz{g:Nat->Bool}(h:∀i,i<60->f i=g i):zJ f=zJ g:=by
 unfold zJ row;refine List.map_congr_left λi a=>?_;rw[h i (by simpa using a)]
theorem YZ(f g:Nat->Bool)(d:Nat)(w:World):∀a:List Nat,(∀i∈a,i<60)->(Op.eqItems (d+1) 4 1 (zJ f).toArray (zJ g).toArray a).run Tryz.prog w=.ok (a.all λi=>f i==g i) w
 |[],_=>rfl
 |i::a,h=>by
  have c:=h i List.mem_cons_self
  have b:Tryz.prog.plainKey 4=true:=by kernel_rfl
  have k:(Go.part 4 (zJ f).toArray (i*1)).run Tryz.prog w=.ok (.bool (f i)) w:=run_part_plain w b (by rw[Nat.mul_one,List.getElem?_toArray];exact Qv c)
  have l:(Go.part 4 (zJ g).toArray (i*1)).run Tryz.prog w=.ok (.bool (g i)) w:=run_part_plain w b (by rw[Nat.mul_one,List.getElem?_toArray];exact Qv c)
  have m:=run_equalIn_bool' (P:=Tryz.prog) w d 4 (f i) (g i) Tryz.underlying4
  simp only[Op.eqItems,Sem.run_bind,k,l,m,Result.andThen_ok,List.all_cons]
  cases n:f i==g i
  .simp
  .simpa using YZ f g d w a λj e=>h j (List.mem_cons_of_mem _ e)
theorem zhz:∃i,Tryz.prog.info? 4=some i/\Tryz.prog.cellsOf 4=1:=by
 have h:(Tryz.prog.info? 4).isSome=true:=by kernel_rfl
 obtain⟨i,a⟩:=Option.isSome_iff_exists.1 h;exact⟨i,a,by kernel_rfl⟩
theorem zfz(f g:Nat->Bool)(w:World):(binOp .eql 97 (.agg (zJ f).toArray) (.agg (zJ g).toArray)).run Tryz.prog w=.ok (.bool ((List.range 60).all λi=>f i==g i)) w:=by
 obtain⟨i,b,a⟩:=zhz;have d:Tryz.prog.underlying 97=some (.array 60 4):=by kernel_rfl
 have h:=run_equalIn_array (P:=Tryz.prog) w 9999 (zJ f).toArray (zJ g).toArray d b;rw[a,YZ f g 9998 w (List.range 60) (λj c=>by simpa using c)]at h;rw[run_eql_struct,h];rfl
def hadB(X:List (Nat×ByteArray))(i:Nat):Bool:=X.any λp=>decide (p.1<=i/\i<p.1+p.2.size)
theorem zhl{X:List (Nat×ByteArray)}{k:Nat}(h:k<X.length)(i:Nat):hadB (X.take (k+1)) i=(hadB (X.take k) i ||decide (X[k].1<=i/\i<X[k].1+X[k].2.size)):=by
 unfold hadB;rw[List.take_succ_eq_append_getElem h,List.any_append];simp
theorem Ym{d:ByteArray}{b:Nat}(g:b<=d.size)(i:Nat):∀n a,a<=b->b<=a+20*n->hadB (z8 d b n a) i=decide (a<=i/\i<b)
 |0,a,e,f=>by
  have:¬(a<=i/\i<b):=by omega
  simp[hadB,z8,this]
 |n+1,a,e,f=>by
  by_cases h:a<b
  .have j:=Ym g i n (min b (a+20)) (by omega) (by omega)
   simp only[z8,if_pos h]
   show(decide (a<=i/\i<a+(d.extract a (min b (a+20))).size) ||hadB (z8 d b n (min b (a+20))) i)=_
   rw[j,ByteArray.size_extract]
   by_cases c:a<=i/\i<b
   .rw [decide_eq_true c]
    by_cases k:i<min b (a+20)
    .rw [decide_eq_true (by omega)];rfl
    .rw [decide_eq_true (show min b (a+20)<=i/\i<b by omega),Bool.or_true]
   .rw [decide_eq_false c,decide_eq_false (by omega),decide_eq_false (by omega)];rfl
  .have:¬(a<=i/\i<b):=by omega
   simp[z8,h,hadB,this]
theorem zhm{e:En}(h:EInv e)(i:Nat):hadB (pieces e) i=decide ((pk e).1<=i/\i<(pk e).2):=by
 have a:=h.en60;unfold pieces;rw[Ym (ky e) i 3 e.t h.t1 (by omega)];unfold pk;split;.rfl
 rw [decide_eq_false (by omega),decide_eq_false (by omega)]
theorem zva(W:World):(zeroValue 97).run Tryz.prog W=.ok (.agg (zJ λ_=>false).toArray) W:=by kernel_rfl
structure Pl(w wr:World)(f:Nat->Bool):Prop where
 c:∀i,i<60->wr.cell? ⟨w.heap.size+1,i,none⟩=some (.bool (f i))
 z:∀i,wr.frozen? ⟨w.heap.size+1,i,none⟩=false
 t:wr.there w.heap.size 0 60
 b:Below w.heap.size w wr
 l:w.heap.size+1<wr.heap.size
theorem Pl.new(w:World):Pl w ((w.alloc (.cells (zJ λ_=>false).toArray 97)).alloc (.cells (zJ λ_=>false).toArray 97)) (λ_=>false):=by
 refine⟨λi a=>by simp[zJ,row,a],λi=>by simp,World.there_alloc (λj b=>?_) _,((Below.refl _ _).alloc (Nat.le_refl _) _).alloc (by simp) _,by simp⟩;simp[zJ,row,b]
theorem ZA{B b:Nat}{a:World}(d:B<=b):∀(c:List Value) (o:Nat) (w:World),Below B a w->Below B a (w.setCells b o c)
 |[],_,_,h=>h
 |v::c,o,w,h=>ZA d c (o+1) _ (h.setCell (p:=⟨b,o,none⟩) d v)
theorem Pl.alloc{a:World}(h:Pl w a f)(o:Go.Obj):Pl w (a.alloc o) f:=
 ⟨λi b=>(World.cell?_alloc_lt _ _ _ h.l).trans (h.c i b),λi=>(World.frozen?_alloc_past _ _ _ h.l).trans (h.z i),World.there_alloc h.t _,h.b.alloc h.b.size _,by rw[World.size_alloc];have:=h.l;omega⟩
theorem Pl.set{b:World}(h:Pl w b f){j:Nat}(m:j<60){g:Nat->Bool}(hg:∀i,i<60->g i=(f i ||decide (i=j))):Pl w (b.setCell ⟨w.heap.size+1,j,none⟩ (.bool true)) g:=by
 refine⟨λi a=>?_,λi=>by simpa using h.z i,λk l=>?_,h.b.setCell (p:=⟨w.heap.size+1,j,none⟩) (by show w.heap.size<=w.heap.size+1;omega) _,by simpa using h.l⟩;by_cases e:i=j;subst e;rw[hg i a,decide_eq_true rfl,Bool.or_true];exact World.cell?_setCell_same _ _ _ (h.c i a);rw [hg i a,decide_eq_false e,Bool.or_false,World.cell?_setCell_other _ _ _ _ (λe'=>by injection e' with _ e' _;exact e e'.symm)];exact h.c i a
 obtain ⟨c,d⟩:=h.t k l;refine⟨?_,by simpa using d⟩;rw[World.cell?_setCell_other _ _ _ _ (λe'=>by injection e' with e' _ _;omega)];exact c
theorem V9{o:Nat}(h:∀i,i<60->w.cell? ⟨b,o+i,none⟩=some (.bool (f i))):w.rangeAt b o (zJ f):=λj v c=>by
 obtain⟨a,rfl⟩:=JC c
 exact h j a
theorem yR:(Tryz.prog.info? 97).map (·.size)=some 60:=by kernel_rfl
theorem zj7{W:Array Oper}{d:List Oper}{c:Oper}{a:Act}{Q:Exit->Act->World->Prop}(g:c.guard=none)(x:Operand)(i:c.op=.load 97 x)
  (b o:Nat) (j:a.eval x=.pointer (some ⟨b,o,none⟩)) (e:w.rangeAt b o (zJ f)) (h:wpList Tryz.prog W Q d (a.put c.dst (.agg (zJ f).toArray)) w):wpList Tryz.prog W Q (c::d) a w:=
 wpList_load_mid g 97 x i b o j (zJ f) (.array 60 4) e (by kernel_rfl) rfl (by rw[kQ];exact yR) h
theorem zrx{W:Array Oper}{d:List Oper}{c:Oper}{a:Act}{Q:Exit->Act->World->Prop}(e:c.guard=none)(x y:Operand)(g:c.op=.store 97 x y)
  (b o:Nat) (j:a.eval x=.pointer (some ⟨b,o,none⟩)) (k:a.eval y=.agg (zJ f).toArray) (i:w.there b o 60) (h:wpList Tryz.prog W Q d (a.put c.dst undef) (w.setCells b o (zJ f))):wpList Tryz.prog W Q (c::d) a w:=
 wpList_store_mid e 97 x y g b o (zJ f).toArray j k (by simpa[kQ]using i) (by simpa[kQ]using yR) (zb0 f) (by simpa using h)
theorem zpb{a:Func}{p:Tmp}(h:a.results=#[.cell p 97]){c:Array Value}(e:c.getD p undef=.pointer (some ⟨b,0,none⟩))(d:w.rangeAt b 0 (zJ f)):
  (results a c).run Tryz.prog w=.ok (.agg (zJ f).toArray) w:=by
 rw[ZO h,e];have:=run_loadVar_mid (P:=Tryz.prog) w b 0 97 (zJ f) (.array 60 4) d (by kernel_rfl) rfl (by rw[kQ];exact yR);simp only[asAddr,Sem.run_pure,Result.andThen_ok,this]
theorem zng{h:Value}{B:Nat}{X:List (Nat×ByteArray)}(x:w.ownsRow B 146 2 h X.length (zz X))(Y:X.length<=3)(hpe:∀p∈X,p.1+p.2.size<=60):
  Cl 128 #[h] w (.agg (zJ (hadB X)).toArray):=by
 have P:=zC x;have K:=zC hpe;obtain⟨Q,U,y⟩:=qL x;have HVV:Hid (h=.slice Q X.length U):=y;rw[y];have hPl:Hid (Pl w ((w.alloc (.cells (zJ λ_=>false).toArray 97)).alloc (.cells (zJ λ_=>false).toArray 97)) (λ_=>false)):=Pl.new w;have hz:=zva;generalize(zJ λ_=>false).toArray=z at hPl hz;clear x hpe y;generalize V:X.length=m at HVV Y |-;have l:Hid (X.length=m):=V;clear V;go_enter Tryz.func128,Tryz.ntmps128
 go_wp2_with fail;generalize(w.alloc (.cells z 97)).alloc (.cells z 97)=W2 at*;clear hz;go_loopg [9] m (λgk s9 wr=>∃k:Nat,gk+k=m/\s9=.int .i64 k/\Hid (Pl w wr (hadB (X.take k))))
 case atStart=>exact⟨0,rfl,rfl,hPl.out⟩
 case round=>
  obtain⟨k,C,rfl,HP⟩:=hrel;have t:Hid (gk+k=m):=C;clear C;by_cases g:(k:Int)<(m:Int)
  .have f:k<X.length:=by have:=l.out;omega
   obtain⟨b,d,hv1,o⟩:∃b d,h=.slice (some ⟨b,0,none⟩) m d/\b<w.heap.size:=by
    rcases P.out.2 with⟨_,h0⟩|⟨b,d,a1,S,h2,T,_⟩;.omega
    exact ⟨b,d,by rw[S,l.out],(Array.getElem?_eq_some_iff.1 T).1⟩
   have Z:Value.slice Q m U=.slice (some ⟨b,0,none⟩) m d:=HVV.out.symm.trans hv1;injection Z with e1 e2 e3;subst e1 e3;have hvv:=P.out;rw[hv1,l.out]at hvv;have y0:=hvv.cellAt (k*2) (by omega);have y1:=hvv.cellAt (k*2+1) (by omega);rw[(wm X k f).1]at y0;rw[(wm X k f).2]at y1;have z0:=(HP.out.b.cell (p:=⟨b,k*2,none⟩) o).trans y0;have z1:=(HP.out.b.cell (p:=⟨b,k*2+1,none⟩) o).trans y1;have HN:Hid (∀i,hadB (X.take (k+1)) i=(hadB (X.take k) i ||decide (X[k].1<=i/\i<X[k].1+X[k].2.size))):=λi=>zhl f i
   have hpe:=K.out X[k] (List.getElem_mem f);clear hvv hv1 y0 y1;generalize X[k]=pp at*;clear f;obtain⟨p,s⟩:=pp;simp only at z0 z1 hpe HN;obtain⟨q,u⟩:∃q,hadB (X.take (k+1))=q:=⟨_,rfl⟩;rw[u]at HN;have J:Hid (hadB (X.take (k+1))=q):=u;clear u;generalize hadB (X.take k)=n at*;have HP0:Hid (Pl w (wr.alloc (.cells #[.int .i64 (p:Int),.string s] 146)) n):=HP.out.alloc _;have q0:(wr.alloc (.cells #[.int .i64 (p:Int),.string s] 146)).cell? ⟨wr.heap.size,0,none⟩=some (.int .i64 (p:Int)):=by simp
   have q1:(wr.alloc (.cells #[.int .i64 (p:Int),.string s] 146)).cell? ⟨wr.heap.size,1,none⟩=some (.string s):=by simp
   have D:w.heap.size+1≠wr.heap.size:=by have:=HP.out.l;omega
   have HNE:=zC D;clear HP D;go_wp2_with fail;generalize wr.alloc (.cells #[.int .i64 (p:Int),.string s] 146)=Wp at*;generalize wr.heap.size=G at*;go_loopg [16] s.size (λgk a0 wr=>∃j:Nat,gk+j=s.size/\a0=.int .i64 j/\wr.cell? ⟨G,0,none⟩=some (.int .i64 (p:Int))/\Hid (Pl w wr (λi=>n i ||decide (p<=i/\i<p+j))))
   case atStart=>exact⟨0,rfl,rfl,q0,(show Pl _ _ _ from⟨λi c=>by rw[HP0.out.c i c,decide_eq_false (by omega),Bool.or_false],HP0.out.z,HP0.out.t,HP0.out.b,HP0.out.l⟩)⟩
   case round=>
    obtain⟨j,A,rfl,q2,a⟩:=hrel;have r:Hid (gk+j=s.size):=A;clear A;by_cases g2:(j:Int)<(s.size:Int)
    .have a2:(p:Int)+(j:Int)<60:=by omega
     have u1:=Sx.wrap_small ((p:Int)+(j:Int)) (by omega) (by omega);have a3:=a.out.z (p+j);have W:=a.out.c (p+j) (by omega);have L:Hid (Pl w (wr.setCell ⟨w.heap.size+1,p+j,none⟩ (.bool true)) (λi=>n i ||decide (p<=i/\i<p+(j+1)))):=by
      refine a.out.set (j:=p+j) (by omega) λi c=>?_;by_cases e:i=p+j;rw [decide_eq_true e,Bool.or_true,decide_eq_true (by omega),Bool.or_true];rw [decide_eq_false e,Bool.or_false];congr 1
      by_cases e2:p<=i/\i<p+j;rw [decide_eq_true e2,decide_eq_true (by omega)];rw [decide_eq_false e2,decide_eq_false (by omega)]
     have q3:(wr.setCell ⟨w.heap.size+1,p+j,none⟩ (.bool true)).cell? ⟨G,0,none⟩=some (.int .i64 (p:Int)):=by
      rw[World.cell?_setCell_other _ _ _ _ (λe'=>by injection e' with e' _ _;exact HNE.out e')];exact q2
     clear a;generalize(n (p+j) ||decide (p<=p+j/\p+j<p+j))=bb at W;go_wp2_with fail;go_roundg (s.size-(j+1))
     case measure=>have:=r.out;omega
     case rel=>exact⟨j+1,by have:=r.out;omega,by go_num,q3,L⟩
    have I:Hid (Pl w wr q):=by
     have e:s.size=j:=by have:=r.out;omega
     refine⟨λi c=>?_,a.out.z,a.out.t,a.out.b,a.out.l⟩;rw[a.out.c i c,HN.out i,e]
    clear a;go_wp2_with fail;go_roundg (m-(k+1))
    case measure=>have:=t.out;omega
    case rel=>exact⟨k+1,by have:=t.out;omega,by go_num,by rw[J.out];exact I⟩
  have F:Hid (X.take k=X):=by show _=_;exact List.take_of_length_le (by have:=l.out;have:=t.out;omega)
  rw[F.out]at HP;have E:wr.rangeAt (w.heap.size+1) 0 (zJ (hadB X)):=V9 (λi c=>by rw[Nat.zero_add];exact HP.out.c i c);have N:=zC E;have O:Hid (wr.there w.heap.size 0 60):=HP.out.t;have M:Hid ((wr.setCells w.heap.size 0 (zJ (hadB X))).rangeAt w.heap.size 0 (zJ (hadB X))):=World.rangeAt_setCells_same _ _ _ _ (by rw[kQ];exact HP.out.t);have H:Hid (Below w.heap.size w (wr.setCells w.heap.size 0 (zJ (hadB X)))):=ZA (Nat.le_refl _) _ _ _ HP.out.b
  clear F HP E;go_wp2_with (first|(refine zj7 rfl (.tmp 3) rfl (w.heap.size+1) 0 rfl N.out ?_)|(refine zrx rfl (.tmp 2) (.tmp 26) rfl w.heap.size 0 rfl rfl O.out ?_));refine bodyPost_ret (v:=.agg (zJ (hadB X)).toArray) ?_ rfl ⟨rfl,H.out⟩;exact zpb rfl rfl M.out
end Go.Proofs.YtdokgalidhmbbaaGreatDoor
namespace Go.Proofs.YtdokgalidhmbbaaGreatDoor.Ez
open Go.RowKit Go.Lib Go.Sort
open Sx (zP)
variable {pz : Nat} {Qz : Nat -> Option Value}
theorem Qw{w E:World}{b i:Nat}(h:E.heap[b]? =w.heap[b]?):E.cell? ⟨b,i,none⟩=w.cell? ⟨b,i,none⟩:=by unfold World.cell?;rw[h]
structure EP(pz:Nat)(Qz:Nat->Option Value)(w:World)(B eb:Nat)(vl vc:Value)(e:En):Prop where
 inv:EInv e
 cl:∀i,i<251->w.cell? ⟨eb,pz+i,none⟩=some (zM e vl vc i)
 fz:∀i,w.frozen? ⟨eb,i,none⟩=false
 rs:∀i,(i<pz\/pz+251<=i)->w.cell? ⟨eb,i,none⟩=Qz i
 hs:B<=eb
 ld:w.ownsRow B 241 62 vl e.ls.length (qf e.ls)
 cm:w.ownsRow B 143 2 vc e.cm.length (flat e.cm)
 ap:vl.ownBlock≠some eb/\vc.ownBlock≠some eb
section
variable {w w' : World} {B eb : Nat} {vl vc : Value} {e : En}
theorem EP.lt(h:EP pz Qz w B eb vl vc e):eb<w.heap.size:=World.block_lt_of_cell? w _ (h.cl 60 (by omega))
theorem EP.own_lt(h:EP pz Qz w B eb vl vc e){k:Nat}(a:qz eb vl vc k):B<=k/\k<w.heap.size:=by
 rcases a with rfl|a|a;exact ⟨h.hs,h.lt⟩;exact h.ld.lt k a;exact h.cm.lt k a
theorem EP.le(h:EP pz Qz w B eb vl vc e):B<=w.heap.size:=by have:=h.hs;have:=h.lt;omega
theorem EP.off{K:Nat->Prop}(h:EP pz Qz w B eb vl vc e)(b:Off K w w')(a:∀k,qz eb vl vc k->¬K k):EP pz Qz w' B eb vl vc e:=
 ⟨h.inv,λi c=>b.cell (h.cl i c) (a eb (.inl rfl)),λi=>(b.frozen (p:=⟨eb,i,none⟩) h.lt (a eb (.inl rfl))).trans (h.fz i),λi c=>(Qw (b.block eb h.lt (a eb (.inl rfl)))).trans (h.rs i c),h.hs,
  b.row h.ld λk d=>a k (.inr (.inl d)),b.row h.cm λk d=>a k (.inr (.inr d)),h.ap⟩
theorem EP.below(h:EP pz Qz w B eb vl vc e)(a:Below w.heap.size w w'):EP pz Qz w' B eb vl vc e:=h.off (Off.of_below (K:=λ_=>False) a) λ_ _=>id
theorem EP.told(h:EP pz Qz w B eb vl vc e)(i:Nat)(a:i<60):w.cell? ⟨eb,pz+61+i,none⟩=some (.bool (decide (i<e.t))):=by rw[Nat.add_assoc,h.cl _ (by omega),QN a]
theorem EP.out(h:EP pz Qz w B eb vl vc e)(i:Nat)(a:i<60):w.cell? ⟨eb,pz+i,none⟩=some (.int .u8 (zP e.d i)):=by rw[h.cl _ (by omega),YW a]
theorem EP.crow(h:EP pz Qz w B eb vl vc e):Row w vc e.cm:=vY h.cm (by
 have:=((x9 e.cm).1 h.inv.cm).1
 omega)
theorem EP.ones(h:EP pz Qz w B eb vl vc e):vl.oneCell'=true/\vc.oneCell'=true:=by
 constructor;rcases h.ld.2 with⟨e,_⟩|⟨g,a,b,e,_⟩<;>rw[e]<;>rfl
 rcases h.cm.2 with⟨e,_⟩|⟨g,a,b,e,_⟩<;>rw[e]<;>rfl
end
variable {w:World}{B o:Nat}{C A:Value}{e:En}
theorem aD(h:EP pz Qz w B o C A e):Cs 154 #[.pointer (some ⟨o,pz+246,none⟩)] w (.int .i64 e.c.lim):=by
 have a:w.cell? ⟨o,pz+246+1,none⟩=some (.int .i64 e.c.lim):=h.cl 247 (by omega);generalize e.c.lim=z at a |-;go_enter Tryz.func154,Tryz.ntmps154
 go_wp2_with fail;go_ret;exact⟨rfl,rfl⟩
def TurnP(d:Nat)(c:Nat->Option Value)(w E:World)(B o:Nat)(C A:Value)(e:En):Prop:=
 ∃b a,EP d c E B o b a e/\Off (qz o C A) w E/\∀k,qz o b a k->qz o C A k\/w.heap.size<=k
theorem TurnP.below{E:World}(h:EP pz Qz w B o C A e)(a:Below w.heap.size w E):TurnP pz Qz w E B o C A e:=⟨C,A,h.below a,Off.of_below a,λ_ b=>.inl b⟩
theorem TurnP.same(h:EP pz Qz w B o C A e):TurnP pz Qz w w B o C A e:=⟨C,A,h,Off.refl _ _,λ_ a=>.inl a⟩
theorem TurnP.trans{f m:World}{d c:Value}{g:En}(t:EP pz Qz f B o d c e)(a:Off (qz o C A) w f)(i:∀k,qz o d c k->qz o C A k\/w.heap.size<=k)(n:TurnP pz Qz f m B o d c g):TurnP pz Qz w m B o C A g:=by
 obtain⟨s,r,q,b,p⟩:=n;refine⟨s,r,q,?_,λk h=>?_⟩;refine ⟨b.os.trans a.os,b.tape.trans a.tape,b.output.trans a.output,Nat.le_trans a.size b.size,λk j l=>?_⟩;rw[b.block k (Nat.lt_of_lt_of_le j a.size) (λe=>?_),a.block k j l];rcases i k e with h|h;exact l h;.omega
 rcases p k h with h|h;exact i k h;exact .inr (Nat.le_trans a.size h)
def jc(p T:Nat):Nat:=if 60=T then p else p+T
end Go.Proofs.YtdokgalidhmbbaaGreatDoor.Ez
