/- What the law RunAnswers needs. -/
import Derived.Test.YtdokgalidhmbbaaGreatDoorHM
import Derived.Test.YtdokgalidhmbbaaGreatDoorHV
import Derived.Test.YtdokgalidhmbbaaGreatDoorHR
import Derived.Laws.OwnMore
import Derived.OneCell
import Derived.BigRegionIn
import Derived.Sort.QuietIn
import Derived.RangeFuncCalls
set_option linter.unusedVariables false
set_option linter.unusedSimpArgs false
set_option maxRecDepth 100000
set_option maxHeartbeats 8000000
namespace Go.Proofs.YtdokgalidhmbbaaGreatDoor
open Go.RowKit Go.Lib
def Bytes(l:List Int):Prop:=∀z,z∈l->0<=z/\z<256
def qp(l:List Int):Prop:=∀z,z∈l->0<=z/\z<1073741824
theorem Zh(n:Int):((V.nums n).length:Int)=V.zy n:=by
 unfold V.nums V.zy;by_cases a:n<64;simp [a];by_cases b:n<16384;simp [a,b];simp [a,b]
theorem ze1(n:Int)(l:List Int):(V.nums n++l).drop (V.zy n).toNat=l:=by
 have h:=Zh n;have e:(V.zy n).toNat=(V.nums n).length:=by omega
 rw[e];simp
theorem zu(s:ByteArray):Bytes (V.ints s):=by
 intro z hz;simp only[V.ints,List.mem_map]at hz;obtain⟨b,_,rfl⟩:=hz;have:=b.toNat_lt;omega
variable {l:List Int}
theorem ji(h:Bytes l)(k:Nat):Bytes (l.drop k):=λz a=>h z (List.mem_of_mem_drop a)
theorem QS(a:Bytes l){n c:Int}(h:V.zL l=some (n,c)):V.zH n=true/\c=V.zy n/\l=V.nums n++l.drop c.toNat:=by
 match l,a,h with
 |[],a,h=>simp[V.zL]at h
 |e::r,a,h=>
  have s:=a e (by simp);by_cases b:e<64;simp [V.zL,b]at h;obtain⟨rfl,rfl⟩:=h;exact⟨by simp[V.zH];omega,by simp[V.zy,b],by simp[V.nums,b]⟩;by_cases f:e<128;match r,a,h with
  |[],a,h=>simp[V.zL,b,f]at h
  |d::r,a,h=>
   have q:=a d (by simp);simp[V.zL,b,f]at h;obtain⟨p,rfl,rfl⟩:=h;have g:¬e*256+d-16384<64:=by omega
   have i:e*256+d-16384<16384:=by omega
   refine⟨by simp[V.zH];omega,by simp[V.zy,g,i],?_⟩;simp[V.nums,g,i];omega
  by_cases m:e<192;match r,a,h with
  |d::j::k::r,a,h=>
   have q:=a d (by simp);have t:=a j (by simp);have u:=a k (by simp);simp[V.zL,b,f,m]at h;obtain⟨p,rfl,rfl⟩:=h;have g:¬((e*256+d)*256+j)*256+k-2147483648<64:=by omega
   have i:¬((e*256+d)*256+j)*256+k-2147483648<16384:=by omega
   refine⟨by simp[V.zH];omega,by simp[V.zy,g,i],?_⟩;simp[V.nums,g,i];omega
  |[],a,h=>simp[V.zL,b,f]at h
  |[d],a,h=>simp[V.zL,b,f]at h
  |[d,j],a,h=>simp[V.zL,b,f]at h
  simp [V.zL,b,f,m]at h
def rd:Nat->List Int->Option (List Int)
 |_,[]=>some []
 |0,_::_=>none
 |k+1,b::l=>match V.zL (b::l)with
  |none=>none
  |some x=>(rd k ((b::l).drop x.2.toNat)).map (x.1:: ·)
theorem Xw(k:Nat):rd k []=some []:=by cases k<;>rfl
theorem eU{k:Nat}(a:l≠ [])(h:V.zL l=none):rd k l=none:=by
 cases l with
 |nil=>exact absurd rfl a
 |cons b l=>cases k with
  |zero=>rfl
  |succ k=>simp[rd,h]
theorem rd_some{k:Nat}{n c:Int}(a:l≠ [])(h:V.zL l=some (n,c)):rd (k+1) l=(rd k (l.drop c.toNat)).map (n:: ·):=by
 cases l with
 |nil=>exact absurd rfl a
 |cons b l=>simp only[rd,h]
theorem zlj(n:Int):V.nums n≠ []:=by
 intro h;have h1:=Zh n;have a:=(V.Xa n).1;rw[h]at h1;simp at h1;omega
theorem xG(n:Int):V.zH n=true↔0<=n/\n<1073741824:=by simp[V.zH]
theorem Xv:∀(k:Nat) (l M:List Int),Bytes l->rd k l=some M->l=M.flatMap V.nums/\qp M/\M.length<=k:=by
 intro k
 induction k with
 |zero=>
  intro l M e h
  cases l with
  |nil=>rw[Xw]at h;cases h;exact⟨rfl,λz a=>by simp at a,by simp⟩
  |cons b l=>simp[rd]at h
 |succ k m=>
  intro l M e h;by_cases d:l=[];subst d;rw[Xw]at h;cases h;exact⟨rfl,λz a=>by simp at a,by simp⟩;cases hg:V.zL l with
  |none=>rw[eU d hg]at h;cases h
  |some x=>
   obtain⟨n,c⟩:=x
   rw[rd_some d hg]at h
   obtain⟨hm,q,j⟩:=QS e hg
   cases f:rd k (l.drop c.toNat)with
   |none=>rw[f]at h;cases h
   |some r=>
    rw[f]at h;cases h;obtain⟨g,i,p⟩:=m _ _ (ji e _) f;refine⟨by rw[List.flatMap_cons,<-g];exact j,λz a=>?_,by simp;omega⟩;rcases List.mem_cons.1 a with rfl|a;exact (xG _).1 hm;exact i z a
theorem eT:∀(M:List Int) (k:Nat),qp M->M.length<=k->rd k (M.flatMap V.nums)=some M:=by
 intro M
 induction M with
 |nil=>intro k _ _;exact Xw k
 |cons n M d=>
  intro k a hk;obtain⟨k,rfl⟩:∃j,k=j+1:=⟨k-1,by simp at hk;omega⟩;have b:V.zH n=true:=(xG n).2 (a n (by simp));rw[List.flatMap_cons,rd_some (by simp[zlj]) (V.zg4 n b _),ze1,d k (λz c=>a z (by simp[c])) (by simp at hk;omega)];rfl
def jZ:Int->List R->List Int
 |_,[]=>[]
 |p,r::a=>(p-r.2-2)::(r.2-r.1)::jZ r.1 a
def numsOf:List R->List Int
 |[]=>[]
 |r::a=>r.2::(a.length:Int)::(r.2-r.1)::jZ r.1 a
theorem Qe:∀(a:List R) (p:Int),(jZ p a).length=2*a.length
 |[],_=>rfl
 |r::a,p=>by simp only[jZ,List.length_cons,Qe a];omega
def pairs:Int->List Int->List R
 |c,a::b::d=>(c-a-2-b,c-a-2)::pairs (c-a-2-b) d
 |_,_=>[]
def jV:Int->List Int->Int
 |c,a::b::d=>jV (c-a-2-b) d
 |c,_=>c
def kH:List Int->Option (List R)
 |h::m::d::a=>if(a.length:Int)=2*m/\0<=jV (h-d) a then some ((h-d,h)::pairs (h-d) a)else none
 |_=>none
def parse(l:List Int):Option (List R):=(rd 25 l).bind kH
def enc(J:List R):List Int:=(numsOf J).flatMap V.nums
theorem cO:∀(a:List R) (p:Int),pairs p (jZ p a)=a
 |[],_=>rfl
 |r::a,p=>by
  have b:p-(p-r.2-2)-2=r.2:=by omega
  have c:r.2-(r.2-r.1)=r.1:=by omega
  simp only[jZ,pairs,b,c,cO a]
theorem Yv:∀(a:List R) (p:Int),0<=p->(∀r,r∈a->0<=r.1)->0<=jV p (jZ p a)
 |[],_,h,_=>h
 |r::a,p,h,b=>by
  have c:p-(p-r.2-2)-2-(r.2-r.1)=r.1:=by omega
  simp only[jZ,jV,c]
  exact Yv a r.1 (b r (by simp)) (λs d=>b s (by simp[d]))
theorem K8:∀(a:List R) (p:Int),p<=1073741823->(∀r,r∈a->0<=r.1/\r.2<=1073741823)->(∀r,r∈a->r.2+1<p)->jK a->qp (jZ p a)
 |[],_,_,_,_,_=>λz hz=>by simp[jZ]at hz
 |r::a,p,h,f,g,e=>by
  have b:=f r (by simp)
  have c:=g r (by simp)
  have d:=e.1
  intro z hz
  simp only[jZ,List.mem_cons]at hz
  rcases hz with rfl|rfl|hz
  .omega
  .omega
  .exact K8 a r.1 (by omega) (λs i=>f s (by simp[i])) e.2.1 e.2.2 z hz
variable {J:List R}
theorem Xc(h:Good J):qp (numsOf J):=by
 cases J with
 |nil=>intro z hz;simp[numsOf]at hz
 |cons r g=>
  obtain⟨e,c,a⟩:=h;have b:=c r (by simp);have d:=a.1;simp only[List.length_cons]at e;intro z hz;simp only[numsOf,List.mem_cons]at hz;rcases hz with rfl|rfl|rfl|hz;.omega
  .omega
  .omega
  exact K8 g r.1 (by omega) (λs f=>c s (by simp[f])) a.2.1 a.2.2 z hz
theorem numsOf_length(h:Good J):(numsOf J).length<=25:=by
 cases J with
 |nil=>simp[numsOf]
 |cons r b=>
  have a:=h.1;simp only[List.length_cons]at a;simp only[numsOf,List.length_cons,Qe];omega
theorem zl4(h:Good J)(c:J≠ []):kH (numsOf J)=some J:=by
 cases J with
 |nil=>exact absurd rfl c
 |cons r e=>
  have a:r.2-(r.2-r.1)=r.1:=by omega
  have b:=h.2.1 r (by simp);simp only[numsOf,kH,a,cO,Qe];rw[if_pos ⟨by omega,Yv e r.1 b.1 (λs d=>(h.2.1 s (by simp[d])).1)⟩]
theorem zl0:∀(k:Nat) (d:List Int) (c:Int),d.length=2*k->qp d->0<=jV c d->
  jZ c (pairs c d)=d/\(pairs c d).length=k/\0<=c/\(∀r,r∈pairs c d->0<=r.1/\r.2+1<c)/\jK (pairs c d):=by
 intro k
 induction k with
 |zero=>
  intro d c e _ h;obtain rfl:d=[]:=List.eq_nil_of_length_eq_zero (by omega);exact⟨rfl,rfl,h,λr hr=>by simp[pairs]at hr,trivial⟩
 |succ k u=>
  intro d c e f h
  match d,e,f,h with
  |[],e,_,_=>simp at e
  |[a],e,_,_=>simp at e;omega
  |a::b::d,e,f,h=>
   have v:=f a (by simp);have D:=f b (by simp);obtain⟨n,p,q,g,t⟩:=u d (c-a-2-b) (by simp at e;omega) (λz m=>f z (by simp[m])) h;have i:c-(c-a-2)-2=a:=by omega
   have j:c-a-2-(c-a-2-b)=b:=by omega
   refine⟨by simp only[pairs,jZ,i,j,n],by simp only[pairs,List.length_cons,p],by omega,λr hr=>?_,?_⟩;simp only[pairs,List.mem_cons]at hr;rcases hr with rfl|hr;exact ⟨q,by show c-a-2+1<c;omega⟩;have:=g r hr;exact⟨this.1,by omega⟩;exact ⟨by show c-a-2-b<=c-a-2;omega,λs l=>(g s l).2,t⟩
variable {M:List Int}
theorem cZ(b:qp M)(c:M.length<=25)(h:kH M=some J):J≠ []/\Good J/\M=numsOf J:=by
 match M,b,c,h with
 |[],_,_,h=>simp[kH]at h
 |[_],_,_,h=>simp[kH]at h
 |[_,_],_,_,h=>simp[kH]at h
 |a::m::d::i,b,c,h=>
  have w:=b a (by simp);have x:=b m (by simp);have Z:=b d (by simp);simp only[kH]at h;split at h;rename_i l;cases h;obtain⟨k,n⟩:∃k:Nat,i.length=2*k:=⟨m.toNat,by omega⟩;obtain⟨t,f,u,g,v⟩:=zl0 k i (a-d) n (λz q=>b z (by simp[q])) l.2;have j:a-(a-d)=d:=by omega
  simp only[List.length_cons]at c;refine⟨by simp,⟨by simp only[List.length_cons,f];omega,λr e=>?_,⟨by show a-d<=a;omega,λs p=>(g s p).2,v⟩⟩,?_⟩;rcases List.mem_cons.1 e with rfl|e;exact ⟨u,by show a<=1073741823;omega⟩;have:=g r e;exact⟨this.1,by omega⟩;simp only[numsOf,t,f,j];rw[show(k:Int)=m by omega];cases h
theorem zmc(k:Bytes l)(J:List R):parse l=some J↔J≠ []/\Good J/\l=enc J:=by
 unfold parse;constructor;intro h;cases b:rd 25 l with
 |none=>rw[b]at h;cases h
 |some M=>
  rw[b]at h;obtain⟨c,d,e⟩:=Xv 25 l M k b;obtain⟨f,g,i⟩:=cZ d e h;exact⟨f,g,by rw[c,i];rfl⟩
 rintro ⟨j,a,rfl⟩;unfold enc;rw[eT _ 25 (Xc a) (numsOf_length a)];exact zl4 a j
theorem J7(h:qp M):Bytes (M.flatMap V.nums):=by
 intro z hz;rw[List.mem_flatMap]at hz;obtain⟨n,a,hz⟩:=hz;exact V.zlh n ((xG n).2 (h n a)) z hz
theorem zb7(h:Good J):Bytes (enc J):=J7 (Xc h)
theorem aQ(h:qp M):M.all V.zH=true:=List.all_eq_true.2 λz a=>(xG z).2 (h z a)
theorem yc(M:List Int):(M.flatMap V.nums).length<=4*M.length:=by
 induction M with
 |nil=>simp
 |cons n M a=>
  have:=V.Zg n;simp only[List.flatMap_cons,List.length_append,List.length_cons];omega
theorem Jo(h:Good J)(f:J≠ []):(enc J).length<=8*J.length+1:=by
 cases J with
 |nil=>exact absurd rfl f
 |cons r d=>
  have g:=h.1;simp only[List.length_cons]at g;have e:(V.nums (d.length:Int)).length=1:=by
   have:((d.length:Nat):Int)<64:=by omega
   simp[V.nums,this]
  have a:=V.Zg r.2;have b:=V.Zg (r.2-r.1);have c:=yc (jZ r.1 d);rw[Qe]at c;simp only[enc,numsOf,List.flatMap_cons,List.length_append,List.length_cons,e];omega
end Go.Proofs.YtdokgalidhmbbaaGreatDoor
namespace Go.Proofs.YtdokgalidhmbbaaGreatDoor
open Go.RowKit Go.Lib Go.Sort
def qV(K:List Int):List Value:=K.map (Value.int .i64)
theorem KU(a b:List Int):qV (a++b)=qV a++qV b:=by simp[qV]
theorem ja:(Tryz.prog.info? 3).map (λi=>(i.zero,i.size,i.bytes))=some (some (.int .i64 0),1,8):=by kernel_rfl
abbrev OwnI(w:World)(base:Nat)(v:Value)(K:List Int):Prop:=w.ownsRow base 3 1 v K.length (qV K)
variable {w:World}{T:Nat}{K:List Int}
theorem OwnI.cell{g n a:Nat}(h:OwnI w T (.slice (some ⟨g,0,none⟩) n a) K)(j:Nat)(b:j<K.length):w.cell? ⟨g,j,none⟩=some (.int .i64 (K[j]?.getD 0)):=by
 have:=h.cells (g:=g) rfl j (.int .i64 (K[j]?.getD 0)) (by simp[qV,b]);rw[Addr.add_lit,Nat.zero_add]at this;exact this
theorem yz{W:Array Oper}{f:List Oper}{o:Oper}{a:Act}{Q:Exit->Act->World->Prop}(n:o.guard=none)(s x:Operand)
  (r:o.op=.call {callee:=.builtin .append,args:=#[s,x],argTypes:=#[54,54]}) (T:Nat) (v:Value) (K:List Int) (y:a.eval s=v) (t:OwnI w T v K)
  (e:Addr) (m c:Nat) (b:List Int) (hx:a.eval x=.slice (some e) m c) (q:b.length=m) (k:∀j u,(qV b)[j]? =some u->w.cell? (e.add j)=some u) (V:K.length+b.length<=1000000) (i:T<=w.heap.size)
  (h:∀d E,OwnI E T d (K++b)->w.grownBy E v.ownBlock->wpList Tryz.prog W Q f (a.put o.dst d) E):wpList Tryz.prog W Q (o::f) a w:=by
 obtain⟨U,p,B,F,P⟩:=info_parts ja;subst q;refine wpList_append_own _ n s x 54 r T 3 U _ 1 8 Tryz.underlying54 p B F P rfl (by decide) v K.length (qV K) y t e b.length c (qV b) hx (by simp[qV]) k (λu hu=>by
  simp only[qV,List.mem_map]at hu;obtain⟨z,_,rfl⟩:=hu;rfl) (by unfold maxLen;omega) (by omega) i ?_
 intro d E g l _;refine h d E ?_ l;show E.ownsRow T 3 1 d (K++b).length (qV (K++b));rw[KU,List.length_append];exact g
variable {v:Value}
theorem OwnI.below{E:World}(h:OwnI w T v K)(a:Below w.heap.size w E):OwnI E T v K:=own_below h a
theorem OwnI.form(h:OwnI w T v K)(b:K≠ []):∃g a,v=.slice (some ⟨g,0,none⟩) K.length a/\K.length<=a/\T<=g/\g<w.heap.size:=by
 rcases h.2 with⟨_,c⟩|⟨g,a,i,rfl,d,e,f,_⟩;exact absurd (List.eq_nil_of_length_eq_zero c) b;exact ⟨g,a,rfl,f,d,(Array.getElem?_eq_some_iff.1 e).1⟩
theorem QC(W:World)(a b:Int):∀j u,(qV [a,b])[j]? =some u->(W.alloc (.cells #[.int .i64 a,.int .i64 b] 3)).cell? ((⟨W.heap.size,0,none⟩:Addr).add j)=some u:=by
 intro j u h
 match j,h with
 |0,h=>simp[qV]at h;subst h;simp[Addr.add]
 |1,h=>simp[qV]at h;subst h;simp[Addr.add]
 |j+2,h=>simp[qV]at h
theorem cells_one(W:World)(a:Int):∀j u,(qV [a])[j]? =some u->(W.alloc (.cells #[.int .i64 a] 3)).cell? ((⟨W.heap.size,0,none⟩:Addr).add j)=some u:=by
 intro j u h
 match j,h with
 |0,h=>simp[qV]at h;subst h;simp[Addr.add]
 |j+1,h=>simp[qV]at h
def Box2(W:World)(B:Nat)(a b:Int):Prop:=W.heap[B]? =some (.cells #[.int .i64 a,.int .i64 b] 143 (0,0))
variable {W:World}{B:Nat}{a b:Int}
theorem Box2.lt(h:Box2 W B a b):B<W.heap.size:=(Array.getElem?_eq_some_iff.1 h).1
theorem Box2.c0(h:Box2 W B a b):W.cell? ⟨B,0,none⟩=some (.int .i64 a):=by simp[World.cell?,show W.heap[B]? =_ from h]
theorem Box2.c1(h:Box2 W B a b):W.cell? ⟨B,1,none⟩=some (.int .i64 b):=by simp[World.cell?,show W.heap[B]? =_ from h]
theorem Box2.f0(h:Box2 W B a b):W.frozen? ⟨B,0,none⟩=false:=by simp[World.frozen?,show W.heap[B]? =_ from h]
theorem Box2.f1(h:Box2 W B a b):W.frozen? ⟨B,1,none⟩=false:=by simp[World.frozen?,show W.heap[B]? =_ from h]
theorem Box2.kept{c:World}{row:Option Nat}(h:Box2 W B a b)(d:W.grownBy c row)(e:some B≠row):Box2 c B a b:=(d.block B h.lt e).trans h
theorem Box2.alloc(h:Box2 W B a b)(o:Obj):Box2 (W.alloc o) B a b:=h.kept (World.grownBy_alloc W o none) (by simp)
theorem Box2.new(W:World)(a b:Int):Box2 (W.alloc (.cells #[.int .i64 a,.int .i64 b] 143)) W.heap.size a b:=World.alloc_heap_new W _
theorem JF{a:Array Value}{t:TypeId}(h:W.heap[B]? =some (.cells a t (0,0)))(j:Nat)(u:Value):(W.setCell ⟨B,j,none⟩ u).heap[B]? =some (.cells (a.setIfInBounds j u) t (0,0)):=by
 obtain⟨c,b⟩:=Array.getElem?_eq_some_iff.1 h;show(W.heap.modify B _)[B]? =_;rw[Array.getElem?_eq_getElem (by rw[Array.size_modify];exact c),Array.getElem_modify_self,b];rfl
theorem Box2.set(h:Box2 W B a b)(c d:Int):Box2 ((W.setCell ⟨B,0,none⟩ (.int .i64 c)).setCell ⟨B,1,none⟩ (.int .i64 d)) B c d:=
 JF (JF h 0 (.int .i64 c)) 1 (.int .i64 d)
def lst:Int->List R->Int
 |p,[]=>p
 |_,r::a=>lst r.1 a
theorem K4:∀(K:List R) (p:Int) (r:R),lst p (K++[r])=r.1
 |[],_,_=>rfl
 |x::K,_,r=>K4 K x.1 r
theorem gU:∀(K:List R) (p:Int) (r:R),jZ p (K++[r])=jZ p K++[lst p K-r.2-2,r.2-r.1]
 |[],_,_=>rfl
 |x::K,p,r=>by simp only[List.cons_append,jZ,lst,gU K x.1 r]
theorem aM:∀(K:List R) (p:Int),lst p K=p\/∃r,r∈K/\lst p K=r.1
 |[],_=>.inl rfl
 |x::K,p=>by
  rcases aM K x.1 with h|⟨r,a,h⟩
  .exact .inr ⟨x,by simp,h⟩
  .exact .inr ⟨r,by simp[a],h⟩
theorem take_at{J:List R}{k:Nat}(h:k<J.length):J.take (k+1)=J.take k++[at' J k]:=by
 rw[List.take_succ_eq_append_getElem h];simp[at',h]
def part(r:R)(a:List R)(k:Nat):List Int:=r.2::(a.length:Int)::(r.2-r.1)::jZ r.1 (a.take k)
theorem dB(r:R)(a:List R):part r a a.length=numsOf (r::a):=by simp[part,numsOf]
theorem dD(r:R)(a:List R):part r a 0=[r.2,(a.length:Int),r.2-r.1]:=by simp[part,jZ]
theorem VA(r:R)(a:List R)(k:Nat)(h:k<a.length):part r a (k+1)=part r a k++[lst r.1 (a.take k)-(at' a k).2-2,(at' a k).2-(at' a k).1]:=by
 simp only[part,take_at h,gU,List.cons_append]
theorem dC(r:R)(a:List R)(k:Nat)(h:k<=a.length):(part r a k).length=3+2*k:=by
 simp only[part,List.length_cons,Qe,List.length_take];omega
theorem J3(w:World)(T:Nat)(v:Value)(M:List Int)(c:V.Forms w)(h:OwnI w T v M)(b:M≠ [])(k:M.length<=40)(l:qp M):
  Cl 225 #[v] w (.tuple #[.string (strOfNums (M.flatMap V.nums)),.nilIface]):=by
 obtain⟨g,a,rfl,_,_,f⟩:=h.form b;refine(V.WS g 0 M.length a M w c rfl k f (λj i=>by rw[Nat.zero_add];exact h.cell j i)).mono ?_;rintro e E ⟨⟨_,rfl⟩|⟨ha,_⟩,d⟩;exact ⟨rfl,d⟩;rw [aQ l]at ha;cases ha
theorem znq(b t d B:Nat)(r:R)(a:List R)(w:World)(hF:V.Forms w)(K:a.length+1=d)(aa:d<=B)(P:Good (r::a))(U:b<w.heap.size)(J:Cells w b t (r::a)):
  Cl 224 #[.slice (some ⟨b,t,none⟩) d B] w (.tuple #[.string (strOfNums (enc (r::a))),.nilIface]):=by
 have a3:a.length+1<=12:=by have:=P.1;simp at this;omega
 have HC:=ZF (.slice (some ⟨b,t,none⟩) d B) (r::a) w ⟨some ⟨b,t,none⟩,B,by simp[K],by simp;omega,(λh=>by cases h),.inr ⟨b,t,rfl,U,J⟩⟩;rw[(x9 _).2 P,XI]at HC;have HG:=zC P;have G:=zC J;have HL:=zC K;have hz:((d:Int)==0)=false:=by simp;omega
 have a1:(1:Int)<=(d:Int):=by omega
 have a8:0<=r.1/\r.1<=r.2/\r.2<=1073741823:=by have:=P.2.1 r (by simp);exact⟨this.1,P.2.2.1,this.2⟩
 have ad:0<d:=by omega
 have ac:d<=12:=by omega
 clear P J K a3;go_enter Tryz.func224,Tryz.ntmps224
 go_wp2_with fail;refine HC.mono ?_;rintro e c ⟨rfl,F⟩;have c0:=(G.out.below U F 0 (by simp)).1;have c1:=(G.out.below U F 0 (by simp)).2;have N:=hF.below F;rw[show at' (r::a) 0=r from rfl]at c0 c1;simp only[Nat.zero_mul,Nat.add_zero]at c0 c1;clear HC;have o:=F.size;have gL:(d:Int)≠0:=by omega
 by_cases W:B=1
 .have a2:d=1:=by omega
  subst a2;subst W;have a6:a=[]:=List.eq_nil_of_length_eq_zero (by have:=HL.out;omega);subst a6;go_wp2_with fail;refine wp_loop_rounds 1 ?_;rw[rounds_succ];go_wp2_with fail;have bel1:Below w.heap.size w ((c.alloc (.cells #[.int .i64 r.1,.int .i64 r.2] 143)).alloc (.cells #[.int .i64 r.2,.int .i64 0,.int .i64 (r.2-r.1)] 3)):=(F.alloc o _).alloc (by simp;omega) _;have bel2:Below c.heap.size c ((c.alloc (.cells #[.int .i64 r.1,.int .i64 r.2] 143)).alloc (.cells #[.int .i64 r.2,.int .i64 0,.int .i64 (r.2-r.1)] 3)):=((Below.refl _ c).alloc (Nat.le_refl _) _).alloc (by simp) _
  have ow:OwnI ((c.alloc (.cells #[.int .i64 r.1,.int .i64 r.2] 143)).alloc (.cells #[.int .i64 r.2,.int .i64 0,.int .i64 (r.2-r.1)] 3)) (c.heap.size+1) (.slice (some ⟨c.heap.size+1,0,none⟩) 3 3) (numsOf [r]):=by
   have:=World.ownsRow_lit (base:=c.heap.size+1) (e:=3) (size:=1) (c.alloc (.cells #[.int .i64 r.1,.int .i64 r.2] 143)) #[.int .i64 r.2,.int .i64 0,.int .i64 (r.2-r.1)] 3 (by simp) (by decide) rfl;rw[World.size_alloc]at this;exact this
  refine(J3 _ _ _ _ (N.below bel2) ow (by simp[numsOf]) (by have:=numsOf_length HG.out;omega) (Xc HG.out)).mono ?_;rintro e E ⟨rfl,I⟩;have l:=bel1.trans (I.mono bel1.size);go_wp2_with fail;go_ret2
  exact⟨rfl,l⟩
 have ab:¬B=1:=W;go_wp2_with fail;have bel1:Below w.heap.size w ((c.alloc (.cells #[.int .i64 r.1,.int .i64 r.2] 143)).alloc (.cells #[.int .i64 r.2,.int .i64 ((d:Int)-1),.int .i64 (r.2-r.1)] 3)):=(F.alloc o _).alloc (by simp;omega) _;have bel2:Below c.heap.size c ((c.alloc (.cells #[.int .i64 r.1,.int .i64 r.2] 143)).alloc (.cells #[.int .i64 r.2,.int .i64 ((d:Int)-1),.int .i64 (r.2-r.1)] 3)):=((Below.refl _ c).alloc (Nat.le_refl _) _).alloc (by simp) _
 have ow:OwnI ((c.alloc (.cells #[.int .i64 r.1,.int .i64 r.2] 143)).alloc (.cells #[.int .i64 r.2,.int .i64 ((d:Int)-1),.int .i64 (r.2-r.1)] 3)) (c.heap.size+1) (.slice (some ⟨c.heap.size+1,0,none⟩) 3 3) (part r a 0):=by
  have:=World.ownsRow_lit (base:=c.heap.size+1) (e:=3) (size:=1) (c.alloc (.cells #[.int .i64 r.1,.int .i64 r.2] 143)) #[.int .i64 r.2,.int .i64 ((d:Int)-1),.int .i64 (r.2-r.1)] 3 (by simp) (by decide) rfl;rw[World.size_alloc]at this;rw[dD,show((a.length:Nat):Int)=(d:Int)-1 by have:=HL.out;omega];exact this
 have bx:Box2 ((c.alloc (.cells #[.int .i64 r.1,.int .i64 r.2] 143)).alloc (.cells #[.int .i64 r.2,.int .i64 ((d:Int)-1),.int .i64 (r.2-r.1)] 3)) c.heap.size (lst r.1 (a.take 0)) r.2:=(Box2.new c r.1 r.2).alloc _;have aj:((c.alloc (.cells #[.int .i64 r.1,.int .i64 r.2] 143)).alloc (.cells #[.int .i64 r.2,.int .i64 ((d:Int)-1),.int .i64 (r.2-r.1)] 3)).heap.size=c.heap.size+2:=by simp
 generalize(c.alloc (.cells #[.int .i64 r.1,.int .i64 r.2] 143)).alloc (.cells #[.int .i64 r.2,.int .i64 ((d:Int)-1),.int .i64 (r.2-r.1)] 3)=W0 at*;clear c0 c1;generalize y:d-1=m;have HM:Hid (a.length=m):=by show _=_;have:=HL.out;omega
 have ag:m+1=d:=by omega
 clear y hz a1 gL;go_loopw [6,35] (λv i wr=>∃(k:Nat) (L:Int),k<=m/\i=.int .i64 k/\OwnI wr (c.heap.size+1) v (part r a k)/\Box2 wr c.heap.size (lst r.1 (a.take k)) L/\Below w.heap.size w wr/\Below c.heap.size c wr) (λ_ i _=>m-(intOf i).toNat)
 case atStart=>exact⟨0,r.2,Nat.zero_le _,rfl,ow,bx,bel1,bel2⟩
 case round=>
  obtain⟨k,L,hk,rfl,hown,hbx,l,z⟩:=hrel;by_cases ae:k<m
  .have g1:(k:Int)<(m:Int):=by omega
   have C:k<a.length:=by have:=HM.out;omega
   have cc:=G.out.below U l (k+1) (by simp;omega);rw[show at' (r::a) (k+1)=at' a k by simp[at']]at cc;have M:t+(k+1)*2=t+2+k*2:=by omega
   rw[M]at cc;obtain⟨c0,c1⟩:=cc;have HP:Hid (part r a (k+1)=part r a k++[lst r.1 (a.take k)-(at' a k).2-2,(at' a k).2-(at' a k).1]):=VA r a k C;have HQ:Hid (lst r.1 (a.take (k+1))=(at' a k).1):=by show _=_;rw[take_at C,K4]
   have bd:0<=(at' a k).1/\(at' a k).1<=(at' a k).2/\(at' a k).2<=1073741823:=by
    have y:=at_mem C;have:=HG.out.2.1 _ (List.mem_cons_of_mem _ y);exact⟨this.1,kG HG.out.2.2.2.2 _ y,this.2⟩
   have bq:0<=lst r.1 (a.take k)/\lst r.1 (a.take k)<=1073741823:=by
    rcases aM (a.take k) r.1 with h|⟨s,hs,h⟩;rw [h];omega;have y:=List.mem_of_mem_take hs;have:=HG.out.2.1 _ (List.mem_cons_of_mem _ y);have:=kG HG.out.2.2.2.2 _ y;omega
   have Z:Hid ((part r a k).length=3+2*k):=dC r a k (by omega);clear C M;generalize lst r.1 (a.take k)=q at*;generalize a5:at' a k=x at*;clear a5;obtain⟨n,f⟩:=x;simp only at c0 c1 HP HQ bd;have d0:=hbx.c0;have d1:=hbx.c1;have a9:b<wr.heap.size:=Nat.lt_of_lt_of_le U l.size;have ai:=z.size;have af:=hbx.lt;have a7:=(hown.alloc (.cells #[.int .i64 n,.int .i64 f] 143)).alloc (.cells #[.int .i64 (q-f-2),.int .i64 (f-n)] 3)
   have D:=hown.lt;have cs2:=QC (wr.alloc (.cells #[.int .i64 n,.int .i64 f] 143)) (q-f-2) (f-n);rw[World.size_alloc]at cs2;have Y:Hid (∀j u,(qV [q-f-2,f-n])[j]? =some u->((wr.alloc (.cells #[.int .i64 n,.int .i64 f] 143)).alloc (.cells #[.int .i64 (q-f-2),.int .i64 (f-n)] 3)).cell? ((⟨wr.heap.size+1,0,none⟩:Addr).add j)=some u):=cs2;clear cs2;go_wp2_with (at_builtin;refine yz rfl (.tmp 39) (.tmp 51) rfl (c.heap.size+1) _ (part r a k) rfl a7 ⟨wr.heap.size+1,0,none⟩ 2 2 [q-f-2,f-n] rfl rfl Y.out (by rw[Z.out];simp;omega) (by simp;omega) ?_;intro v2 E T A;have Q:=((hbx.alloc _).alloc _).kept A (λe=>by have:=(D _ e.symm).1;omega);have X:=((Box2.new wr n f).alloc _).kept A (λe=>by have:=(D _ e.symm).2;omega);have z0:=Q.c0;have z1:=Q.c1;have z2:=Q.f0;have z3:=Q.f1;have y0:=X.c0;have y1:=X.c1)
   have H:Below w.heap.size w E:=((l.alloc l.size _).alloc (by simp;have:=l.size;omega) _).grown A (by simp;have:=l.size;omega) (λj e=>by have:=(D j e).1;omega);have a0:Below c.heap.size c E:=((z.alloc z.size _).alloc (by simp;omega) _).grown A (by simp;omega) (λj e=>by have:=(D j e).1;omega);have a4:=T.lt;have S:v2.ownBlock≠some c.heap.size:=λe=>by have:=(a4 _ e).1;omega
   refine⟨⟨k+1,f,by omega,by go_num,?_,?_,?_,?_⟩,by simp[intOf];omega⟩;rw [HP.out];exact ownsRow_setCell_other (ownsRow_setCell_other T S _) S _;rw [HQ.out];exact Q.set n f;exact (H.setCell (p:=⟨c.heap.size,0,none⟩) o _).setCell (p:=⟨c.heap.size,1,none⟩) o _;exact (a0.setCell (p:=⟨c.heap.size,0,none⟩) (Nat.le_refl _) _).setCell (p:=⟨c.heap.size,1,none⟩) (Nat.le_refl _) _
  obtain rfl:k=m:=by omega
  have O:part r a k=numsOf (r::a):=by rw[<-HM.out];exact dB r a
  rw[O]at hown;clear O;have HO:Hid (OwnI wr (c.heap.size+1) u6 (numsOf (r::a))):=hown;obtain⟨g,cp,rfl,_⟩:=hown.form (by simp[numsOf]);clear hown;go_wp2_with fail;refine(J3 _ _ _ _ (N.below z) HO.out (by simp[numsOf]) (by have:=numsOf_length HG.out;omega) (Xc HG.out)).mono ?_;rintro e E ⟨rfl,I⟩;have H:=l.trans (I.mono l.size);go_wp2_with fail;go_ret2
  exact⟨rfl,H⟩
def Fits(v:Value):Prop:=∀a l c,v=.slice a l c->l<=c
theorem znp(v:Value)(J:List R)(w:World)(d:V.Forms w)(f:Row w v J)(hf:Fits v)(j:Good J)(a:J≠ []):
  Cl 224 #[v] w (.tuple #[.string (strOfNums (enc J)),.nilIface]):=by
 obtain⟨m,c,rfl,n,p,h⟩:=f;rcases h with h|⟨b,k,rfl,g,i⟩;exact absurd h a;cases J with
 |nil=>exact absurd rfl a
 |cons r l=>exact znq b k _ c r l w d rfl (hf _ _ _ rfl) j g i
theorem Y8{e d n:Nat}{K:List Value}(h:w.ownsRow T e d v n K):Fits v:=by
 rcases h.2 with⟨rfl,_⟩|⟨g,f,i,rfl,j,k,b,_⟩;intro a l c e;cases e;exact Nat.le_refl _;intro a l c e;cases e;exact b
def gN:Value->Nat
 |.string s=>s.size
 |_=>0
theorem gP(s:ByteArray):gN (.string s)=s.size:=rfl
theorem zg(s:ByteArray):(V.ints s).length=s.size:=by
 simp[V.ints]
theorem qY(s:ByteArray)(k:Nat)(hk:k<=s.size):V.ints (s.extract k s.size)=(V.ints s).drop k:=by
 obtain⟨⟨l⟩⟩:=s;have e:(⟨⟨l⟩⟩:ByteArray).size=l.length:=rfl;rw[e]at hk |-;simp only[V.ints,ByteArray.extract,ByteArray.copySlice,ByteArray.empty];simp[List.map_drop];rw[List.take_of_length_le (by simp)]
theorem jq{s t:ByteArray}(h:V.ints s=V.ints t):s=t:=by
 rw[<-V.ZT s,<-V.ZT t];exact congrArg _ h
theorem OwnI.shape(h:OwnI w T v K):∃a c,v=.slice a K.length c:=by
 rcases h.2 with⟨rfl,d⟩|⟨g,b,e,rfl,_⟩;exact ⟨none,0,by rw[d]⟩;exact ⟨_,b,rfl⟩
def xS:Value:=.iface 133 (.int .i64 2)
theorem bI(s:ByteArray)(w:World)(C:V.Forms w)(y:s.size<=maxLen):
  Calls Tryz.prog 246 #[.string s] w λe E=>((rd 25 (V.ints s)=none/\e=.returned (.tuple #[.slice none 0 0,xS]))\/(∃M v,rd 25 (V.ints s)=some M/\e=.returned (.tuple #[v,.nilIface])/\OwnI E w.heap.size v M))/\Below w.heap.size w E:=by
 unfold maxLen at y;go_enter Tryz.func246,Tryz.ntmps246
 go_wp2_with fail;go_loopw [0,4] (λu v wr=>∃(t:ByteArray) (M:List Int),u=.string t/\OwnI wr w.heap.size v M/\Hid (rd 25 (V.ints s)=(rd (25-M.length) (V.ints t)).map (M++ ·))/\M.length<=25/\t.size<=9223372036854775807/\Below w.heap.size w wr) (λu _ _=>gN u)
 case atStart=>exact⟨s,[],rfl,World.ownsRow_nil _ _ _ _,(show rd 25 (V.ints s)=(rd 25 (V.ints s)).map ([]++ ·) by simp),by simp,y,Below.refl _ _⟩
 case round=>
  obtain⟨t,M,rfl,hown,a,Y,N,f⟩:=hrel;by_cases r:t.size=0
  .have q:V.ints t=[]:=List.eq_nil_of_length_eq_zero (by rw[zg];exact r);have d:Hid (rd 25 (V.ints s)=some M):=by show _=_;rw[a.out,q,Xw];simp
   have U:¬(0:Int)<(t.size:Int):=by omega
   obtain⟨P,Q,rfl⟩:=hown.shape;clear a q;go_wp2_with fail;go_ret2
   exact⟨.inr ⟨M,d.out,_,rfl,hown⟩,f⟩
  have U:(0:Int)<(t.size:Int):=by omega
  have g:V.ints t≠ []:=λe=>r (by rw[<-zg,e];rfl);obtain⟨P,Q,rfl⟩:=hown.shape;by_cases z:M.length=25
  .have d:Hid (rd 25 (V.ints s)=none):=by
    show _=_
    rw[a.out,z]
    cases k:V.ints t with
    |nil=>exact absurd k g
    |cons b l=>rfl
   have o:((M.length:Nat):Int)=25:=by omega
   clear a g;go_wp2_with fail;go_ret2
   exact⟨.inl ⟨d.out,rfl⟩,f⟩
  have o:(((M.length:Nat):Int)==25)=false:=by simp;omega
  have HG:=V.Z0 t wr (C.below f) (by unfold maxLen;exact N);cases hg:V.zL (V.ints t)with
  |none=>
   rw[hg]at HG;have d:Hid (rd 25 (V.ints s)=none):=by show _=_;rw[a.out,eU g hg];rfl
   clear a g hg;simp only[V.yH]at HG;go_wp2_with fail;refine HG.mono ?_;rintro e m ⟨rfl,h⟩;have i:=f.trans (h.mono f.size);go_wp2_with fail;go_ret2
   exact⟨.inl ⟨d.out,rfl⟩,i⟩
  |some p=>
   obtain⟨n,c⟩:=p;rw[hg]at HG;obtain⟨J,D,k⟩:=QS (zu t) hg;have X:=V.Xa n;have H:c.toNat<=t.size:=by
    have:=congrArg List.length k;rw[List.length_append,List.length_drop,zg]at this;have:=Zh n;omega
   have x:25-M.length=(25-(M++[n]).length)+1:=by simp;omega
   have d:Hid (rd 25 (V.ints s)=(rd (25-(M++[n]).length) (V.ints (t.extract c.toNat t.size))).map ((M++[n])++ ·)):=by
    show _=_;rw[a.out,x,rd_some g hg,qY t _ H];cases rd (25-(M++[n]).length) ((V.ints t).drop c.toNat)<;>simp
   have S:0<=c:=by omega
   have T:c<=(t.size:Int):=by omega
   have F:(t.extract c.toNat t.size).size=t.size-c.toNat:=by simp
   have B:(M++[n]).length<=25:=by simp;omega
   have W:1<=c.toNat:=by omega
   clear a g hg J D k x;simp only[V.yH]at HG;go_wp2_with fail;refine HG.mono ?_;rintro e m ⟨rfl,h⟩;have i:=f.trans (h.mono f.size);have L:=i.size;have O:=(hown.below h).alloc (.cells #[.int .i64 n] 3);have I:=(hown.below h).lt;clear HG;go_wp2_with (at_builtin;refine yz rfl (.tmp 24) (.tmp 26) rfl w.heap.size _ M rfl O ⟨m.heap.size,0,none⟩ 1 1 [n] rfl rfl (cells_one m n) (by simp at B |-;omega) (by simp;omega) ?_;intro Z R K G)
   have A:Below w.heap.size w R:=(i.alloc L _).grown G (by simp;omega) (λj e=>(I j e).1);exact⟨⟨_,M++[n],rfl,K,d,B,by rw[F];omega,A⟩,by rw[gP,gP,F];omega⟩
end Go.Proofs.YtdokgalidhmbbaaGreatDoor
namespace Go.Proofs.YtdokgalidhmbbaaGreatDoor
open Go.RowKit Go.Shelf
attribute [local go_sem] Oper.semAt_some
structure Hdr(b off L cap Bs Bn:Nat)(W:World):Prop where
 head:W.cell? ⟨Bs,0,none⟩=some (.slice (some ⟨b,off,none⟩) L cap)
 two:W.cell? ⟨Bn,0,none⟩=some (.int .i64 2)
def KpH(b e L d c a:Nat)(W f:World):Prop:=Hdr b e L d c a W->Hdr b e L d c a f
abbrev Ix(m:Nat):={k:Nat // k<m}
theorem zoj(k:Nat):List.range (k+1)=List.range k++[k]:=List.range_succ
theorem zc5(n:Nat)(hn:1<=n)(l b g m L f p h:Nat)(hL:Hid (L=2*m))(hm:m<=1000)(a0:L<=f)(J u:List (Ix m)->World->Prop)
  (P:∀d x W,J d W->d.length<m->YieldAt Fence.wide (n-1) Tryz.prog l #[.slice (some ⟨b,g+2*x.1,none⟩) 2 2] W λe c=>
   (e=.returned (.bool true)/\J (d++[x]) c/\KpH b g L f p h W c)\/(e=.returned (.bool false)/\u (d++[x]) c))
  (W:World) (r:Hdr b g L f p h W) (B:J [] W) (C:∀d W q,J d W->J d (W.drewN q)):
  CallsIn Fence.wide n Tryz.prog 211 #[.func (.yield l) #[] #[],.pointer (some ⟨p,0,none⟩),.pointer (some ⟨h,0,none⟩)] W λe c=>(∃v,e=.returned v)/\
   ((∃a,a.map (λx=>x.1)=List.range m/\J a c)\/(∃d,True/\u d c)):=by
 refine callsIn_of_wp Tryz.func211 rfl trivial ?_ rfl;simp only[Tryz.ntmps211,List.size_toArray,List.length_cons,List.length_nil,Nat.reduceAdd,Nat.reduceSub,Array.replicate_succ,Array.replicate_zero,List.push_toArray,List.append_toArray,List.nil_append,List.cons_append];have I:=r.head;have z:=r.two;gi_wp2
 gi_loopw [4] (λi wr=>∃k j:Nat,k<=m/\j=2*k/\i=.int .i64 (j:Int)/\(∃a,a.map (λx=>x.1)=List.range k/\J a wr)/\Hdr b g L f p h wr)
  (λi _=>L-(intOf i).toNat)
 case atStart=>exact⟨0,0,Nat.zero_le _,rfl,rfl,⟨[],rfl,B⟩,r⟩
 case round=>
  obtain⟨k,j,hk,t,rfl,⟨a,y,hJs⟩,s⟩:=hrel;have a6:a.length=k:=by have:=congrArg List.length y;simpa using this
  have a1:=s.head;have Z:=s.two;have HY:Hid (a.map (λx=>x.1)=List.range k):=y;clear y;by_cases w:k<m
  .have E:=hL.out;have o:(j:Int)<(L:Int):=by omega
   have T:¬f=j:=by omega
   have X:j+2<=L:=by omega
   have a2:j<=2000:=by omega
   have U:Hid (j=2*k):=t;have Q:Hid (∀W,J a W->YieldAt Fence.wide (n-1) Tryz.prog l #[.slice (some ⟨b,g+j,none⟩) 2 2] W λe c=>
     (e=.returned (.bool true)/\J (a++[⟨k,w⟩]) c/\KpH b g L f p h W c)\/(e=.returned (.bool false)/\u (a++[⟨k,w⟩]) c)):=by
    show∀W,_
    intro W H
    have:=P a ⟨k,w⟩ W H (by omega)
    rw[<-t]at this
    exact this
   clear t E P r B I z;gi_wp2;gi_quiet (fail)
   obtain⟨O,a7,M,N,hy,G⟩:=Q.out (wr.drewN nq) (C _ _ nq hJs);have a3:wrap64 ((j:Int)+2)=(j:Int)+2:=by unfold wrap64;omega
   have a4:((j:Int)+2).toNat-j=2:=by omega
   have a5:((j:Int)+2).toNat=j+2:=by omega
   have R:(j:Int)+2<=(f:Int):=by omega
   have S:¬j+2=j:=by omega
   gi_wp2;refine G.mono ?_;rintro e V (⟨rfl,A,K⟩|⟨rfl,D⟩)
   .have F:Hdr b g L f p h V:=K ⟨s.head,s.two⟩;have Y:=F.two;gi_wp2;go_roundw
    case rel=>exact⟨k+1,j+2,by omega,by have:=U.out;omega,by simp,⟨_,by rw[List.map_append,HY.out,zoj];rfl,A⟩,F⟩
    case measure=>simp[intOf];omega
   .gi_wp2
    refine bodyPost_ret (results_none rfl _ _ _) rfl ?_
    exact⟨⟨_,rfl⟩,.inr ⟨_,trivial,D⟩⟩
  obtain rfl:k=m:=by omega
  have o:¬(j:Int)<(L:Int):=by have:=hL.out;omega
  clear t;gi_wp2;go_end0
  exact⟨⟨_,rfl⟩,.inl ⟨_,HY.out,hJs⟩⟩
theorem J9(n:Nat)(a:Option Addr)(c b:Nat)(w:World):
  CallsIn Fence.wide n Tryz.prog 183 #[.slice a c b,.int .i64 2] w λe E=>e=.returned (.func (.func 211) #[] #[.pointer (some ⟨w.heap.size,0,none⟩),.pointer (some ⟨w.heap.size+1,0,none⟩)])/\E=(w.alloc (.cells #[.slice a c b] 54)).alloc (.cells #[.int .i64 2] 3):=by
 refine callsIn_of_wp Tryz.func183 rfl trivial ?_ rfl;simp only[Tryz.ntmps183,List.size_toArray,List.length_cons,List.length_nil,Nat.reduceAdd,Nat.reduceSub,Array.replicate_succ,Array.replicate_zero,List.push_toArray,List.append_toArray,List.nil_append,List.cons_append];gi_wp2;go_ret;exact⟨rfl,rfl⟩
theorem Ja(n:Nat)(Q:1<=n)(b f m L d c a:Nat)(y:L=2*m)(P:m<=1000)(F:L<=d)(w:World)(u:c<w.heap.size)(t:a<w.heap.size)(i:Hdr b f L d c a w):
  SeqStopsK Fence.wide n Tryz.prog 211 #[.pointer (some ⟨c,0,none⟩),.pointer (some ⟨a,0,none⟩)] (λx:Ix m=>#[.slice (some ⟨b,f+2*x.1,none⟩) 2 2]) (KpH b f L d c a)
   (λV=>V.map (λx=>x.1)=List.range m) (λ_=>True) m w:=λl J k W j v _ B s=>
 zc5 n Q l b f m L d c a y P F J k B W ⟨(j.cell (p:=⟨c,0,none⟩) u).trans i.head,(j.cell (p:=⟨a,0,none⟩) t).trans i.two⟩ s
  (λU g q h=>v U g (g.drewN q) none h ⟨rfl,rfl,rfl,Nat.le_refl _,λ_ _ _=>rfl⟩ (λr e=>by cases e))
end Go.Proofs.YtdokgalidhmbbaaGreatDoor
namespace Go.Proofs.YtdokgalidhmbbaaGreatDoor
open Go.RowKit Go.Shelf Go.Lib
attribute [local go_sem] Oper.semAt_some
theorem zk5(s:ByteArray)(w:World)(a:V.Forms w)(d:s.size<=maxLen)(h:rd 25 (V.ints s)=none):
  Cl 246 #[.string s] w (.tuple #[.slice none 0 0,xS]):=by
 refine(bI s w a d).mono ?_;rintro e E ⟨⟨_,c⟩|⟨M,v,h1,_⟩,b⟩;exact ⟨c,b⟩;rw [h]at h1;cases h1
theorem Km(s:ByteArray)(w:World)(a:V.Forms w)(d:s.size<=maxLen)(M:List Int)(h:rd 25 (V.ints s)=some M):
  Calls Tryz.prog 246 #[.string s] w λe E=>∃v,e=.returned (.tuple #[v,.nilIface])/\OwnI E w.heap.size v M/\Below w.heap.size w E:=by
 refine(bI s w a d).mono ?_;rintro e E ⟨⟨h1,_⟩|⟨g,v,h1,c,f⟩,b⟩;rw [h]at h1;cases h1;rw [h]at h1;cases h1;exact⟨v,c,f,b⟩
theorem zmf(s:ByteArray)(w:World)(b:V.Forms w)(d:s.size<=maxLen)(h:rd 25 (V.ints s)=none):
  Cl 239 #[.string s] w (.tuple #[.slice none 0 0,xS]):=by
 have a:=zk5 s w b d h;simp only[xS]at a |-;refine(callsIn_wide (n:=5)).1 ?_;have f:Fence.wide.fn 246:=trivial;refine callsIn_of_wp_marks Tryz.func239 rfl trivial ?_ rfl;simp only[Tryz.ntmps239,List.size_toArray,List.length_cons,List.length_nil,Nat.reduceAdd,Nat.reduceSub,Array.replicate_succ,Array.replicate_zero,List.push_toArray,List.append_toArray,List.nil_append,List.cons_append];gi_wp2_with (gi_at_call 246;refine(callsIn_wide.2 a).mono ?_;rintro e g ⟨rfl,c⟩)
 exact⟨_,results_tmp2 rfl _ _ _,rfl,c⟩
theorem Kz(s:ByteArray)(w:World)(b:V.Forms w)(d:s.size<=maxLen)(M:List Int)(h:rd 25 (V.ints s)=some M)(k:M.length<3):
  Cl 239 #[.string s] w (.tuple #[.slice none 0 0,xS]):=by
 have a:=Km s w b d M h;simp only[xS]at a |-;have j:((M.length:Nat):Int)<3:=by omega
 refine(callsIn_wide (n:=5)).1 ?_;have l:Fence.wide.fn 246:=trivial;refine callsIn_of_wp_marks Tryz.func239 rfl trivial ?_ rfl;simp only[Tryz.ntmps239,List.size_toArray,List.length_cons,List.length_nil,Nat.reduceAdd,Nat.reduceSub,Array.replicate_succ,Array.replicate_zero,List.push_toArray,List.append_toArray,List.nil_append,List.cons_append];gi_wp2_with (gi_at_call 246;refine(callsIn_wide.2 a).mono ?_;rintro e m ⟨v,rfl,f,c⟩;obtain⟨g,i,rfl⟩:=f.shape)
 exact⟨_,results_tmp2 rfl _ _ _,rfl,c⟩
theorem zme(s:ByteArray)(w:World)(j:V.Forms w)(l:s.size<=maxLen)(b m d:Int)(a:List Int)(h:rd 25 (V.ints s)=some (b::m::d::a))(Q:0<=m/\m<1073741824)(U:¬(a.length:Int)=2*m):
  Cl 239 #[.string s] w (.tuple #[.slice none 0 0,xS]):=by
 have c:=Km s w j l _ h;have P:(b::m::d::a).length<=25:=(Xv 25 _ _ (zu s) h).2.2;simp only[xS]at c |-;refine(callsIn_wide (n:=5)).1 ?_;have B:Fence.wide.fn 246:=trivial;have t:¬(((b::m::d::a).length:Nat):Int)<3:=by simp;omega
 have u:¬(((b::m::d::a).length:Nat):Int)=3+2*m:=by simp;omega
 have x:(1:Int)<(((b::m::d::a).length:Nat):Int):=by simp;omega
 generalize f:(b::m::d::a).length=p at*;have i:Hid ((b::m::d::a).length=p):=f;clear f;refine callsIn_of_wp_marks Tryz.func239 rfl trivial ?_ rfl;simp only[Tryz.ntmps239,List.size_toArray,List.length_cons,List.length_nil,Nat.reduceAdd,Nat.reduceSub,Array.replicate_succ,Array.replicate_zero,List.push_toArray,List.append_toArray,List.nil_append,List.cons_append];gi_wp2_with (gi_at_call 246;refine(callsIn_wide.2 c).mono ?_;rintro e o ⟨v,rfl,ho,k⟩;obtain⟨g,r,rfl,y,_,F⟩:=ho.form (by simp);have q:=ho.cell 1 (by simp);simp only[i.out,List.getElem?_cons_succ,List.getElem?_cons_zero,Option.getD_some]at q |-)
 exact⟨_,results_tmp2 rfl _ _ _,rfl,k⟩
def stp(a:List Int)(b:Int×List R)(k:Nat):Int×List R:=
 (b.1-a[2*k]?.getD 0-2-a[2*k+1]?.getD 0,b.2++[(b.1-a[2*k]?.getD 0-2-a[2*k+1]?.getD 0,b.1-a[2*k]?.getD 0-2)])
def xn(b:List Int)(c:Int×List R)(a:List Nat):Int×List R:=a.foldl (stp b) c
theorem zar(a:List Int)(c:Int×List R)(b:List Nat)(k:Nat):xn a c (b++[k])=stp a (xn a c b) k:=by simp[xn]
theorem WN(c:List Int):∀(a:List Nat) (b:Int×List R),(xn c b a).2.length=b.2.length+a.length
 |[],b=>rfl
 |k::a,b=>by
  show(xn c (stp c b k) a).2.length=_
  rw[WN c a];simp[stp];omega
theorem XO{rest:List Int}(h:qp rest)(j:Nat):0<=rest[j]?.getD 0/\rest[j]?.getD 0<1073741824:=by
 by_cases a:j<rest.length;simp only[List.getElem?_eq_getElem a,Option.getD_some];exact h _ (List.getElem_mem a);simp [List.getElem?_eq_none (Nat.le_of_not_lt a)]
theorem WM{rest:List Int}(h:qp rest):∀(d:List Nat) (c:Int×List R),(xn rest c d).1<=c.1/\c.1-4294967296*d.length<=(xn rest c d).1
 |[],c=>by simp[xn]
 |k::d,c=>by
  have i:=WM h d (stp rest c k)
  have a:=XO h (2*k)
  have b:=XO h (2*k+1)
  have e:(stp rest c k).1=c.1-rest[2*k]?.getD 0-2-rest[2*k+1]?.getD 0:=rfl
  rw[e]at i
  show(xn rest (stp rest c k) d).1<=_/\_<=(xn rest (stp rest c k) d).1
  simp only[List.length_cons]
  omega
theorem WO(a b:Int)(c:List Int):∀(f:List Nat) (d:Int×List R),xn (a::b::c) d (f.map (·+1))=xn c d f
 |[],d=>rfl
 |k::f,d=>by
  have e:stp (a::b::c) d (k+1)=stp c d k:=by
   have g:2*(k+1)=2*k+1+1:=by omega
   simp only[stp,g,List.getElem?_cons_succ]
  show xn (a::b::c) (stp (a::b::c) d (k+1)) (f.map (·+1))=xn c (stp c d k) f
  rw[e,WO a b c f]
theorem zaq:∀(k:Nat) (c:List Int) (d:Int) (J:List R),c.length=2*k->xn c (d,J) (List.range k)=(jV d c,J++pairs d c):=by
 intro k
 induction k with
 |zero=>
  intro c d J f;obtain rfl:c=[]:=List.eq_nil_of_length_eq_zero (by omega);simp[xn,jV,pairs]
 |succ k g=>
  intro c d J f
  match c,f with
  |[],f=>simp at f
  |[a],f=>simp at f;omega
  |a::b::c,f=>
   rw[List.range_succ_eq_map];show xn (a::b::c) (stp (a::b::c) (d,J) 0) ((List.range k).map (·+1))=_;rw[WO];have e:stp (a::b::c) (d,J) 0=(d-a-2-b,J++[(d-a-2-b,d-a-2)]):=rfl;rw[e,g c _ _ (by simp at f;omega)];simp[jV,pairs]
end Go.Proofs.YtdokgalidhmbbaaGreatDoor
namespace Go.Proofs.YtdokgalidhmbbaaGreatDoor
open Go
def defers:Op->Bool
 |.defer _=>true
 |_=>false
variable {n l:Nat}{P:Program}{a:Act}{w:World}{Q:Exit->Act->World->Prop}
theorem zlo{F:Fence}{o:Oper}{K:Act->World->Prop}(d:F.round=none)(b:∀c,o.op≠ .defer c)
  (h:o.wpIn F n P a w K Q):o.wpIn (F.inRound l) n P a w K Q:=by
 unfold Oper.wpIn at*
 rw[Oper.semAt_eq _ _ _ b]at h |-
 refine⟨h.1,?_⟩
 have hh:=h.2
 generalize(execOp a.eval o).run P w=r at*
 cases r with
 |ok x E=>cases x<;>exact hh
 |halt x E=>cases x<;>exact hh
theorem zu0{F:Fence}{W:Array Oper}{i:Nat}{K:Act->World->Prop}(f:F.round=none)(e:∀(i:Nat) (o:Oper),W[i]? =some o->∀c,o.op≠ .defer c)
  (h:wpOpIn F n P W Q i K a w):wpOpIn (F.inRound l) n P W Q i K a w:=by
 unfold wpOpIn at*
 cases b:W[i]? with
 |none=>simp only[b]at h;exact h
 |some o=>
  simp only[b]at h;dsimp only;by_cases d:Region.wanted o (yielded W a.tmps);simp only[d,if_true]at h |-;exact zlo f (e i o b) h;simp only[d]at h |-;exact h
theorem iP{F:Fence}{n:Nat}{P:Program}{Z:Region.Mode}{W:Array Oper}{l:Nat}{Q:Exit->Act->World->Prop}(f:F.round=none)(e:∀(i:Nat) (o:Oper),W[i]? =some o->∀c,o.op≠ .defer c):
  ∀(b:Nat) (d:Array Bool) (a:Act) (w:World),wpAnyIn F n P Z W Q b d a w->wpAnyIn (F.inRound l) n P Z W Q b d a w
 |0,_,_,_,h=>h
 |b+1,d,a,w,h=>⟨h.1,λi k=>zu0 f e (wpOpIn_mono (λg E j=>iP f e b _ g E j) (h.2 i k))⟩
theorem zpa{F:Fence}{q:Nat}{W:List Oper}(d:F.round=none)(j:P.follows .mixedOrders=true)(f:Region.lexB .any W.toArray=true)
  (g:(W.all λo=> !defers o.op)=true)
  (h:wpQuietIn F n P W.toArray (λE=>∃n,E=w.drewN n) (λb=>∀E,(∃n,E=w.drewN n)->Q .normal b E) W a):(Code.region q W.toArray true).wpIn (F.inRound l) n P Q a w:=by
 have hB':=f;simp only[Region.lexB,Bool.and_eq_true]at hB';refine wpIn_region_any j (iP d (λi o m c e=>?_) _ _ _ _ (wpAnyIn_of_quiet (C:=λE=>∃n,E=w.drewN n) (Q:=λb=>∀E,(∃n,E=w.drewN n)->Q .normal b E) d (λ_ E p h=>h E p) _ _ _ _ ⟨1,rfl⟩ ?_));have k:o∈W:=by
  have:=Array.mem_of_getElem? m;simpa using this
 have:=List.all_eq_true.1 g o k;rw[e]at this;simp[defers]at this;have:=wpAnyQIn_lex (F:=F) (n:=n) (P:=P) (C:=λE=>∃n,E=w.drewN n) (md:=.any) hB'.1 W.toArray.toList 0 (Array.replicate W.toArray.size false) a (by simp) (by simpa using hB'.2) (by simpa using h);simpa using this
end Go.Proofs.YtdokgalidhmbbaaGreatDoor
namespace Go.Proofs.YtdokgalidhmbbaaGreatDoor
open Go.RowKit Go.Shelf Go.Lib
attribute [local go_sem] Oper.semAt_some
theorem KpH.put{w:World}{b j L i g f:Nat}(W:World)(l:Nat)(o a:Obj)(_:w.heap.size<=l)(h:W.heap[l]? =some o)(d:o.isCells=false)(_:o.isWalk=false):KpH b j L i g f W (W.putObj l a):=λc=>
 ⟨cell_kept c.head (grownBy_putObj' W l a) (λr e=>by cases e;exact⟨o,h,d⟩),cell_kept c.two (grownBy_putObj' W l a) (λr e=>by cases e;exact⟨o,h,d⟩)⟩
theorem V.below_dn{B:Nat}{a w:World}(h:Below B a w)(q:Nat):Below B a (w.drewN q):=⟨h.os,h.tape,h.output,h.size,h.block⟩
theorem Qy(W:World)(a b:Int):∀j u,[Value.int .i64 a,Value.int .i64 b][j]? =some u->(W.alloc (.cells #[.int .i64 a,.int .i64 b] 143)).cell? ((⟨W.heap.size,0,none⟩:Addr).add j)=some u:=by
 intro j u h
 match j,h with
 |0,h=>simp at h;subst h;simp[Addr.add]
 |1,h=>simp at h;subst h;simp[Addr.add]
 |j+2,h=>simp at h
def Xk(a:Nat):Nat:=if a=3 then 0 else 3
theorem zq0(g b a:Nat)(d:3<=b)(w:World):(Instr.slice 54 (.slice (some ⟨g,0,none⟩) b a) (some (.int .i64 3)) none none).run Tryz.prog w=.ok (.slice (some ⟨g,Xk a,none⟩) (b-3) (a-3)) w:=by
 have c:(3:Int)<=(b:Int):=by omega
 have e:=Tryz.underlying54;unfold Xk;by_cases h:a=3;.rw [if_pos h];go_simp
 rw [if_neg h];go_simp
theorem zmb(s:ByteArray)(w:World)(hF:V.Forms w)(hl:s.size<=maxLen)(b m d:Int)(i:List Int)(h:rd 25 (V.ints s)=some (b::m::d::i))(X:qp (b::m::d::i))(he:(i.length:Int)=2*m):
  Calls Tryz.prog 239 #[.string s] w λe w'=>((jV (b-d) i<0/\e=.returned (.tuple #[.slice none 0 0,xS]))\/(0<=jV (b-d) i/\∃v,e=.returned (.tuple #[v,.nilIface])/\Row w' v ((b-d,b)::pairs (b-d) i)/\Fits v))/\Below w.heap.size w w':=by
 have HC:=Km s w hF hl _ h;have hlen:(b::m::d::i).length<=25:=(Xv 25 _ _ (zu s) h).2.2;have m0:=X b (by simp);have m1:=X m (by simp);have m2:=X d (by simp);simp only[xS]at HC |-;refine(callsIn_wide (n:=5)).1 ?_;have bt:Fence.wide.fn 246:=trivial;have bs:Fence.wide.fn 183:=trivial;have g3:¬(((b::m::d::i).length:Nat):Int)<3:=by simp;omega
 have g4:(((b::m::d::i).length:Nat):Int)=3+2*m:=by simp;omega
 have g5:(1:Int)<(((b::m::d::i).length:Nat):Int):=by simp;omega
 have g6:(2:Int)<(((b::m::d::i).length:Nat):Int):=by simp;omega
 have g7:(3:Int)<=(((b::m::d::i).length:Nat):Int):=by simp;omega
 obtain⟨M,ai⟩:∃M:Nat,(M:Int)=m:=⟨m.toNat,by omega⟩;have ah:Hid ((M:Int)=m):=ai;have a8:Hid (i.length=2*M):=by show _=_;omega
 generalize R:(b::m::d::i).length=t at*;have HL:Hid ((b::m::d::i).length=t):=R;clear R ai;have HM:=zC X;clear X he h;have G4:Hid ((t:Int)=3+2*m):=g4;have gd:decide ((3:Int)+2*m<3)=false:=by simp;omega
 refine callsIn_of_wp_marks Tryz.func239 rfl trivial ?_ rfl;simp only[Tryz.ntmps239,List.size_toArray,List.length_cons,List.length_nil,Nat.reduceAdd,Nat.reduceSub,Array.replicate_succ,Array.replicate_zero,List.push_toArray,List.append_toArray,List.nil_append,List.cons_append];gi_wp2_with (gi_at_call 246;refine(callsIn_wide.2 HC).mono ?_;rintro e f ⟨v,rfl,ho,aj⟩;obtain⟨g,y,rfl,hcp,_,hg⟩:=ho.form (by simp);have q0:=ho.cell 0 (by simp);have q1:=ho.cell 1 (by simp);have q2:=ho.cell 2 (by simp);simp only[HL.out,List.getElem?_cons_succ,List.getElem?_cons_zero,Option.getD_some]at q0 q1 q2 hcp |-)
 gi_region
 have bx:Boxed (f.alloc (.cells #[.int .i64 (b-d)] 3)).drew f.heap.size 3 (.int .i64 (b-d)):=Boxed.new f 3 _;have sz1:(f.alloc (.cells #[.int .i64 (b-d)] 3)).drew.heap.size=f.heap.size+1:=by simp[World.drew]
 have hB1:Below f.heap.size f (f.alloc (.cells #[.int .i64 (b-d)] 3)).drew:=((Below.refl _ f).alloc (Nat.le_refl _) _).drew;have q0':=(hB1.cell (p:=⟨g,0,none⟩) hg).trans q0;generalize(f.alloc (.cells #[.int .i64 (b-d)] 3)).drew=W1 at*;have bc:=bx.cell;gi_wp2;rename_i K E;have ae:∀(o N:Nat) (q:World),Boxed q f.heap.size 3 (.int .i64 (b-d))->Boxed q o 88 (.slice (some ⟨N,0,none⟩) 1 1)->q.ownsRow f.heap.size 143 2 (.slice (some ⟨N,0,none⟩) 1 1) 1 (flat [(b-d,b)])->Below f.heap.size f q->q.heap.size=f.heap.size+3->f.heap.size<o->o<q.heap.size->K {tmps:=#[.string s,undef,.slice none 0 0,.nilIface,(.slice (some ⟨g,0,none⟩) t y),.nilIface,.pointer (some ⟨f.heap.size,0,none⟩),.pointer (some ⟨o,0,none⟩),undef,undef,.tuple #[(.slice (some ⟨g,0,none⟩) t y),.nilIface],.string s,.tuple #[(.slice (some ⟨g,0,none⟩) t y),.nilIface],(.slice (some ⟨g,0,none⟩) t y),.nilIface,.nilIface,.bool false,undef,(.slice (some ⟨g,0,none⟩) t y),.int .i64 (3+2*m),.bool false,.bool false,(.slice (some ⟨g,0,none⟩) t y),.int .i64 (3+2*m),(.slice (some ⟨g,0,none⟩) t y),.pointer (some ⟨g,1,none⟩),.int .i64 m,.int .i64 (2*m),.int .i64 (3+2*m),.bool false,.bool false,undef,(.slice (some ⟨g,0,none⟩) t y),.pointer (some ⟨g,0,none⟩),.int .i64 b,(.slice (some ⟨g,0,none⟩) t y),.pointer (some ⟨g,2,none⟩),.int .i64 d,.int .i64 (b-d),.int .i64 (b-d),(.slice (some ⟨g,0,none⟩) t y),.pointer (some ⟨g,0,none⟩),.int .i64 b,.agg #[.int .i64 (b-d),.int .i64 b],.slice (some ⟨N,0,none⟩) 1 1,undef,undef,undef,undef,undef,undef,undef,undef,undef,undef,undef,undef,undef,undef,undef,undef,undef,undef,undef,undef,undef,undef,undef,undef,undef],defers:=[]} q:=by
  intro o N q bL bO oR a6 a2 b7 a7;have a0:Hid (q.heap.size=f.heap.size+3):=a2;have a4:Hid (o<q.heap.size):=a7;clear bx bc q0' hB1 sz1 a2 a7;refine E _ _ ?_;clear E;obtain⟨P,a9⟩:∃P:Nat,Xk y=P:=⟨_,rfl⟩;obtain⟨L,R⟩:∃L:Nat,t-3=L:=⟨_,rfl⟩;obtain⟨C,hC⟩:∃C:Nat,y-3=C:=⟨_,rfl⟩;have T:L=2*M:=by have:=G4.out;have:=ah.out;omega
  have S:L<=C:=by omega
  have J:M<=11:=by omega
  have hsl:=zq0 g t y (by omega);rw[a9,R,hC]at hsl;have cl:Hid (∀x,x<M->f.cell? ⟨g,P+2*x,none⟩=some (.int .i64 (i[2*x]?.getD 0))/\f.cell? ⟨g,P+2*x+1,none⟩=some (.int .i64 (i[2*x+1]?.getD 0))):=by
   show∀x,_;intro x Y;have l0:=ho.cell (3+2*x) (by have:=a8.out;simp;omega);have l1:=ho.cell (3+2*x+1) (by have:=a8.out;simp;omega);have e2:P=3:=by rw[<-a9];unfold Xk;rw[if_neg (by omega)]
   subst e2;rw[l0,l1];have e0:3+2*x=2*x+1+1+1:=by omega
   have e1:3+2*x+1=2*x+1+1+1+1:=by omega
   rw[e1,e0];simp only[List.getElem?_cons_succ];exact⟨trivial,trivial⟩
  have b4:=zC T;have b3:=zC S;have b5:=zC J;have Hg:Hid (g<f.heap.size):=hg;have a3:Hid (Below w.heap.size w f):=aj;clear T S J a9 R hC q0 q1 q2 g4 g5 g6 g7 gd HC ho hcp hlen hF hl aj hg HL G4 ah;gi_wp2_with (gi_at_call 183;refine(J9 4 _ _ _ _).mono ?_;rintro e w' ⟨rfl,rfl⟩);have a2:=a0.out;have a7:=a4.out;have T:=b4.out;have S:=b3.out;have J:=b5.out;have bS:Boxed ((q.alloc (.cells #[.slice (some ⟨g,P,none⟩) L C] 54)).alloc (.cells #[.int .i64 2] 3)) q.heap.size 54 (.slice (some ⟨g,P,none⟩) L C):=(Boxed.new q 54 _).alloc _
  have bN:Boxed ((q.alloc (.cells #[.slice (some ⟨g,P,none⟩) L C] 54)).alloc (.cells #[.int .i64 2] 3)) (q.heap.size+1) 3 (.int .i64 2):=by
   have:=Boxed.new (q.alloc (.cells #[.slice (some ⟨g,P,none⟩) L C] 54)) 3 (.int .i64 2);rwa[World.size_alloc]at this
  have kL0:=(bL.alloc (.cells #[.slice (some ⟨g,P,none⟩) L C] 54)).alloc (.cells #[.int .i64 2] 3);have kO0:=(bO.alloc (.cells #[.slice (some ⟨g,P,none⟩) L C] 54)).alloc (.cells #[.int .i64 2] 3);have kr0:=(oR.alloc (.cells #[.slice (some ⟨g,P,none⟩) L C] 54)).alloc (.cells #[.int .i64 2] 3);have hB30:Below f.heap.size f ((q.alloc (.cells #[.slice (some ⟨g,P,none⟩) L C] 54)).alloc (.cells #[.int .i64 2] 3)):=(a6.alloc a6.size _).alloc (by simp;omega) _
  have sz3:((q.alloc (.cells #[.slice (some ⟨g,P,none⟩) L C] 54)).alloc (.cells #[.int .i64 2] 3)).heap.size=q.heap.size+2:=by simp
  generalize(q.alloc (.cells #[.slice (some ⟨g,P,none⟩) L C] 54)).alloc (.cells #[.int .i64 2] 3)=W3 at*
  refine wpIn_rangeFunc_ownG rfl (by decide) (gf:=211) (lb:=#[.pointer (some ⟨q.heap.size,0,none⟩),.pointer (some ⟨q.heap.size+1,0,none⟩)]) rfl trivial (enters_of Tryz.func211 (by kernel_rfl) rfl)
   (Ja (5-1) (by decide) g P M L C q.heap.size (q.heap.size+1) T (by omega) S W3 (by omega) (by omega) ⟨bS.cell,bN.cell⟩)
   (λh k hR=>k (h hR)) (KpH.put (w:=W3)) (Below.refl _ _) (λ_=>rfl)
   (λ(B:List (Ix M)) W=>Boxed W f.heap.size 3 (.int .i64 (xn i (b-d,[(b-d,b)]) (B.map λx=>x.1)).1)/\(∃v,Boxed W o 88 v/\W.ownsRow f.heap.size 143 2 v (B.length+1) (flat (xn i (b-d,[(b-d,b)]) (B.map λx=>x.1)).2)/\True)/\Boxed W q.heap.size 54 (.slice (some ⟨g,P,none⟩) L C)/\Boxed W (q.heap.size+1) 3 (.int .i64 2)/\Below f.heap.size f W)
   (λ_ _ _=>False)
   (OwnFrom.and (Own.from (boxed_own _ _ _) _) (OwnFrom.and (Own.from (holdsRow_own f.heap.size o 88 143 2 (λB:List (Ix M)=>B.length+1) (λB:List (Ix M)=>flat (xn i (b-d,[(b-d,b)]) (B.map λx=>x.1)).2) (λ_ _=>True)) _) (OwnFrom.and (Own.from (boxed_own _ _ _) _) (OwnFrom.and (Own.from (boxed_own _ _ _) _) (ownFrom_below (Nat.le_refl _) (by omega))))))
   (λ_ _ _ _ _ hs _ _=>hs)
   ⟨kL0,⟨_,kO0,kr0,trivial⟩,bS,bN,hB30⟩
   (λx=>{tmps:=#[.string s,undef,.slice none 0 0,.nilIface,(.slice (some ⟨g,0,none⟩) t y),.nilIface,.pointer (some ⟨f.heap.size,0,none⟩),.pointer (some ⟨o,0,none⟩),.slice (some ⟨g,P+2*x.1,none⟩) 2 2,undef,.tuple #[(.slice (some ⟨g,0,none⟩) t y),.nilIface],.string s,.tuple #[(.slice (some ⟨g,0,none⟩) t y),.nilIface],(.slice (some ⟨g,0,none⟩) t y),.nilIface,.nilIface,.bool false,undef,(.slice (some ⟨g,0,none⟩) t y),.int .i64 (3+2*m),.bool false,.bool false,(.slice (some ⟨g,0,none⟩) t y),.int .i64 (3+2*m),(.slice (some ⟨g,0,none⟩) t y),.pointer (some ⟨g,1,none⟩),.int .i64 m,.int .i64 (2*m),.int .i64 (3+2*m),.bool false,.bool false,undef,(.slice (some ⟨g,0,none⟩) t y),.pointer (some ⟨g,0,none⟩),.int .i64 b,(.slice (some ⟨g,0,none⟩) t y),.pointer (some ⟨g,2,none⟩),.int .i64 d,.int .i64 (b-d),.int .i64 (b-d),(.slice (some ⟨g,0,none⟩) t y),.pointer (some ⟨g,0,none⟩),.int .i64 b,.agg #[.int .i64 (b-d),.int .i64 b],.slice (some ⟨N,0,none⟩) 1 1,(.slice (some ⟨g,0,none⟩) t y),.slice (some ⟨g,P,none⟩) L C,.func (.func 211) #[] #[.pointer (some ⟨q.heap.size,0,none⟩),.pointer (some ⟨q.heap.size+1,0,none⟩)],.slice (some ⟨g,P+2*x.1,none⟩) 2 2,undef,undef,undef,undef,undef,undef,undef,undef,undef,undef,undef,undef,undef,undef,undef,undef,undef,undef,undef,undef,undef],defers:=[]}) ?assign ?body ?done ?stop
  all_goals clear bL bO oR a6 bS bN kL0 kO0 kr0 hB30 hsl T S a2
  case assign=>
   intro l x W K E;clear sz3 J;gi_wp2;exact E
  case body=>
   rintro l B ⟨x,Y⟩ W ⟨kL,⟨v,kO,kr,_⟩,kS,kN,G⟩ be;have Y:x<M:=Y;obtain⟨cx0,cx1⟩:=cl.out x Y;have z0:=(G.cell (p:=⟨g,P+2*x,none⟩) Hg.out).trans cx0;have z1:=(G.cell (p:=⟨g,P+2*x+1,none⟩) Hg.out).trans cx1;have hbd:=WM (rest:=i) (λz Z=>HM.out z (by simp[Z])) (B.map λx=>x.1) (b-d,[(b-d,b)]);have hal:=WN i (B.map λx=>x.1) (b-d,[(b-d,b)]);rw[List.length_map]at hbd hal;have na:=XO (rest:=i) (λz Z=>HM.out z (by simp[Z])) (2*x)
   have nb:=XO (rest:=i) (λz Z=>HM.out z (by simp[Z])) (2*x+1);have HS:Hid (xn i (b-d,[(b-d,b)]) ((B++[(⟨x,Y⟩:Ix M)]).map λx=>x.1)=stp i (xn i (b-d,[(b-d,b)]) (B.map λx=>x.1)) x):=by
    show _=_;rw[List.map_append];exact zar _ _ _ _
   simp only at hbd hal;generalize xn i (b-d,[(b-d,b)]) (B.map λx=>x.1)=r at*;have hSt:Hid (stp i r x=(r.1-i[2*x]?.getD 0-2-i[2*x+1]?.getD 0,r.2++[(r.1-i[2*x]?.getD 0-2-i[2*x+1]?.getD 0,r.1-i[2*x]?.getD 0-2)])):=rfl;generalize i[2*x]?.getD 0=Q at*;generalize i[2*x+1]?.getD 0=U at*;have al:B.length<12:=by omega
   have bp:r.1<=1073741824/\ -60000000000<=r.1:=by omega
   have ad:=zC al;have bl:=kL.cell;have bv:=kL.frozen;have bn:=kO.cell;have bw:=kO.frozen;obtain⟨I,H,rfl⟩:=ownsRow_succ kr;have bo:Hid (W3.heap.size=q.heap.size+2):=sz3;clear cx0 cx1 cl hbd hal be al m0 m1 m2 J sz3;gi_wp2;refine zpa (F:=Fence.wide) rfl (by kernel_rfl) (by kernel_rfl) rfl ?_;repeat (gi_big_quiet_step (fail))
   refine wpQuietIn_nil ?_;intro _ bi;obtain⟨A,bj⟩:=bi;subst bj;have ab:Boxed (W.drewN A) f.heap.size 3 (.int .i64 r.1):=kL;have ay:Boxed (W.drewN A) o 88 (.slice (some ⟨I,0,none⟩) (B.length+1) H):=kO;have b1:Boxed (W.drewN A) q.heap.size 54 (.slice (some ⟨g,P,none⟩) L C):=kS;have ax:Boxed (W.drewN A) (q.heap.size+1) 3 (.int .i64 2):=kN;have ac:(W.drewN A).ownsRow f.heap.size 143 2 (.slice (some ⟨I,0,none⟩) (B.length+1) H) (B.length+1) (flat r.2):=kr
   have au:=ab.set (.int .i64 (r.1-Q-2-U));have bm:=ay.other (B':=f.heap.size) (by omega) (.int .i64 (r.1-Q-2-U));have b0:=b1.other (B':=f.heap.size) (by have:=a0.out;omega) (.int .i64 (r.1-Q-2-U));have aw:=ax.other (B':=f.heap.size) (by have:=a0.out;omega) (.int .i64 (r.1-Q-2-U));have b2:=ownsRow_setCell_other (a:=⟨f.heap.size,0,none⟩) ac (λe=>(ab.not_row (by decide) ac) e.symm) (.int .i64 (r.1-Q-2-U))
   have b6:=(V.below_dn G A).setCell (p:=⟨f.heap.size,0,none⟩) (Nat.le_refl _) (.int .i64 (r.1-Q-2-U));have KO:KeepsOthers W ((W.drewN A).setCell ⟨f.heap.size,0,none⟩ (.int .i64 (r.1-Q-2-U))):=⟨(KeepsOthers.setCell (W.drewN A) ⟨f.heap.size,0,none⟩ (.int .i64 (r.1-Q-2-U))).size,(KeepsOthers.setCell (W.drewN A) ⟨f.heap.size,0,none⟩ (.int .i64 (r.1-Q-2-U))).same⟩;have am:((W.drewN A).setCell ⟨f.heap.size,0,none⟩ (.int .i64 (r.1-Q-2-U))).heap.size=W.heap.size:=by simp
   have cs2:=Qy ((W.drewN A).setCell ⟨f.heap.size,0,none⟩ (.int .i64 (r.1-Q-2-U))) (r.1-Q-2-U) (r.1-Q-2);rw[am]at cs2;have CS:Hid (∀j u,[Value.int .i64 (r.1-Q-2-U),Value.int .i64 (r.1-Q-2)][j]? =some u->(((W.drewN A).setCell ⟨f.heap.size,0,none⟩ (.int .i64 (r.1-Q-2-U))).alloc (.cells #[.int .i64 (r.1-Q-2-U),.int .i64 (r.1-Q-2)] 143)).cell? ((⟨W.heap.size,0,none⟩:Addr).add j)=some u):=cs2;have bg:f.heap.size<=W.heap.size:=G.size
   have O:Hid (((W.drewN A).setCell ⟨f.heap.size,0,none⟩ (.int .i64 (r.1-Q-2-U))).ownsRow f.heap.size 143 2 (.slice (some ⟨I,0,none⟩) (B.length+1) H) (B.length+1) (flat r.2)):=b2;clear cs2 ac ab ay b1 ax;obtain⟨i0,ak,ap,aq,ar⟩:=info_parts wX;have HI:Hid (Tryz.prog.info? 143=some i0/\i0.zero=some (.agg #[.int .i64 0,.int .i64 0])/\i0.size=2/\i0.bytes=16):=⟨ak,ap,aq,ar⟩;clear ak ap aq ar b2;gi_wp2_with (gi_at_builtin;refine wpListIn_append_own _ rfl _ _ 88 rfl f.heap.size 143 i0 _ 2 16 Tryz.underlying88 HI.out.1 HI.out.2.1 HI.out.2.2.1 HI.out.2.2.2 rfl (by decide) _ _ _ rfl (O.out.alloc _) ⟨W.heap.size,0,none⟩ 1 1 [Value.int .i64 (r.1-Q-2-U),Value.int .i64 (r.1-Q-2)] rfl rfl CS.out (by intro u hu;simp at hu;rcases hu with rfl|rfl<;>rfl) (by have:=ad.out;unfold maxLen;omega) (by have:=ad.out;omega) (by simp;omega) ?_;intro v' w4 hown' a1 _;obtain⟨g',a5,rfl⟩:=ownsRow_succ hown';obtain⟨an,bh,bf,bb,ba⟩:=bm.appended (by decide) O.out (by rw[am];exact bg) (Nat.le_of_lt b7) hown' a1;have bq:=an.cell;have br:=an.frozen)
   have bk:=((au.alloc _).kept a1 (au.not_row (by decide) O.out)).other (B':=o) (by omega) (.slice (some ⟨g',0,none⟩) (B.length+1+1) a5);have az:=((b0.alloc _).kept a1 (b0.not_row (by decide) O.out)).other (B':=o) (by have:=a4.out;omega) (.slice (some ⟨g',0,none⟩) (B.length+1+1) a5);have av:=((aw.alloc _).kept a1 (aw.not_row (by decide) O.out)).other (B':=o) (by have:=a4.out;omega) (.slice (some ⟨g',0,none⟩) (B.length+1+1) a5)
   refine⟨(KO.trans bb).from _,λ_=>⟨az.cell,av.cell⟩,?_,⟨_,bh,?_,trivial⟩,az,av,b6.trans ba⟩;rw [HS.out,hSt.out];exact bk;rw [HS.out,hSt.out,List.length_append,xL];exact bf
  case done=>
   rintro D ys W hD aa ⟨kL,⟨v,kO,kr,_⟩,kS,kN,G⟩ E;have hal:=zaq M i (b-d) [(b-d,b)] a8.out;rw[aa,hal]at kL kr;have ao:ys.length=M:=by have:=congrArg List.length aa;simpa using this
   rw[ao]at kr;have HKR:Hid (W.ownsRow f.heap.size 143 2 v (M+1) (flat ((b-d,b)::pairs (b-d) i))):=kr;obtain⟨I,H,rfl⟩:=ownsRow_succ kr;simp only at kL;have bl:=kL.cell;have bn:=kO.cell;have af:Hid (Below w.heap.size w W):=a3.out.trans (G.mono a3.out.size);have ag:Hid (w.heap.size<=D):=by
    show _<=_;have:=a0.out;have:=a3.out.size;omega
   have b9:Hid (Row (W.putObj D (.deferred none)) (.slice (some ⟨I,0,none⟩) (M+1) H) ((b-d,b)::pairs (b-d) i)):=vY (ownsRow_putObj kr _ E rfl) (by
    have:=Xo (zs:=(b-d,b)::pairs (b-d) i) HKR.out;omega)
   have b8:Hid (Fits (.slice (some ⟨I,0,none⟩) (M+1) H)):=Y8 kr;clear hal aa kr kS kN ao J sz3 G;by_cases bd:jV (b-d) i<0
   .gi_wp2
    refine⟨by simp,.inl ⟨_,_,rfl,run_takeDeferred E,?_⟩⟩
    exact⟨_,results_tmp2 rfl _ _ _,.inl ⟨bd,rfl⟩,af.out.trans (belowK_b (w:=w) (Nat.le_refl _) W D _ _ ag.out E rfl rfl)⟩
   have bu:0<=jV (b-d) i:=by omega
   gi_wp2;refine⟨by simp,.inl ⟨_,_,rfl,run_takeDeferred E,?_⟩⟩;exact⟨_,results_tmp2 rfl _ _ _,.inr ⟨_,rfl,b9.out,b8.out⟩,af.out.trans (belowK_b (w:=w) (Nat.le_refl _) W D _ _ ag.out E rfl rfl)⟩
  case stop=>
   rintro D c B W _ _ h _;exact h.elim
 gi_region
 refine ae (f.heap.size+1+1) (f.heap.size+1) _ ((bx.alloc _).alloc _) ?_ ?_ (((hB1.alloc (by omega) _).alloc (by simp;omega) _).drew) (by simp[World.drew];omega) (by omega) (by simp[World.drew];omega);have:=Boxed.new (W1.alloc (.cells #[.int .i64 (b-d),.int .i64 b] 143)) 88 (.slice (some ⟨f.heap.size+1,0,none⟩) 1 1);rw[World.size_alloc,sz1]at this;exact this;have:=(World.ownsRow_lit (base:=f.heap.size) (e:=143) (size:=2) W1 #[.int .i64 (b-d),.int .i64 b] 1 (by omega) (by decide) rfl).alloc (.cells #[.slice (some ⟨f.heap.size+1,0,none⟩) 1 1] 88);rw[sz1]at this;exact this
 refine ae (f.heap.size+1) (f.heap.size+1+1) _ ((bx.alloc _).alloc _) ?_ ?_ (((hB1.alloc (by omega) _).alloc (by simp;omega) _).drew) (by simp[World.drew];omega) (by omega) (by simp[World.drew];omega);have:=(Boxed.new W1 88 (.slice (some ⟨f.heap.size+1+1,0,none⟩) 1 1)).alloc (.cells #[.int .i64 (b-d),.int .i64 b] 143);rw[sz1]at this;exact this;have:=World.ownsRow_lit (base:=f.heap.size) (e:=143) (size:=2) (W1.alloc (.cells #[.slice (some ⟨f.heap.size+1+1,0,none⟩) 1 1] 88)) #[.int .i64 (b-d),.int .i64 b] 1 (by simp;omega) (by decide) rfl;rw[World.size_alloc,sz1]at this;exact this
end Go.Proofs.YtdokgalidhmbbaaGreatDoor
namespace Go.Proofs.YtdokgalidhmbbaaGreatDoor
open Go.RowKit Go.Lib Go.Sort
theorem dA(s:ByteArray)(w:World)(f:V.Forms w)(g:s.size<=maxLen):
  Calls Tryz.prog 239 #[.string s] w λe E=>((parse (V.ints s)=none/\e=.returned (.tuple #[.slice none 0 0,xS]))\/(∃J v,parse (V.ints s)=some J/\e=.returned (.tuple #[v,.nilIface])/\Row E v J/\Fits v))/\Below w.heap.size w E:=by
 cases a:rd 25 (V.ints s)with
 |none=>
  refine(zmf s w f g a).mono λe E ⟨b,c⟩=>⟨.inl ⟨?_,b⟩,c⟩;simp[parse,a]
 |some M=>
  obtain⟨_,h,n⟩:=Xv 25 _ _ (zu s) a
  have r:parse (V.ints s)=kH M:=by simp[parse,a]
  rw[r]
  match M,a,h,n with
  |[],a,_,_=>exact(Kz s w f g _ a (by simp)).mono λe E ⟨b,c⟩=>⟨.inl ⟨rfl,b⟩,c⟩
  |[_],a,_,_=>exact(Kz s w f g _ a (by simp)).mono λe E ⟨b,c⟩=>⟨.inl ⟨rfl,b⟩,c⟩
  |[_,_],a,_,_=>exact(Kz s w f g _ a (by simp)).mono λe E ⟨b,c⟩=>⟨.inl ⟨rfl,b⟩,c⟩
  |l::m::d::j,a,h,n=>
   by_cases i:(j.length:Int)=2*m;refine (zmb s w f g l m d j a h i).mono ?_;rintro e E ⟨⟨k,b⟩|⟨k,v,b,p,q⟩,c⟩;exact ⟨.inl ⟨by simp only[kH];rw[if_neg (by omega)],b⟩,c⟩;exact ⟨.inr ⟨_,v,by simp only[kH];rw[if_pos ⟨i,k⟩],b,p,q⟩,c⟩;refine (zme s w f g l m d j a (h m (by simp)) i).mono λe E ⟨b,c⟩=>⟨.inl ⟨?_,b⟩,c⟩;simp only[kH];rw[if_neg (by omega)]
theorem zmd(s:ByteArray)(w:World)(a:V.Forms w)(d:s.size<=maxLen)(h:parse (V.ints s)=none):
  Cl 239 #[.string s] w (.tuple #[.slice none 0 0,.iface 133 (.int .i64 2)]):=by
 refine(dA s w a d).mono ?_;rintro e E ⟨⟨_,c⟩|⟨J,v,h1,_⟩,b⟩;exact ⟨c,b⟩;rw [h]at h1;cases h1
theorem zmg(s:ByteArray)(w:World)(a:V.Forms w)(g:s.size<=maxLen)(J:List R)(h:parse (V.ints s)=some J):
  Calls Tryz.prog 239 #[.string s] w λe E=>∃v,e=.returned (.tuple #[v,.nilIface])/\Row E v J/\Fits v/\Below w.heap.size w E:=by
 refine(dA s w a g).mono ?_;rintro e E ⟨⟨h1,_⟩|⟨i,v,h1,d,b,f⟩,c⟩;rw [h]at h1;cases h1;rw [h]at h1;cases h1;exact⟨v,d,b,f,c⟩
theorem zfw{J:List R}(h:Good J)(a:J≠ []):(strOfNums (enc J)).size<=97:=by
 rw[strOfNums_size];have:=Jo h a;have:=h.1;omega
theorem J6(n:Int)(w:World)(h:V.zH n=true):Calls Tryz.prog 28 #[.int .i64 n] w λe E=>e=.returned (.string (strOfNums (V.nums n)))/\∃q g,E=grow (w.drewN q) g:=by
 obtain⟨i,j⟩:=V.zo h;by_cases a:n<64
 .have e:V.nums n=[n]:=by simp[V.nums,a]
  have c:V.zy n=1:=by simp[V.zy,a]
  have d:=V.vv [n] w #[.int .u8 n] rfl;rw[e];simp only[List.length_cons,List.length_nil,Nat.reduceAdd]at d;go_enter Tryz.func28,Tryz.ntmps28
  go_wp2_with fail;refine(V.wH n _).mono ?_;rintro e f ⟨rfl,rfl⟩;rw[c];clear c;go_wp2_with fail;go_ret;exact⟨rfl,0,_,by rw[alloc_eq_grow];rfl⟩
 by_cases b:n<16384
 .have e:V.nums n=[64+n/256,n%256]:=by simp[V.nums,a,b]
  have c:V.zy n=2:=by simp[V.zy,a,b]
  have d:=V.vv [64+n/256,n%256] w #[.int .u8 (64+n/256),.int .u8 (n%256)] rfl;rw[e];simp only[List.length_cons,List.length_nil,Nat.reduceAdd]at d;go_enter Tryz.func28,Tryz.ntmps28
  go_wp2_with fail;refine(V.wH n _).mono ?_;rintro e f ⟨rfl,rfl⟩;rw[c];clear c;go_wp2_with fail;go_ret;exact⟨rfl,0,_,by rw[alloc_eq_grow];rfl⟩
 have e:V.nums n=[128+n/16777216,n/65536%256,n/256%256,n%256]:=by simp[V.nums,a,b]
 have c:V.zy n=4:=by simp[V.zy,a,b]
 have d:=V.vv [128+n/16777216,n/65536%256,n/256%256,n%256] w #[.int .u8 (128+n/16777216),.int .u8 (n/65536%256),.int .u8 (n/256%256),.int .u8 (n%256)] rfl;rw[e];simp only[List.length_cons,List.length_nil,Nat.reduceAdd]at d;go_enter Tryz.func28,Tryz.ntmps28
 go_wp2_with fail;refine(V.wH n _).mono ?_;rintro e f ⟨rfl,rfl⟩;rw[c];clear c;go_wp2_with fail;go_ret;exact⟨rfl,0,_,by rw[alloc_eq_grow];rfl⟩
theorem vJ(a b:List Int):strOfNums (a++b)=strOfNums a++strOfNums b:=by
 apply ByteArray.ext;simp[strOfNums]
def vF(r:R)(a:List R)(k:Nat):ByteArray:=strOfNums ((part r a k).flatMap V.nums)
theorem zl3(r:R)(a:List R):strOfNums (V.nums r.2)++strOfNums (V.nums (a.length:Int))++strOfNums (V.nums (r.2-r.1))=vF r a 0:=by
 simp[vF,dD,vJ,ByteArray.append_assoc]
theorem aL(r:R)(a:List R)(k:Nat)(h:k<=a.length):lst r.1 (a.take k)=(at' (r::a) k).1:=by
 cases k with
 |zero=>simp[lst,at']
 |succ k=>
  rw[take_at (by omega),K4];simp[at']
theorem zl2(r:R)(a:List R)(k:Nat)(h:k<a.length):vF r a k++strOfNums (V.nums ((at' (r::a) k).1-(at' (r::a) (k+1)).2-2))++strOfNums (V.nums ((at' (r::a) (k+1)).2-(at' (r::a) (k+1)).1))=vF r a (k+1):=by
 have e:at' (r::a) (k+1)=at' a k:=by simp[at']
 unfold vF;rw[VA r a k h,aL r a k (by omega),e,List.flatMap_append,vJ];simp only[List.flatMap_cons,List.flatMap_nil,List.append_nil,vJ,ByteArray.append_assoc]
theorem bC:∀(J:List R) (k:Nat),jK J->jK (J.take k)
 |[],k,h=>by simp[jK]
 |r::a,0,h=>trivial
 |r::a,k+1,h=>⟨h.1,λs b=>h.2.1 s (List.mem_of_mem_take b),bC a k h.2.2⟩
theorem zkb{r:R}{a:List R}(h:Good (r::a))(k:Nat):qp (part r a k):=by
 obtain⟨g,f,c⟩:=h;have b:=f r (by simp);have d:=c.1;simp only[List.length_cons]at g;intro z hz;simp only[part,List.mem_cons]at hz;rcases hz with rfl|rfl|rfl|hz;.omega
 .omega
 .omega
 exact K8 (a.take k) r.1 (by omega) (λs e=>f s (by simp[List.mem_of_mem_take e])) (λs e=>c.2.1 s (List.mem_of_mem_take e)) (bC a k c.2.2) z hz
theorem zl1{r:R}{a:List R}(h:Good (r::a))(k:Nat)(b:k<=a.length):(vF r a k).size<=100:=by
 unfold vF;rw[strOfNums_size];have:=yc (part r a k);rw[dC r a k b]at this;have:=h.1;simp only[List.length_cons]at this;omega
theorem ym(n:Int):(strOfNums (V.nums n)).size<=4:=by rw[strOfNums_size];exact V.Zg n
theorem zoh(b f c N:Nat)(r:R)(a:List R)(w:World)(K:a.length+1=c)(B:Good (r::a))(h:b<w.heap.size)(U:Cells w b f (r::a)):
  Cl 114 #[.slice (some ⟨b,f,none⟩) c N] w (.string (strOfNums (enc (r::a)))):=by
 have W:a.length+1<=12:=by have:=B.1;simp at this;omega
 have q:=zC B;have H:=zC U;have o:=zC K;have a5:(0:Int)<(c:Int):=by omega
 have a0:0<=r.1/\r.1<=r.2/\r.2<=1073741823:=by have:=B.2.1 r (by simp);exact⟨this.1,B.2.2.1,this.2⟩
 have a4:0<c:=by omega
 have a3:c<=12:=by omega
 have c0:=(U 0 (by simp)).1;have c1:=(U 0 (by simp)).2;rw[show at' (r::a) 0=r from rfl]at c0 c1;simp only[Nat.zero_mul,Nat.add_zero]at c0 c1;clear B U K W;have mx:=mixed;go_enter Tryz.func114,Tryz.ntmps114
 go_wp2_with fail;refine(V.ZC r.2 _ ((xG _).2 (by omega))).mono ?_;rintro e w1 ⟨rfl,Q⟩;have q0:=(Q.cell (p:=⟨b,f,none⟩) h).trans c0;have q1:=(Q.cell (p:=⟨b,f+1,none⟩) h).trans c1;go_wp2_with fail;refine(V.ZC ((c:Int)-1) _ ((xG _).2 (by omega))).mono ?_;rintro e F ⟨rfl,T⟩;have y:=Q.trans (T.mono Q.size);have L:=(y.cell (p:=⟨b,f,none⟩) h).trans c0;have M:=(y.cell (p:=⟨b,f+1,none⟩) h).trans c1;have I:b<F.heap.size:=Nat.lt_of_lt_of_le h y.size
 have z:∀n g,(grow (F.drewN n) g).cell? ⟨b,f,none⟩=some (.int .i64 r.1):=cell_grown I L;have s:∀n g,(grow (F.drewN n) g).cell? ⟨b,f+1,none⟩=some (.int .i64 r.2):=cell_grown I M;have ad:IntKind.i64.wrap (r.2-r.1)=r.2-r.1:=by simp[IntKind.wrap,IntKind.bits,IntKind.signed];omega
 have Z:V.zH (r.2-r.1)=true:=(xG _).2 (by omega);clear c0 c1 q0 q1 L M;go_wp2_with fail;go_quiet_grown (first|(go_at_call 28;refine Calls.grown_of (J6 _ _ Z)))
 have hB3:Below w.heap.size w (grow (F.drewN nq) osq):=below_grow (below_drewN y _) y.size _;generalize grow (F.drewN nq) osq=w3 at*;clear z s;have HZ:Hid (strOfNums (V.nums r.2)++strOfNums (V.nums ((c:Int)-1))++strOfNums (V.nums (r.2-r.1))=vF r a 0):=by
  show _=_;rw[<-zl3,show((a.length:Nat):Int)=(c:Int)-1 by have:=o.out;omega]
 have s1:=ym r.2;have s2:=ym ((c:Int)-1);have s3:=ym (r.2-r.1);generalize strOfNums (V.nums r.2)=D at*;generalize strOfNums (V.nums ((c:Int)-1))=E at*;generalize strOfNums (V.nums (r.2-r.1))=x3 at*;have a8:(D++E).size<=8:=by rw[ByteArray.size_append];omega
 have t1:D.size+E.size<=9223372036854775807:=by omega
 have t2:(D++E).size+x3.size<=9223372036854775807:=by omega
 go_wp2_with fail;go_loopw [6,7] (λsv i wr=>∃k:Nat,k+1<=c/\i=.int .i64 ((k:Int)+1)/\sv=.string (vF r a k)/\Below w.heap.size w wr) (λ_ i _=>c-(intOf i).toNat)
 case atStart=>exact⟨0,by omega,by simp,by rw[HZ.out],hB3⟩
 case round=>
  obtain⟨k,hk,rfl,rfl,t⟩:=hrel;by_cases a6:k+1<c
  .have u:k<a.length:=by have:=o.out;omega
   have O:(k:Int)+1<(c:Int):=by omega
   have gk:(k:Int)<(c:Int):=by omega
   have cc:=H.out.below h t (k+1) (by simp;omega);have cp:=H.out.below h t k (by simp;omega);have HP:Hid (vF r a k++strOfNums (V.nums ((at' (r::a) k).1-(at' (r::a) (k+1)).2-2))++strOfNums (V.nums ((at' (r::a) (k+1)).2-(at' (r::a) (k+1)).1))=vF r a (k+1)):=zl2 r a k u;have hpm:=zkb q.out (k+1);rw[VA r a k u,aL r a k (by omega),show at' a k=at' (r::a) (k+1) by simp[at']]at hpm;have m1:=hpm ((at' (r::a) k).1-(at' (r::a) (k+1)).2-2) (by simp)
   have m2:=hpm ((at' (r::a) (k+1)).2-(at' (r::a) (k+1)).1) (by simp);have bx:=q.out.2.1 _ (at_mem (zs:=r::a) (j:=k+1) (by simp;omega));have by':=q.out.2.1 _ (at_mem (zs:=r::a) (j:=k) (by simp;omega));have lx:=kG q.out.2.2 _ (at_mem (zs:=r::a) (j:=k+1) (by simp;omega));have ly:=kG q.out.2.2 _ (at_mem (zs:=r::a) (j:=k) (by simp;omega));have a7:=zl1 q.out k (by omega);clear hpm u HZ;generalize vF r a k=C at*
   generalize at' (r::a) (k+1)=x at*;generalize at' (r::a) k=p at*;obtain⟨m,d⟩:=x;obtain⟨l,ph⟩:=p;simp only at cc cp HP m1 m2 bx by' lx ly;have A:b<wr.heap.size:=Nat.lt_of_lt_of_le h t.size;have z:∀n g,(grow (wr.drewN n) g).cell? ⟨b,f+k*2,none⟩=some (.int .i64 l):=cell_grown A cp.1;have s:∀n g,(grow (wr.drewN n) g).cell? ⟨b,f+(k+1)*2,none⟩=some (.int .i64 m):=cell_grown A cc.1;have P:∀n g,(grow (wr.drewN n) g).cell? ⟨b,f+(k+1)*2+1,none⟩=some (.int .i64 d):=cell_grown A cc.2
   have a9:IntKind.i64.wrap (k:Int)=(k:Int):=by simp[IntKind.wrap,IntKind.bits,IntKind.signed];omega
   have aa:IntKind.i64.wrap (l-d)=l-d:=by simp[IntKind.wrap,IntKind.bits,IntKind.signed];omega
   have ab:IntKind.i64.wrap (l-d-2)=l-d-2:=by simp[IntKind.wrap,IntKind.bits,IntKind.signed];omega
   have ac:IntKind.i64.wrap (d-m)=d-m:=by simp[IntKind.wrap,IntKind.bits,IntKind.signed];omega
   have X:V.zH (l-d-2)=true:=(xG _).2 m1;have Y:V.zH (d-m)=true:=(xG _).2 m2;have a1:¬(k:Int)<0:=by omega
   have a2:¬(k:Int)+1<0:=by omega
   clear cc cp;go_wp2_with fail;go_quiet_grown (first|(go_at_call 28;refine Calls.grown_of (J6 _ _ X)))
   have hBa:Below w.heap.size w (grow (wr.drewN nq) osq):=below_grow (below_drewN t _) t.size _;have f1:=s nq osq;have f2:=P nq osq;generalize grow (wr.drewN nq) osq=v at*;clear z s P;have J:b<v.heap.size:=Nat.lt_of_lt_of_le h hBa.size;have s:∀n g,(grow (v.drewN n) g).cell? ⟨b,f+(k+1)*2,none⟩=some (.int .i64 m):=cell_grown J f1;have P:∀n g,(grow (v.drewN n) g).cell? ⟨b,f+(k+1)*2+1,none⟩=some (.int .i64 d):=cell_grown J f2
   clear f1 f2;go_wp2_with fail;go_quiet_grown (first|(go_at_call 28;refine Calls.grown_of (J6 _ _ Y)))
   have hBb:Below w.heap.size w (grow (v.drewN nq) osq):=below_grow (below_drewN hBa _) hBa.size _;generalize grow (v.drewN nq) osq=Wb at*;clear s P;have s4:=ym (l-d-2);have s5:=ym (d-m);generalize strOfNums (V.nums (l-d-2))=G at*;generalize strOfNums (V.nums (d-m))=y2 at*;have t3:(C++G).size<=104:=by rw[ByteArray.size_append];omega
   have t4:C.size+G.size<=9223372036854775807:=by omega
   have t5:(C++G).size+y2.size<=9223372036854775807:=by omega
   go_wp2_with fail;exact⟨⟨k+1,by omega,by go_num,by rw[HP.out],hBb⟩,by simp[intOf];omega⟩
  have u:k=a.length:=by have:=o.out;omega
  have S:Hid (vF r a k=strOfNums (enc (r::a))):=by
   show _=_;unfold vF enc;rw[u,dB]
  have O:¬(k:Int)+1<(c:Int):=by omega
  clear u HZ;go_wp2_with fail;go_ret;exact⟨by rw[S.out];rfl,t⟩
theorem zog(v:Value)(J:List R)(w:World)(d:Row w v J)(i:Good J)(a:J≠ []):
  Cl 114 #[v] w (.string (strOfNums (enc J))):=by
 obtain⟨l,c,rfl,m,n,h⟩:=d;rcases h with h|⟨b,j,rfl,f,g⟩;exact absurd h a;cases J with
 |nil=>exact absurd rfl a
 |cons r k=>exact zoh b j _ c r k w rfl i f g
end Go.Proofs.YtdokgalidhmbbaaGreatDoor
