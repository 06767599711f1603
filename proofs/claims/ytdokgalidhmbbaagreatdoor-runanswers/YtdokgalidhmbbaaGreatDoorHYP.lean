/- What the law RunAnswers needs. -/
import Derived.Test.YtdokgalidhmbbaaGreatDoorHDE
import Derived.Test.YtdokgalidhmbbaaGreatDoorHWQ
set_option linter.unusedVariables false
set_option linter.unusedSimpArgs false
set_option maxRecDepth 100000
set_option maxHeartbeats 8000000
namespace Go.Proofs.YtdokgalidhmbbaaGreatDoor
namespace Rn
open Go.RowKit
structure Nr(K:Nat)(e:En):Prop where
 inv:EInv e
 m:e.m<=K
 nx:zU e<=65537*K
 rd:e.c.read=e.s.tk
 cm:∀i,e.s.cm i=true->(i:Int)<e.c.came
def Qm(b:ByteArray):Prop:=∀a n c,xZ b a=some (n,c)->n<=a+65536
variable {e:En}
theorem zkt{M:Int}(h:EInv e)(a:0<=M)(hm:∀q,Mem e.cm q->q<M):zU e<=M:=by
 unfold zU
 cases b:e.cm with
 |nil=>exact a
 |cons r c=>
  have hn:=((x9 e.cm).1 h.cm).2.2;rw[b]at hn hm;have:=hm r.2 ⟨r,List.mem_cons_self,hn.1,Int.le_refl _⟩;simp only;omega
variable {K:Nat}
theorem Nr.more{a:Nat}(h:Nr K e)(b:K<=a):Nr a e:=⟨h.inv,Nat.le_trans h.m b,by have:=h.nx;omega,h.rd,h.cm⟩
theorem Nr.new:Nr 0 (zi 20):=⟨EInv.new rfl,Nat.le_refl _,by simp[zi,zU],rfl,λi a=>by simp[zi,Sx.qE]at a⟩
theorem Nr.write(h:Nr K e)(b:ByteArray):Nr K (xR e b):=by
 have hi:=h.inv.write b;unfold xR at hi |-;split;exact h;rename_i a;rw[if_neg a]at hi;exact⟨hi,h.m,h.nx,h.rd,h.cm⟩
theorem Nr.make(h:Nr K e):Nr (K+1) (q9 e):=by
 have hi:=h.inv.make;have a:=h.more (Nat.le_succ K);unfold q9 at hi |-;split;rename_i b;rw[if_pos b]at hi;exact⟨hi,Nat.succ_le_succ h.m,a.nx,h.rd,h.cm⟩;exact a
variable {n:Int}
theorem Nr.ready(h:Nr K e)(j:0<=n):xH e n=0:=by
 unfold xH;rw[if_neg (by omega)];have a:=h.inv.c;have f:=h.inv.s;have i:=Sx.ZU e.s n;have l:=f.t;have k:=h.rd;have q:=a.w1;have r:=a.w2;have g:=a.c1;have d:((Sx.takeN e.s n:Nat):Int)<=e.c.came-e.c.read:=by
  by_cases b:Sx.takeN e.s n=0;rw [b];omega;have c:Sx.takeN e.s n<=Sx.xP e.s:=Nat.min_le_right _ _;have:=h.cm _ (Sx.Ve e.s.cm (60-e.s.tk) e.s.tk (Sx.takeN e.s n-1) (by unfold Sx.xP at c;omega));omega
 refine Cx.Yj (by omega) d (decide_eq_true ?_);have p:=a.l2;have m:=a.l1;unfold Cx.xN;split<;>omega
theorem Nr.read(h:Nr K e)(n:Int):Nr K (qg e n):=by
 have hi:=h.inv.read n;unfold qg at hi |-;split;rename_i h0;rw[if_pos h0]at hi;by_cases b:n<0;rw [xH,if_pos b]at h0;cases h0;have a:Cx.qx e.c (Sx.takeN e.s n:Nat)=0:=by rw[xH,if_neg b]at h0;exact h0
 refine⟨hi,h.m,h.nx,?_,?_⟩;show (Cx.xM e.c _).read=_;rw[Cx.QT a];show e.c.read+_=((e.s.tk+Sx.takeN e.s n:Nat):Int);have:=h.rd;omega;intro i c;show _<(Cx.xM e.c _).came;rw[Cx.QT a];exact h.cm i c;exact h
def Cr(e:En):Prop:=e.c.read=e.s.tk/\∀i,e.s.cm i=true->(i:Int)<e.c.came
theorem zt7(s:Cx.St)(u:Int):s.came<=(Cx.zq s u).came/\u<=(Cx.zq s u).came/\(Cx.zq s u).read=s.read:=by
 unfold Cx.zq;refine⟨?_,?_,rfl⟩<;>simp only<;>split<;>omega
theorem Cr.stp(h:Cr e)(f:F):Cr (zn e f).2:=by
 unfold zn;split
 .split
  .exact h
  .exact h
 split;exact h;split
 .split
  .exact h
  .rename_i a
   have a:Cx.qh e.c (first f.2.1+f.2.2.size)=0:=Decidable.byContradiction a
   obtain⟨j,k,d⟩:=zt7 e.c (first f.2.1+f.2.2.size)
   show(Cx.zm e.c _).read=(Sx.xY e.s _ _).tk/\_
   have c:(Sx.xY e.s (first f.2.1) f.2.2).tk=e.s.tk:=by unfold Sx.xY;split<;>rfl
   rw[Cx.JI a,c,d]
   refine⟨h.1,λi hi=>?_⟩
   show(i:Int)<(Cx.zq e.c _).came
   have hi:(Sx.xY e.s (first f.2.1) f.2.2).cm i=true:=hi
   unfold Sx.xY at hi
   split at hi
   .rename_i hp
    have g:0<=first f.2.1:=by
     cases b:Sx.jy (first f.2.1)with
     |false=>rw[Sx.Zm b]at hp;cases hp
     |true=>exact(of_decide_eq_true b:_/\_).1
    simp only[Sx.zq,Bool.or_eq_true,decide_eq_true_eq]at hi
    rcases hi with hi|hi
    .omega
    .have:=h.2 i hi;omega
   .have:=h.2 i hi;omega
 exact h
theorem Cr.runs:∀(a:List F) {e:En},Cr e->Cr (runF a e).2
 |[],e,h=>h
 |f::a,e,h=>by
  rw[runF]
  split
  .exact h.stp f
  .exact Cr.runs a (h.stp f)
theorem Nr.comes(h:Nr K e)(k:qC n=true){a:List F}(i:∀f∈a,fF f=0)(m:n<=65537*K+65536):Nr (K+1) (come e n a).2:=by
 have d:=h.inv.come k i;have g:=h.more (Nat.le_succ K);have j:=Ww e n a;have c:Cr (come e n a).2/\((come e n a).2.cm=e.cm\/(come e n a).2.cm=qU e.cm n):=by
  unfold Go.Proofs.YtdokgalidhmbbaaGreatDoor.come;split;exact ⟨⟨h.rd,h.cm⟩,.inl rfl⟩;split;exact ⟨⟨h.rd,h.cm⟩,.inl rfl⟩;split;exact ⟨⟨h.rd,h.cm⟩,.inl rfl⟩;exact ⟨Cr.runs a (e:=e) ⟨h.rd,h.cm⟩,.inr rfl⟩
 refine⟨d,by rw[j];exact g.m,?_,c.1.1,c.1.2⟩;have l:=h.nx;refine zkt d (by omega) λq hq=>?_;rcases c.2 with b|b;rw [b]at hq;have:=aR h.inv hq;omega;rw [b]at hq;rcases((Qn h.inv.cm).2 q).1 hq with hq|rfl;have:=aR h.inv hq;omega;.omega
theorem zou{s:ByteArray}{b:Int}{l:List F}(h:xZ s b=some (n,l)):∀f∈l,fF f=0:=by
 obtain⟨c,_,h2⟩:=ZM h
 unfold fin at h2
 cases a:qF (s.extract c s.size)with
 |none=>rw[a]at h2;cases h2
 |some d=>
  rw[a]at h2;simp only[Option.bind_some]at h2;split at h2;cases h2;injection h2 with h2;rw[<-h2];exact eP _ _ _ (Nat.le_refl _) a
theorem Nr.take(h:Nr K e){b:ByteArray}(c:Qm b):Nr (K+1) (qD e b).2:=by
 unfold qD;split;exact h.more (Nat.le_succ K)
 .split
  .exact h.more (Nat.le_succ K)
  .rename_i n d a
   have f:=c _ _ _ a
   have:=h.nx
   exact h.comes (ZL a) (zou a) (by omega)
theorem Nr.small(h:Nr K e)(B:K<=16000):Qm (qP e):=by
 have a:=h.inv;have o:=h.m;have G:=a.k0;have g:=K6 a (by omega);rw[K5 g];obtain⟨C,P,Q,F,E⟩:=Zl g;have i:=U.yK e.m e.k;have z:U.zA (U.need e.m e.k)<=65536:=by
  unfold U.need;split;.decide
  rw [if_pos (by omega)];decide
 intro d n x j;obtain⟨c,hr1,_⟩:=ZM j;have A:=Kk (n:=(e.m:Int)) i;have a:V.ints (xw e.m e.k (qO e))=U.need e.m e.k::(zX e.m (U.need e.m e.k)++V.ints (zx (qO e))):=by
  unfold xw;rw[V.wB,XZ];rfl
 have k:(zX (e.m:Int) (U.need e.m e.k)++V.ints (zx (qO e))).take (U.need e.m e.k).toNat=zX e.m (U.need e.m e.k):=by
  rw[show(U.need (e.m:Int) e.k).toNat=(zX e.m (U.need e.m e.k)).length by omega,List.take_left]
 unfold jX at hr1;rw[a]at hr1;simp only[k]at hr1;split at hr1;cases hr1;split at hr1;cases hr1;rename_i b;have b:U.jI (big (zX e.m (U.need e.m e.k))) (U.need e.m e.k) d=true:=by
  cases l:U.jI (big (zX e.m (U.need e.m e.k))) (U.need e.m e.k) d with
  |true=>rfl
  |false=>exact absurd l b
 obtain⟨⟨p,q⟩,s,a3,t⟩:=U.aY _ _ _ b;injection hr1 with hr1;injection hr1 with hr1 _;rw[<-hr1];obtain⟨⟨⟨f,u⟩,v⟩,w⟩:=(U.JX _ _ _).1 b;have f:=(U.xG _).1 f;generalize U.near (big (zX (e.m:Int) (U.need e.m e.k))) (U.zA (U.need e.m e.k)) d=y at*;have D:=U.qA (U.need e.m e.k);generalize U.zA (U.need e.m e.k)=r at*;by_cases m:r<=y
 .have:=a3 m;unfold U.far at this;repeat' split at this
  all_goals omega
 .omega
structure Wk(K:Nat)(s:Tt):Prop where
 a:Nr K s.a
 b:Nr K s.b
 ls:∀p∈s.ls,Qm p.2
variable {s:Tt}
theorem Wk.more{a:Nat}(h:Wk K s)(b:K<=a):Wk a s:=⟨h.a.more b,h.b.more b,h.ls⟩
theorem Wk.new:Wk 0 (zQ 20):=⟨Nr.new,Nr.new,λp a=>by simp[zQ]at a⟩
theorem Wk.who(h:Wk K s)(w:Int):Nr K (s.who w):=by
 unfold Tt.who;split;exact h.a;exact h.b
theorem Wk.set(h:Wk K s)(w:Int){ls:List Lk.LR}(a:Nr K e)(b:∀p∈ls,Qm p.2):Wk K {s.set w e with ls:=ls}:=by
 unfold Tt.set;split;exact ⟨a,h.b,b⟩;exact ⟨h.a,a,b⟩
theorem Wk.set'(h:Wk K s)(w:Int)(a:Nr K e):Wk K (s.set w e):=by
 unfold Tt.set;split;exact ⟨a,h.b,h.ls⟩;exact ⟨h.a,a,h.ls⟩
theorem bT{G:List Lk.LR}{i:Int}(h:Lk.qa G i=true):i.toNat<G.length:=by
 have:0<=i/\i<(G.length:Int):=of_decide_eq_true h;omega
theorem Wk.did(h:Wk K s)(d:K<=16000)(l:List UInt8)(x y:Int)(c:ByteArray):Wk (K+1) (zh l x y c s).st:=by
 have a:=h.more (Nat.le_succ K);unfold zh;split;show Wk _ (kP s x c);unfold kP;split;exact a.set' x ((a.who x).write c);exact a;split;show Wk _ (xy s x);unfold xy;split;refine a.set x (h.who x).make λp hp=>?_;rcases List.mem_append.1 hp with hp|hp;exact h.ls p hp;simp at hp;subst hp;exact(h.who x).small d;exact a;split;show Wk _ (ko s x);unfold ko;split;rename_i b;exact a.set _ ((h.who _).take (h.ls _ (Lk.at_mem (bT b)))) λp hp=>h.ls p (Lk.Jg hp);exact a
 split;show Wk _ (jf s x);refine⟨a.a,a.b,λp hp=>?_⟩;have hp:p∈Lk.yI s.ls x:=hp;unfold Lk.yI at hp;split at hp;exact h.ls p (Lk.Jg hp);exact h.ls p hp;split;show Wk _ (yS s x);refine⟨a.a,a.b,λp hp=>?_⟩;have hp:p∈Lk.vg s.ls x:=hp;unfold Lk.vg at hp;split at hp;rename_i h0;rcases List.mem_append.1 hp with hp|hp;exact h.ls p hp;simp at hp;subst hp;refine h.ls _ (Lk.at_mem (bT ?_));unfold Lk.xk at h0;cases b:Lk.qa s.ls x with
 |true=>rfl
 |false=>rw[b]at h0;simp at h0
 exact h.ls p hp;split;show Wk _ (kD s x y);unfold kD;split;exact a.set' x ((a.who x).read y);exact a;repeat' split
 all_goals exact a
theorem Wk.line(h:Wk K s)(a:K<=16000)(l:List UInt8):Wk (K+1) (zl l s).2:=by
 unfold zl;split;exact h.more (Nat.le_succ K);exact h.did a _ _ _ _
end Rn
end Go.Proofs.YtdokgalidhmbbaaGreatDoor
