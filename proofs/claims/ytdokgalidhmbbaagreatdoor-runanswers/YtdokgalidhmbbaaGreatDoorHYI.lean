/- What the law RunAnswers needs. -/
import Derived.Test.YtdokgalidhmbbaaGreatDoorHYD
import Derived.Test.YtdokgalidhmbbaaGreatDoorHYG
import Derived.Test.YtdokgalidhmbbaaGreatDoorHYP
set_option linter.unusedVariables false
set_option linter.unusedSimpArgs false
set_option maxRecDepth 100000
set_option maxHeartbeats 8000000
namespace Go.Proofs.YtdokgalidhmbbaaGreatDoor
namespace Rn
open Go.RowKit
theorem ZZ(c:UInt8):∀l:List UInt8,(zO c l).length<=l.length+1/\∀p∈zO c l,p.length<=l.length
 |[]=>by simp[zO]
 |x::K=>by
  obtain⟨i1,i2⟩:=ZZ c K
  rw[zO]
  split
  .refine ⟨by simp only[List.length_cons];omega,λp hp=>?_⟩
   rcases List.mem_cons.1 hp with rfl|hp
   .simp
   .have:=i2 p hp
    simp only[List.length_cons];omega
  .split
   .refine ⟨by simp,λp hp=>?_⟩
    simp at hp;subst hp;simp
   .rename_i w a e
    rw[e]at i1 i2
    refine⟨by simp only[List.length_cons]at i1 |-;omega,λp hp=>?_⟩
    rcases List.mem_cons.1 hp with rfl|hp
    .have:=i2 w List.mem_cons_self
     simp only[List.length_cons];omega
    .have:=i2 p (List.mem_cons_of_mem _ hp)
     simp only[List.length_cons];omega
theorem aC:∀ {X:List (List UInt8)},X.length=2->∃p q,X=[p,q]
 |[p,q],_=>⟨p,q,rfl⟩
 |[],h=>by simp at h
 |[_],h=>by simp at h
 |_::_::_::_,h=>by simp at h
theorem zlm(b:ByteArray)(n:Int):0<=xO b n/\xO b n<9:=by
 unfold xO;repeat' split
 all_goals decide
theorem zrz(e:En)(f:F):0<=(zn e f).1/\(zn e f).1<9:=by
 unfold zn;split
 .split
  .simp
  .simp
 split;.simp
 split
 .split
  .show 0<=Cx.qh _ _/\Cx.qh _ _<9
   unfold Cx.qh
   repeat' split
   all_goals decide
  .show 0<=Sx.xg _ _ _/\Sx.xg _ _ _<9
   unfold Sx.xg
   repeat' split
   all_goals decide
 .simp
theorem fP:∀(a:List F) (e:En),0<=(runF a e).1/\(runF a e).1<9
 |[],e=>by simp[runF]
 |f::a,e=>by
  rw[runF]
  split
  .exact zrz e f
  .exact fP a _
theorem zsl(e:En)(b:ByteArray):0<=(qD e b).1/\(qD e b).1<9:=by
 unfold qD;split;exact zlm _ _
 .split
  .simp
  .rename_i n a _
   unfold come
   split
   .simp
   split
   .exact fP a e
   split
   .simp
   .simp
theorem zda(s:Tt)(i:Int):0<=vT s i/\vT s i<9:=by
 unfold vT;split;exact zsl _ _;.decide
theorem zrp(s:Tt)(i:Int):0<=jH s i/\jH s i<9:=by
 unfold jH;repeat' split
 all_goals decide
theorem ztw(G:List Lk.LR)(i:Int):0<=Lk.xk G i/\Lk.xk G i<9:=by
 unfold Lk.xk;repeat' split
 all_goals decide
theorem zhf(G:List Lk.LR)(i:Int):0<=Lk.xU G i/\Lk.xU G i<9:=by
 unfold Lk.xU;repeat' split
 all_goals decide
theorem iU(s:Tt)(w:Int)(b:ByteArray):0<=kM s w b/\kM s w b<9:=by
 unfold kM vk;repeat' split
 all_goals decide
theorem Xn{p:List UInt8}{ps:List (List UInt8)}{a b:Nat}(h:qd p=some (a,b)):jw (p::ps)=if(p::ps).length≠1+a+b\/ []∈p::ps then none else
  match (if 1<=a then zV ((p::ps).getD 1 [])else some 0),(if 2<=a then zV ((p::ps).getD 2 [])else some 0)with
  |some x,some y=>some (p,x,y,if 1<=b then(p::ps).getD (1+a) []else[])
  |_,_=>none:=by
 unfold jw
 rw[show(p::ps).getD 0 []=p from rfl,h]
 rfl
def LnP(w:World)(B D L o:Nat)(d:Dv)(m:Tt)(l:List UInt8):Prop:=
 Calls Tryz.prog 9 #[.pointer (some ⟨D,0,none⟩),.string (str l)] w λe E=>e=.returned (.string (str (zl l m).1))/\DTTurn w E B D L o d (zl l m).2
section
variable {w : World} {B mb ea eb : Nat} {d : Dv} {m : Tt} {l : List UInt8}
theorem LnP.bad(h:DTk w B mb ea eb d m)(f:jw (zO 32 l)=none)(c:Cl 9 #[.pointer (some ⟨mb,0,none⟩),.string (str l)] w (.string (str badL))):LnP w B mb ea eb d m l:=by
 unfold LnP zl;rw[f];exact c.mono λe E ⟨a,b⟩=>⟨a,DTTurn.below h b⟩
theorem LnP.did{n:List UInt8}{x y:Int}{a r:List UInt8}{b:Tt}(c:jw (zO 32 l)=some (n,x,y,a))(f:(zh n x y (str a) m).ans=r)(g:(zh n x y (str a) m).st=b)(hc:Calls Tryz.prog 9 #[.pointer (some ⟨mb,0,none⟩),.string (str l)] w λe E=>e=.returned (.string (str r))/\DTTurn w E B mb ea eb d b):LnP w B mb ea eb d m l:=by
 unfold LnP zl;rw[c];subst f g;exact hc
theorem LnP.stay{n:List UInt8}{x y:Int}{wd r:List UInt8}(h:DTk w B mb ea eb d m)(f:jw (zO 32 l)=some (n,x,y,wd))(g:(zh n x y (str wd) m).ans=r)(i:(zh n x y (str wd) m).st=m)(c:Cl 9 #[.pointer (some ⟨mb,0,none⟩),.string (str l)] w (.string (str r))):LnP w B mb ea eb d m l:=
 LnP.did f g i (c.mono λe E ⟨a,b⟩=>⟨a,DTTurn.below h b⟩)
end
theorem Xi{p:List UInt8}{x:Int}(h:zV p=some x):p≠ []:=λe=>by rw[e]at h;cases h
theorem Zf{p:List UInt8}{x:Int}(h:zV p=some x):0<=x/\x<=9999:=by
 obtain⟨n,b,a,rfl⟩:=Kl h;omega
variable {w:World}{B D L o:Nat}{d:Dv}{m:Tt}
theorem QZ(h:DTk w B D L o d m)(l:List UInt8)(g:l.length<=3000)(a:List UInt8)(f:a=[115,101,110,100]\/a=[99,111,109,101]\/a=[108,111,115,101]\/a=[116,119,105,99,101]\/a=[118,97,114,105,110,116])(X:List (List UInt8))(hps:zO 32 l=a::X)(q:X.length<=3001)(hp:∀p∈X,p.length<=3000)(j:∀b x,zO 32 l=[a,b]->b.length<=3000->zV b=some x->jw (zO 32 l)=some (a,x,0,[])->LnP w B D L o d m l):LnP w B D L o d m l:=by
 have s:qd a=some (1,0):=by rcases f with rfl|rfl|rfl|rfl|rfl<;>rfl
 have ho:=Xn (ps:=X) s
 rw[<-hps]at ho
 by_cases k:X.length≠1
 .exact LnP.bad h (by rw[ho,hps,if_pos (.inl (by simp only[List.length_cons];omega))]) (X8 l g a 1 (by rcases f with rfl|rfl|rfl|rfl|rfl<;>decide) X hps k q)
 obtain⟨b,rfl⟩:∃p,X=[p]:=List.length_eq_one_iff.1 (by omega)
 have i:=hp b (by simp)
 rw[hps]at ho
 cases c:zV b with
 |none=>
  refine LnP.bad h ?_ (zbi l a b g f hps i c);rw[hps,ho];split;.rfl
  simp [c]
 |some x=>
  have r:=Xi c;have n:a≠ []:=by rcases f with rfl|rfl|rfl|rfl|rfl<;>decide
  refine j b x hps i c ?_;rw[hps,ho,if_neg (by simp;exact⟨n,λe=>r e⟩)];simp[c]
theorem aG(h:DTk w B D L o d m)(l:List UInt8)(j:l.length<=3000)(a:List UInt8)(g:a=[114,101,97,100]\/a=[110,101,101,100])(X:List (List UInt8))(hps:zO 32 l=a::X)(u:X.length<=3001)(hp:∀p∈X,p.length<=3000)(r:∀b c x y,zO 32 l=[a,b,c]->b.length<=3000->c.length<=3000->zV b=some x->zV c=some y->jw (zO 32 l)=some (a,x,y,[])->LnP w B D L o d m l):LnP w B D L o d m l:=by
 have P:qd a=some (2,0):=by rcases g with rfl|rfl<;>rfl
 have ho:=Xn (ps:=X) P
 rw[<-hps]at ho
 by_cases s:X.length≠2
 .exact LnP.bad h (by rw[ho,hps,if_pos (.inl (by simp only[List.length_cons];omega))]) (X8 l j a 2 (by rcases g with rfl|rfl<;>decide) X hps s u)
 obtain⟨b,c,rfl⟩:∃p q,X=[p,q]:=aC (by omega)
 have k:=hp b (by simp)
 have n:=hp c (by simp)
 rw[hps]at ho
 cases f:zV b with
 |none=>
  refine LnP.bad h ?_ (zbh l a b c j g hps k f);rw[hps,ho];split;.rfl
  simp [f]
 |some x=>
  cases i:zV c with
  |none=>
   refine LnP.bad h ?_ (zbk l a b c x j g hps k n f i);rw[hps,ho];split;.rfl
   simp [f,i]
  |some y=>
   have v:=Xi f;have F:=Xi i;have t:a≠ []:=by rcases g with rfl|rfl<;>decide
   refine r b c x y hps k n f i ?_;rw[hps,ho,if_neg (by simp;exact⟨t,λe=>v e,λe=>F e⟩)];simp[f,i]
variable {K:Nat}
theorem zj0(h:DTk w B D L o d m)(a:Wk K m)(r:K<=3001)(l:List UInt8)(b:l.length<=3000)(X:List (List UInt8))(j:zO 32 l=[115,101,110,100]::X)(e:X.length<=3001)(g:∀p∈X,p.length<=3000):LnP w B D L o d m l:=
 QZ h l b _ (by decide) X j e g λq x k i n f=>LnP.did f (by rw[zh,if_neg (by decide),if_pos rfl];rfl) (by rw[zh,if_neg (by decide),if_pos rfl]) (KX h l _ q x _ _ _ b (by decide) k i n (zrp m x) λW c=>ze9 c x λs=>K6 (a.who x).inv (by have:=(a.who x).m;omega))
theorem zjv(h:DTk w B D L o d m)(b:Wk K m)(s:K<=3001)(l:List UInt8)(a:l.length<=3000)(X:List (List UInt8))(j:zO 32 l=[99,111,109,101]::X)(e:X.length<=3001)(g:∀p∈X,p.length<=3000):LnP w B D L o d m l:=
 QZ h l a _ (by decide) X j e g λq x k i n f=>LnP.did f (by rw[zh,if_neg (by decide),if_neg (by decide),if_pos rfl];rfl) (by rw[zh,if_neg (by decide),if_neg (by decide),if_pos rfl]) (KX h l _ q x _ _ _ a (by decide) k i n (zda m x) λW c=>ze7 c x λr t=>by have:=(b.who r).nx;omega)
theorem zj1(h:DTk w B D L o d m)(q:Wk K m)(r:K<=3001)(l:List UInt8)(a:l.length<=3000)(X:List (List UInt8))(i:zO 32 l=[116,119,105,99,101]::X)(c:X.length<=3001)(f:∀p∈X,p.length<=3000):LnP w B D L o d m l:=
 QZ h l a _ (by decide) X i c f λn x j g k e=>LnP.did e (by rw[zh,if_neg (by decide),if_neg (by decide),if_neg (by decide),if_neg (by decide),if_pos rfl];rfl) (by rw[zh,if_neg (by decide),if_neg (by decide),if_neg (by decide),if_neg (by decide),if_pos rfl]) (KX h l _ n x _ _ _ a (by decide) j g k (ztw m.ls x) λW b=>zff b x)
theorem zjx(h:DTk w B D L o d m)(n:Wk K m)(q:K<=3001)(l:List UInt8)(a:l.length<=3000)(X:List (List UInt8))(g:zO 32 l=[108,111,115,101]::X)(b:X.length<=3001)(e:∀p∈X,p.length<=3000):LnP w B D L o d m l:=
 QZ h l a _ (by decide) X g b e λk x i f j c=>LnP.did c (by rw[zh,if_neg (by decide),if_neg (by decide),if_neg (by decide),if_pos rfl];rfl) (by rw[zh,if_neg (by decide),if_neg (by decide),if_neg (by decide),if_pos rfl]) (zjq h l k x a i f j (zhf m.ls x))
theorem zj2(h:DTk w B D L o d m)(r:Wk K m)(s:K<=3001)(l:List UInt8)(a:l.length<=3000)(X:List (List UInt8))(q:zO 32 l=[118,97,114,105,110,116]::X)(k:X.length<=3001)(n:∀p∈X,p.length<=3000):LnP w B D L o d m l:=by
 refine QZ h l a _ (by decide) X q k n λi x g f b e=>?_;obtain⟨j,t⟩:=Zf b;by_cases c:x<64;exact LnP.stay h e (by rw[zh,if_neg (by decide),if_neg (by decide),if_neg (by decide),if_neg (by decide),if_neg (by decide),if_neg (by decide),if_neg (by decide),if_pos rfl];rfl) (by rw[zh,if_neg (by decide),if_neg (by decide),if_neg (by decide),if_neg (by decide),if_neg (by decide),if_neg (by decide),if_neg (by decide),if_pos rfl]) (zt9 l i x a g f b j c)
 exact LnP.stay h e (by rw[zh,if_neg (by decide),if_neg (by decide),if_neg (by decide),if_neg (by decide),if_neg (by decide),if_neg (by decide),if_neg (by decide),if_pos rfl];rfl) (by rw[zh,if_neg (by decide),if_neg (by decide),if_neg (by decide),if_neg (by decide),if_neg (by decide),if_neg (by decide),if_neg (by decide),if_pos rfl]) (zua l i x a g f b j c (by omega))
theorem zjw(h:DTk w B D L o d m)(g:Wk K m)(i:K<=3001)(l:List UInt8)(c:l.length<=3000)(X:List (List UInt8))(hps:zO 32 l=[99,111,117,110,116]::X)(f:X.length<=3001):LnP w B D L o d m l:=by
 have ho:=Xn (ps:=X) (p:=[99,111,117,110,116]) (a:=0) (b:=0) rfl;rw[<-hps]at ho;by_cases e:X.length≠0;exact LnP.bad h (by rw[ho,hps,if_pos (.inl (by simp only[List.length_cons];omega))]) (X8 l c _ 0 (by decide) X hps e f);obtain rfl:X=[]:=List.eq_nil_of_length_eq_zero (by omega);exact LnP.stay h (n:=[99,111,117,110,116]) (x:=0) (y:=0) (wd:=[]) (by rw[hps];rfl) (by rw[zh,if_neg (by decide),if_neg (by decide),if_neg (by decide),if_neg (by decide),if_neg (by decide),if_neg (by decide),if_pos rfl];rfl) (by rw[zh,if_neg (by decide),if_neg (by decide),if_neg (by decide),if_neg (by decide),if_neg (by decide),if_neg (by decide),if_pos rfl]) (zjo h l c hps h.l.inv.few)
theorem zj3(h:DTk w B D L o d m)(U:Wk K m)(V:K<=3001)(l:List UInt8)(i:l.length<=3000)(X:List (List UInt8))(hps:zO 32 l=[119,114,105,116,101]::X)(y:X.length<=3001)(hp:∀p∈X,p.length<=3000):LnP w B D L o d m l:=by
 have ho:=Xn (ps:=X) (p:=[119,114,105,116,101]) (a:=1) (b:=1) rfl
 rw[<-hps]at ho
 by_cases v:X.length≠2
 .exact LnP.bad h (by rw[ho,hps,if_pos (.inl (by simp only[List.length_cons];omega))]) (X8 l i _ 2 (by decide) X hps v y)
 obtain⟨f,c,rfl⟩:∃p q,X=[p,q]:=aC (by omega)
 have k:=hp f (by simp)
 have n:=hp c (by simp)
 rw[hps]at ho
 by_cases g:c=[]
 .subst g;refine LnP.bad h ?_ (zbg l f i hps);rw[hps,ho,if_pos (.inr (by simp))]
 cases hx:zV f with
 |none=>
  refine LnP.bad h ?_ (zbj l _ f c i rfl hps k g hx);rw[hps,ho];split;.rfl
  simp [hx]
 |some x=>
  have F:=Xi hx;obtain⟨z,A⟩:=Zf hx;have ho2:jw (zO 32 l)=some ([119,114,105,116,101],x,0,c):=by
   rw[hps,ho,if_neg (by simp;exact⟨λe=>F e,λe=>g e⟩)];simp[hx]
  by_cases Q:1<x;have s:Lk.qN x=false:=decide_eq_false (by omega);have u:kM m x (str c)=1:=by unfold kM;rw[s,if_neg (by decide)]
  have P:kP m x (str c)=m:=by unfold kP;rw[s,if_neg (by decide)]
  exact LnP.stay h ho2 (r:=qZ 1) (by rw[zh,if_pos rfl];show(if kM m x (str c)=0 then okL else qZ (kM m x (str c)))=_;rw[u];rfl) (by rw[zh,if_pos rfl];exact P) (zu1 l f c x i hps k n hx g Q);have t:(str c).size<=140737488351232:=by rw[qW];omega
  obtain rfl|rfl:x=0\/x=1:=by omega
  exact LnP.did ho2 (by rw[zh,if_pos rfl];rfl) (by rw[zh,if_pos rfl]) (iV h l f c 0 (kM m 0 (str c)) L (kP m 0 (str c)) (.inl ⟨rfl,rfl⟩) i hps k n hx g (iU _ _ _) λW j=>(YU j.a (str c) t).mono λe E ⟨a,b⟩=>⟨a,DTTurn.a j b⟩);exact LnP.did ho2 (by rw[zh,if_pos rfl];rfl) (by rw[zh,if_pos rfl]) (iV h l f c 1 (kM m 1 (str c)) o (kP m 1 (str c)) (.inr ⟨rfl,rfl⟩) i hps k n hx g (iU _ _ _) λW j=>(YU j.b (str c) t).mono λe E ⟨a,b⟩=>⟨a,DTTurn.b j b⟩)
theorem zjz(h:DTk w B D L o d m)(v:Wk K m)(A:K<=3001)(l:List UInt8)(i:l.length<=3000)(X:List (List UInt8))(U:zO 32 l=[114,101,97,100]::X)(P:X.length<=3001)(Q:∀p∈X,p.length<=3000):LnP w B D L o d m l:=by
 refine aG h l i _ (by decide) X U P Q λt u x y s n q hx j ho=>?_;obtain⟨C,G⟩:=Zf hx;obtain⟨k,H⟩:=Zf j;by_cases z:1<x;have F:Lk.qN x=false:=decide_eq_false (by omega);have f:jY m x y=1:=by unfold jY;rw[F,if_neg (by decide)]
 have V:kD m x y=m:=by unfold kD;rw[F,if_neg (by decide)]
 exact LnP.stay h ho (r:=qZ 1) (by rw[zh,if_neg (by decide),if_neg (by decide),if_neg (by decide),if_neg (by decide),if_neg (by decide),if_pos rfl];show(if jY m x y=0 then _ else qZ (jY m x y))=_;rw[f];rfl) (by rw[zh,if_neg (by decide),if_neg (by decide),if_neg (by decide),if_neg (by decide),if_neg (by decide),if_pos rfl];exact V) (zo2 l t u x y i s n q hx j z);obtain rfl|rfl:x=0\/x=1:=by omega
 have g:=v.a.ready k;have f:jY m 0 y=0:=g;exact LnP.did ho (by rw[zh,if_neg (by decide),if_neg (by decide),if_neg (by decide),if_neg (by decide),if_neg (by decide),if_pos rfl];show(if jY m 0 y=0 then _ else qZ (jY m 0 y))=_;rw[f];rfl) (by rw[zh,if_neg (by decide),if_neg (by decide),if_neg (by decide),if_neg (by decide),if_neg (by decide),if_pos rfl]) (eZ h l t u 0 y L (jR m.a y) (kD m 0 y) (.inl ⟨rfl,rfl⟩) i s n q hx j λW c=>(YH c.a y k g).mono λe E ⟨a,b⟩=>⟨a,DTTurn.a c b⟩)
 have g:=v.b.ready k;have f:jY m 1 y=0:=g;exact LnP.did ho (by rw[zh,if_neg (by decide),if_neg (by decide),if_neg (by decide),if_neg (by decide),if_neg (by decide),if_pos rfl];show(if jY m 1 y=0 then _ else qZ (jY m 1 y))=_;rw[f];rfl) (by rw[zh,if_neg (by decide),if_neg (by decide),if_neg (by decide),if_neg (by decide),if_neg (by decide),if_pos rfl]) (eZ h l t u 1 y o (jR m.b y) (kD m 1 y) (.inr ⟨rfl,rfl⟩) i s n q hx j λW c=>(YH c.b y k g).mono λe E ⟨a,b⟩=>⟨a,DTTurn.b c b⟩)
theorem zjy(h:DTk w B D L o d m)(P:Wk K m)(Q:K<=3001)(l:List UInt8)(b:l.length<=3000)(X:List (List UInt8))(v:zO 32 l=[110,101,101,100]::X)(t:X.length<=3001)(u:∀p∈X,p.length<=3000):LnP w B D L o d m l:=by
 refine aG h l b _ (by decide) X v t u λq s x y j g i c e f=>?_;obtain⟨V,z⟩:=Zf c;obtain⟨A,C⟩:=Zf e;have k:(zh [110,101,101,100] x y (str []) m).st=m:=by rw[zh,if_neg (by decide),if_neg (by decide),if_neg (by decide),if_neg (by decide),if_neg (by decide),if_neg (by decide),if_neg (by decide),if_neg (by decide)]
 by_cases F:x<=y;have a:U.qb x y=false:=decide_eq_false (by omega);exact LnP.stay h f (r:=qZ 1) (by rw[zh,if_neg (by decide),if_neg (by decide),if_neg (by decide),if_neg (by decide),if_neg (by decide),if_neg (by decide),if_neg (by decide),if_neg (by decide)];unfold Did.ans;rw[a];rfl) k (Xd l q s x y b j g i c e F);have a:U.qb x y=true:=decide_eq_true ⟨by omega,by omega,by omega,by omega⟩;have n:U.need x y=((U.need x y).toNat:Int)/\(U.need x y).toNat<10:=by
  unfold U.need;repeat' split
  all_goals exact⟨rfl,by decide⟩
 exact LnP.stay h f (by rw[zh,if_neg (by decide),if_neg (by decide),if_neg (by decide),if_neg (by decide),if_neg (by decide),if_neg (by decide),if_neg (by decide),if_neg (by decide)];unfold Did.ans;rw[a];rfl) k (Xe l q s x y b j g i c e (by omega) a _ n.1 n.2)
theorem aF(h:DTk w B D L o d m)(c:Wk K m)(e:K<=3001)(l:List UInt8)(a:l.length<=3000):LnP w B D L o d m l:=by
 obtain⟨c1,c2⟩:=ZZ 32 l
 cases hps:zO 32 l with
 |nil=>exact absurd hps (Jh 32 l)
 |cons p X=>
  rw[hps]at c1 c2;have b:X.length<=3001:=by simp only[List.length_cons]at c1;omega
  have f:∀q∈X,q.length<=3000:=λq v=>Nat.le_trans (c2 q (List.mem_cons_of_mem _ v)) a;by_cases g:p=[119,114,105,116,101];subst g;exact zj3 h c e l a X hps b f;by_cases i:p=[114,101,97,100];subst i;exact zjz h c e l a X hps b f;by_cases j:p=[110,101,101,100];subst j;exact zjy h c e l a X hps b f;by_cases k:p=[115,101,110,100];subst k;exact zj0 h c e l a X hps b f;by_cases n:p=[99,111,109,101];subst n;exact zjv h c e l a X hps b f
  by_cases r:p=[108,111,115,101];subst r;exact zjx h c e l a X hps b f;by_cases s:p=[116,119,105,99,101];subst s;exact zj1 h c e l a X hps b f;by_cases t:p=[118,97,114,105,110,116];subst t;exact zj2 h c e l a X hps b f;by_cases u:p=[99,111,117,110,116];subst u;exact zjw h c e l a X hps b;refine LnP.bad h ?_ (zjn l a p X hps g i j k n r s t u b);have x:qd p=none:=by
   unfold qd;simp[g,i,j,k,n,r,s,t,u]
  rw[hps];unfold jw;rw[show(p::X).getD 0 []=p from rfl,x]
end Rn
end Go.Proofs.YtdokgalidhmbbaaGreatDoor
namespace Go.Proofs.YtdokgalidhmbbaaGreatDoor
namespace Rn
open Go.RowKit
def qH:List (List UInt8)->Tt->List UInt8
 |[],_=>[]
 |l::G,s=>(zl l s).1++10::qH G (zl l s).2
def qc:List (List UInt8)->Tt->Tt
 |[],s=>s
 |l::G,s=>qc G (zl l s).2
theorem fV:∀(G:List (List UInt8)) (s:Tt),jG G s=qH (G.map xJ) s
 |[],s=>rfl
 |l::G,s=>by rw[jG,List.map_cons,qH,fV G]
theorem Vj:∀(a b:List (List UInt8)) (s:Tt),qH (a++b) s=qH a s++qH b (qc a s)
 |[],b,s=>rfl
 |l::a,b,s=>by
  rw[List.cons_append,qH,qH,qc,Vj a b]
  simp
theorem Vn:∀(a b:List (List UInt8)) (s:Tt),qc (a++b) s=qc b (qc a s)
 |[],b,s=>rfl
 |l::a,b,s=>by rw[List.cons_append,qc,qc,Vn a b]
theorem Vo:∀(G:List (List UInt8)) {K:Nat} {s:Tt},Wk K s->K+G.length<=16000->Wk (K+G.length) (qc G s)
 |[],K,s,h,_=>h
 |l::G,K,s,h,a=>by
  simp only[List.length_cons]at a |-
  have:=Vo G (h.line (by omega) l) (by omega)
  rw[qc,show K+(G.length+1)=K+1+G.length by omega]
  exact this
theorem Vk:∀(G:List (List UInt8)) (s:Tt),(qH G s).length<=61*G.length
 |[],s=>Nat.le_refl _
 |l::G,s=>by
  have:=QY l s
  have:=Vk G (zl l s).2
  rw[qH]
  simp only[List.length_append,List.length_cons]
  omega
def kF:List (List UInt8)->List (List UInt8)
 |[]=>[]
 |l::G=>if G=[]then(if l=[]then[]else[l])else l::kF G
theorem zkx(c:UInt8)(l:List UInt8)(h:l≠ []):xJ (c::l)=c::xJ l:=by
 have a:Lib.hasSuffix (c::l) [10]=Lib.hasSuffix l [10]:=by
  unfold Lib.hasSuffix;rw[Bool.eq_iff_iff,List.isSuffixOf_iff_suffix,List.isSuffixOf_iff_suffix,List.suffix_cons_iff];constructor;rintro (e|e);injection e with _ e;exact absurd e.symm h;exact e;exact .inr
 unfold xJ Lib.trimSuffix;rw[a];split;obtain ⟨x,K,rfl⟩:=List.exists_cons_of_ne_nil h;simp;.rfl
theorem aH:∀t:List UInt8,(qJ t).map xJ=kF (zO 10 t)
 |[]=>rfl
 |c::b=>by
  have ih:=aH b
  have i:=Jh 10 b
  rw[qJ,zO]
  by_cases f:c=10
  .subst f
   rw[if_pos rfl,if_pos rfl,kF,if_neg i,List.map_cons,ih]
   rfl
  .rw [if_neg f,if_neg f]
   cases h:zO 10 b with
   |nil=>exact absurd h i
   |cons w j=>
    rw[h]at ih
    cases g:qJ b with
    |nil=>
     rw[g]at ih
     rw[kF]at ih
     by_cases a:j=[]
     .rw [if_pos a]at ih
      by_cases d:w=[]
      .subst a d
       have e:xJ [c]=[c]:=by
        unfold xJ Lib.trimSuffix
        rw[if_neg]
        unfold Lib.hasSuffix
        rw[List.isSuffixOf_iff_suffix,List.suffix_cons_iff]
        rintro(e|e)
        .injection e with e _
         exact f e.symm
        .simp at e
       simp[kF,e]
      .rw [if_neg d]at ih
       simp at ih
     .rw [if_neg a]at ih
      simp at ih
    |cons l G=>
     have k:l≠ []:=KZ b l (by rw[g];exact List.mem_cons_self)
     rw[g,List.map_cons,kF]at ih
     simp only[List.map_cons]
     rw[kF,zkx c l k]
     by_cases a:j=[]
     .rw [if_pos a]at ih |-
      by_cases d:w=[]
      .rw [if_pos d]at ih
       cases ih
      .rw [if_neg d]at ih
       rw[if_neg (by simp)]
       injection ih with i1 i2
       rw[i1,i2]
     .rw [if_neg a]at ih |-
      injection ih with i1 i2
      rw[i1,i2]
theorem YR:∀(c:List (List UInt8)) (n:Nat),c.length=n+1->(c[n]? =some []/\kF c=c.take n)\/(∃p,c[n]? =some p/\p≠ []/\kF c=c)
 |[],n,h=>by simp at h
 |[l],n,h=>by
  obtain rfl:n=0:=by simp at h;omega
  by_cases d:l=[]
  .subst d;exact .inl ⟨rfl,rfl⟩
  .exact .inr ⟨l,rfl,d,by simp[kF,d]⟩
 |l::m::G,n,h=>by
  obtain⟨k,rfl⟩:∃k,n=k+1:=⟨n-1,by simp at h;omega⟩
  have f:kF (l::m::G)=l::kF (m::G):=by rw[kF,if_neg (by simp)]
  rcases YR (m::G) k (by simpa using h)with⟨a,b⟩|⟨p,a,b,e⟩
  .exact .inl ⟨a,by rw[f,b];rfl⟩
  .exact .inr ⟨p,a,b,by rw[f,e]⟩
theorem fJ(t:List UInt8)(h:t.length<=3000):wM t=qH (kF (zO 10 t)) (zQ 20):=by
 unfold wM;rw[if_neg (by omega),fV,aH]
end Rn
end Go.Proofs.YtdokgalidhmbbaaGreatDoor
namespace Go.Proofs.YtdokgalidhmbbaaGreatDoor
namespace Rn
open Go.RowKit
variable {w:World}
theorem iF{E:World}{B D L o:Nat}{d:Dv}{m b:Tt}(h:DTk w B D L o d m)(g:DTTurn w E B D L o d b):∃a,DTk E B D L o a b/\Below B w E:=by
 obtain⟨a,c,e,i⟩:=g;exact⟨a,c,e.below (λk f=>(h.own_lt f).1) h.le⟩
theorem JJ{l:List (List UInt8)}{k:Nat}{p:List UInt8}(h:l[k]? =some p):l.take (k+1)=l.take k++[p]:=by
 obtain⟨a,rfl⟩:=List.getElem?_eq_some_iff.1 h;exact List.take_succ_eq_append_getElem a
theorem za6(s:ByteArray)(f:s.size<=140737488355328)(d:3000<s.size){I:Value}(a:Al w I):Cl 3 #[.string s] w (.bool true):=by
 have HR:=Vd s (by omega) a;have c:=Lib.size_eq s;have e:wM s.data.toList=K3:=by unfold wM;rw[if_pos (by omega)]
 rw[e,show str K3=⟨#[116,111,111,32,108,111,110,103,10]⟩from rfl]at HR;have g:(3000:Int)<(s.size:Int):=by omega
 clear a c e;go_enter Tryz.func3,Tryz.ntmps3
 go_wp2_with (go_at_call 6;refine HR.mono ?_;rintro e h ⟨rfl,b⟩);go_ret;exact⟨rfl,b⟩
theorem za5(t:List UInt8)(K:t.length<=3000)(n:Nat)(hn:(zO 10 t).length=n+1)(E:(zO 10 t)[n]? =some [])(J:kF (zO 10 t)=(zO 10 t).take n){I:Value}(ha:Al w I):Cl 3 #[.string (str t)] w (.bool true):=by
 have HR:=Vd (str t) (by rw[qW];omega) ha;rw[qo,fJ t K,J]at HR;obtain⟨a,l⟩:∃a,(zO 10 t).take n=a:=⟨_,rfl⟩;rw[l]at HR;have hN:a.length=n:=by rw[<-l];rw[List.length_take];omega
 have hC:Hid (∀(j:Nat) p,a[j]? =some p->(zO 10 t)[j]? =some p/\p.length<=3000):=λj p h=>by
  have Q:(zO 10 t)[j]? =some p:=by rw[<-l]at h;rw[List.getElem?_take]at h;split at h;exact h;cases h
  exact⟨Q,Nat.le_trans ((ZZ 10 t).2 p (List.mem_of_getElem? Q)) K⟩
 have a6:n<=3000:=by have:=(ZZ 10 t).1;omega
 have HC:=λb=>jO t 10 (by omega) b;have T:=λb=>YT 20 b rfl;have g0:¬(3000:Int)<((str t).size:Int):=by rw[qW];omega
 have z:Hid (∀k,k<=a.length->Wk k (qc (a.take k) (zQ 20))):=λk r=>by
  have:=Vo (a.take k) Wk.new (by rw[List.length_take];omega);rw[List.length_take,Nat.min_eq_left r,Nat.zero_add]at this;exact this
 have V:Hid (∀k,(qH (a.take k) (zQ 20)).length<=61*k):=λk=>by
  have h1:=Vk (a.take k) (zQ 20);have h2:(a.take k).length<=k:=by rw[List.length_take];omega
  omega
 clear l J;generalize str t=s at*;go_enter Tryz.func3,Tryz.ntmps3
 go_wp2_with (first|(go_at_call 6;refine HR.mono ?_;clear HR;rintro e w1 ⟨rfl,m⟩;have y:=HC w1)|(go_at_call 7;refine y.mono ?_;clear y;rintro e b ⟨v,rfl,hr,A⟩;rw[hn]at hr;obtain⟨g,X,rfl,q⟩:=Zq hr (by omega);have a5:(n:Int)+1<=(X:Int):=Int.ofNat_le.2 (Zp hr);have hg:=(hr.lt g rfl).2;have c0:=q n _ E;rw[show str []=⟨#[]⟩from rfl]at c0;have B:Hid (∀(j:Nat) p,(zO 10 t)[j]? =some p->b.cell? ⟨g,j,none⟩=some (.string (str p))):=q;clear hr q)|(go_at_call 8;refine(T _).mono ?_;rintro e M ⟨D,L,o,d,rfl,U,C⟩))
 clear c0;have R:Hid (DTk M b.heap.size D L o d (zQ 20)):=U;have u:Hid (Below w.heap.size w b):=m.trans (A.mono m.size);have O:Hid (Below b.heap.size b M):=C;clear U m A C E;go_loopw [6,7,8] (λwt i x wr=>∃(k:Nat) (F:Dv),k<=a.length/\i=.int .i64 k/\wt=.string (str (qH (a.take k) (zQ 20)))/\Hid (DTk wr b.heap.size D L o F (qc (a.take k) (zQ 20)))/\Hid (Below b.heap.size b wr)) (λ_ i _ _=>a.length-(intOf i).toNat)
 case atStart=>exact⟨0,d,Nat.zero_le _,rfl,rfl,R,O⟩
 case round=>
  obtain⟨k,F,r,rfl,rfl,HDk,c⟩:=hrel;by_cases a3:k<a.length
  .obtain ⟨p,f⟩:∃p,a[k]? =some p:=⟨_,List.getElem?_eq_getElem a3⟩;obtain⟨G,H⟩:=hC.out k p f;have ck:=(c.out.cell (p:=⟨g,k,none⟩) hg).trans (B.out k p G);have HL:Calls _ _ _ _ _:=aF HDk.out (z.out k r) (by omega) p H;have e1:=vJ (qH (a.take k) (zQ 20)) (zl p (qc (a.take k) (zQ 20))).1;have Z:str (qH (a.take k) (zQ 20)++(zl p (qc (a.take k) (zQ 20))).1)++(⟨#[10]⟩:ByteArray)=str (qH (a.take (k+1)) (zQ 20)):=by
    rw[JJ f,Vj];show _++str [10]=_;rw[vJ];simp[qH]
   have P:qc (a.take (k+1)) (zQ 20)=(zl p (qc (a.take k) (zQ 20))).2:=by
    rw[JJ f,Vn];rfl
   have z1:(str (qH (a.take k) (zQ 20))).size<=200000:=by rw[qW];have:=V.out k;omega
   have z2:(str (zl p (qc (a.take k) (zQ 20))).1).size<=60:=by rw[qW];exact QY _ _
   have z3:(str (qH (a.take k) (zQ 20)++(zl p (qc (a.take k) (zQ 20))).1)).size<=200060:=by
    rw[qW,List.length_append];rw[qW]at z1 z2;omega
   have N:=zC P;have W:Hid (str (qH (a.take (k+1)) (zQ 20))=str (qH (a.take (k+1)) (zQ 20))):=rfl;have a7:¬9223372036854775807<(str (qH (a.take k) (zQ 20))).size+(str (zl p (qc (a.take k) (zQ 20))).1).size:=by omega
   have a8:¬9223372036854775807<(str (qH (a.take k) (zQ 20)++(zl p (qc (a.take k) (zQ 20))).1)).size+1:=by omega
   have g1:(k:Int)<(n:Int):=by omega
   clear P f G H;generalize str p=ps at*;generalize a0:str (qH (a.take (k+1)) (zQ 20))=sB at Z W;generalize str (qH (a.take k) (zQ 20)++(zl p (qc (a.take k) (zQ 20))).1)=sM at*;generalize str (zl p (qc (a.take k) (zQ 20))).1=sX at*;generalize str (qH (a.take k) (zQ 20))=sA at*;go_wp2_with (go_at_call 9;refine HL.mono ?_;clear HL;rintro e w4 ⟨rfl,a4⟩;obtain⟨Y,a2,a1⟩:=iF HDk.out a4);go_roundw
   case rel=>
    refine⟨k+1,Y,by omega,by simp,?_,by rw[N.out];exact a2,c.out.trans a1⟩;rw[a0]
   case measure=>simp[intOf];omega
  obtain rfl:k=a.length:=by omega
  have g1:¬(a.length:Int)<(n:Int):=by omega
  rw[List.take_length]at*;have S:Hid (Below w.heap.size w wr):=u.out.trans (c.out.mono u.out.size);clear HDk c z V B;generalize str (qH a (zQ 20))=sA at*;go_wp2_with fail;go_ret;exact⟨by simp,S.out⟩
theorem za3(t:List UInt8)(M:t.length<=3000)(n:Nat)(G:(zO 10 t).length=n+1)(p:List UInt8)(E:(zO 10 t)[n]? =some p)(a5:p≠ [])(K:kF (zO 10 t)=zO 10 t){I:Value}(ha:Al w I):Cl 3 #[.string (str t)] w (.bool true):=by
 have HR:=Vd (str t) (by rw[qW];omega) ha;rw[qo,fJ t M,K]at HR;obtain⟨a,l⟩:∃a,zO 10 t=a:=⟨_,rfl⟩;rw[l]at HR;have hN:a.length=n+1:=by rw[<-l];exact G
 have hC:Hid (∀(j:Nat) p,a[j]? =some p->(zO 10 t)[j]? =some p/\p.length<=3000):=λj p h=>by
  have Q:(zO 10 t)[j]? =some p:=by rw[<-l]at h;exact h
  exact⟨Q,Nat.le_trans ((ZZ 10 t).2 p (List.mem_of_getElem? Q)) M⟩
 have a8:n<=3000:=by have:=(ZZ 10 t).1;omega
 have HC:=λb=>jO t 10 (by omega) b;have W:=λb=>YT 20 b rfl;have g0:¬(3000:Int)<((str t).size:Int):=by rw[qW];omega
 have z:Hid (∀k,k<=a.length->Wk k (qc (a.take k) (zQ 20))):=λk r=>by
  have:=Vo (a.take k) Wk.new (by rw[List.length_take];omega);rw[List.length_take,Nat.min_eq_left r,Nat.zero_add]at this;exact this
 have V:Hid (∀k,(qH (a.take k) (zQ 20)).length<=61*k):=λk=>by
  have h1:=Vk (a.take k) (zQ 20);have h2:(a.take k).length<=k:=by rw[List.length_take];omega
  omega
 clear l K;have a3:(str p).toList.isEmpty=false:=by rw[ByteArray.toList_eq,qo];cases p;exact absurd rfl a5;rfl
 generalize str t=s at*;go_enter Tryz.func3,Tryz.ntmps3
 go_wp2_with (first|(go_at_call 6;refine HR.mono ?_;clear HR;rintro e w1 ⟨rfl,m⟩;have y:=HC w1)|(go_at_call 7;refine y.mono ?_;clear y;rintro e b ⟨v,rfl,hr,A⟩;rw[G]at hr;obtain⟨g,Z,rfl,q⟩:=Zq hr (by omega);have a7:(n:Int)+1<=(Z:Int):=Int.ofNat_le.2 (Zp hr);have hg:=(hr.lt g rfl).2;have Y:=q n _ E;have B:Hid (∀(j:Nat) p,(zO 10 t)[j]? =some p->b.cell? ⟨g,j,none⟩=some (.string (str p))):=q;clear hr q)|(go_at_call 8;refine(W _).mono ?_;rintro e N ⟨D,L,o,d,rfl,U,C⟩))
 clear Y;have S:Hid (DTk N b.heap.size D L o d (zQ 20)):=U;have u:Hid (Below w.heap.size w b):=m.trans (A.mono m.size);have R:Hid (Below b.heap.size b N):=C;clear U m A C E a3;go_loopw [6,7,8] (λwt i x wr=>∃(k:Nat) (F:Dv),k<=a.length/\i=.int .i64 k/\wt=.string (str (qH (a.take k) (zQ 20)))/\Hid (DTk wr b.heap.size D L o F (qc (a.take k) (zQ 20)))/\Hid (Below b.heap.size b wr)) (λ_ i _ _=>a.length-(intOf i).toNat)
 case atStart=>exact⟨0,d,Nat.zero_le _,rfl,rfl,S,R⟩
 case round=>
  obtain⟨k,F,r,rfl,rfl,HDk,c⟩:=hrel;by_cases a4:k<a.length
  .obtain ⟨p,f⟩:∃p,a[k]? =some p:=⟨_,List.getElem?_eq_getElem a4⟩;obtain⟨H,J⟩:=hC.out k p f;have ck:=(c.out.cell (p:=⟨g,k,none⟩) hg).trans (B.out k p H);have HL:Calls _ _ _ _ _:=aF HDk.out (z.out k r) (by omega) p J;have e1:=vJ (qH (a.take k) (zQ 20)) (zl p (qc (a.take k) (zQ 20))).1;have e2:str (qH (a.take k) (zQ 20)++(zl p (qc (a.take k) (zQ 20))).1)++(⟨#[10]⟩:ByteArray)=str (qH (a.take (k+1)) (zQ 20)):=by
    rw[JJ f,Vj];show _++str [10]=_;rw[vJ];simp[qH]
   have P:qc (a.take (k+1)) (zQ 20)=(zl p (qc (a.take k) (zQ 20))).2:=by
    rw[JJ f,Vn];rfl
   have z1:(str (qH (a.take k) (zQ 20))).size<=200000:=by rw[qW];have:=V.out k;omega
   have z2:(str (zl p (qc (a.take k) (zQ 20))).1).size<=60:=by rw[qW];exact QY _ _
   have z3:(str (qH (a.take k) (zQ 20)++(zl p (qc (a.take k) (zQ 20))).1)).size<=200060:=by
    rw[qW,List.length_append];rw[qW]at z1 z2;omega
   have O:=zC P;have X:Hid (str (qH (a.take (k+1)) (zQ 20))=str (qH (a.take (k+1)) (zQ 20))):=rfl;have a9:¬9223372036854775807<(str (qH (a.take k) (zQ 20))).size+(str (zl p (qc (a.take k) (zQ 20))).1).size:=by omega
   have aa:¬9223372036854775807<(str (qH (a.take k) (zQ 20)++(zl p (qc (a.take k) (zQ 20))).1)).size+1:=by omega
   have g1:(k:Int)<(n:Int)+1:=by omega
   clear P f H J;generalize str p=ps at*;generalize a0:str (qH (a.take (k+1)) (zQ 20))=sB at e2 X;generalize str (qH (a.take k) (zQ 20)++(zl p (qc (a.take k) (zQ 20))).1)=sM at*;generalize str (zl p (qc (a.take k) (zQ 20))).1=sX at*;generalize str (qH (a.take k) (zQ 20))=sA at*;go_wp2_with (go_at_call 9;refine HL.mono ?_;clear HL;rintro e w4 ⟨rfl,a6⟩;obtain⟨d4,a2,a1⟩:=iF HDk.out a6);go_roundw
   case rel=>
    refine⟨k+1,d4,by omega,by simp,?_,by rw[O.out];exact a2,c.out.trans a1⟩;rw[a0]
   case measure=>simp[intOf];omega
  obtain rfl:k=a.length:=by omega
  have g1:¬(a.length:Int)<(n:Int)+1:=by omega
  rw[List.take_length]at*;have T:Hid (Below w.heap.size w wr):=u.out.trans (c.out.mono u.out.size);clear HDk c z V B;generalize str (qH a (zQ 20))=sA at*;go_wp2_with fail;go_ret;exact⟨by simp,T.out⟩
theorem za4(s:ByteArray)(i:s.size<=140737488355328){I:Value}(d:Al w I):Cl 3 #[.string s] w (.bool true):=by
 by_cases h:3000<s.size;exact za6 s i h d;have g:s.data.toList.length<=3000:=by rw[<-Lib.size_eq];omega
 obtain⟨n,f⟩:∃n,(zO 10 s.data.toList).length=n+1:=⟨(zO 10 s.data.toList).length-1,by have:=List.length_pos_iff.2 (Jh 10 s.data.toList);omega⟩;rw[show Value.string s=.string (str s.data.toList) by rw[kK]];rcases YR _ n f with⟨a,b⟩|⟨p,a,b,c⟩;exact za5 _ g n f a b d;exact za3 _ g n f p a b c d
end Rn
end Go.Proofs.YtdokgalidhmbbaaGreatDoor
