/- What the law RunAnswers needs. -/
import Derived.Test.YtdokgalidhmbbaaGreatDoorHG
import Derived.Test.YtdokgalidhmbbaaGreatDoorHH
import Derived.Test.YtdokgalidhmbbaaGreatDoorHEA
import Derived.Test.YtdokgalidhmbbaaGreatDoorHLK
import Derived.Great.Walk
set_option linter.unusedVariables false
set_option linter.unusedSimpArgs false
set_option maxRecDepth 100000
set_option maxHeartbeats 8000000
namespace Go.Proofs.YtdokgalidhmbbaaGreatDoor
open Go.RowKit Go.Lib Go.Sort
theorem ZL{s:ByteArray}{e n:Int}{l:List F}(h:xZ s e=some (n,l)):qC n=true:=by
 obtain⟨c,h1,_⟩:=ZM h
 unfold jX at h1
 cases a:V.ints s with
 |nil=>rw[a]at h1;cases h1
 |cons k r=>
  rw[a]at h1;simp only at h1;split at h1;cases h1;split at h1;cases h1;rename_i b;simp only[Option.some.injEq,Prod.mk.injEq]at h1;have d:=U.aY _ _ _ (by simpa using b);rw[<-h1.1];exact(wC _).2 d.1
theorem VX{s:ByteArray}{b n:Int}{l:List F}(h:xZ s b=some (n,l)):l.length<=12:=by
 obtain⟨c,_,h2⟩:=ZM h
 unfold fin at h2
 cases a:qF (s.extract c s.size)with
 |none=>rw[a]at h2;cases h2
 |some d=>
  rw[a]at h2;simp only[Option.bind_some]at h2;split at h2;cases h2;cases h2;omega
variable {w:World}{B k:Nat}{a:List F}
theorem Qj{v:Value}{b:List Value}(h:FOwn w B v b a){j:Nat}(c:j<a.length)(d:(xI b j).ownBlock=some k):k<w.heap.size:=((h.rows j c).lt k d).2
theorem FOwn.off{K:Nat->Prop}{E:World}{v:Value}{b:List Value}(h:FOwn w B v b a)(d:Off K w E)(f:∀k,v.ownBlock=some k->¬K k)(e:∀j,j<a.length->∀k,(xI b j).ownBlock=some k->¬K k):FOwn E B v b a:=
 ⟨h.len,d.row h.own f,λj c=>d.row (h.rows j c) (e j c),h.good⟩
variable {e:En}
theorem Qa{f:F}(h:(zn e f).1=0):runF (f::a) e=runF a (zn e f).2:=by
 simp[runF,h]
theorem Zt{f:F}(h:(zn e f).1≠0):runF (f::a) e=zn e f:=by
 simp[runF,h]
theorem Jv(h:k<a.length):a.drop k=zS a k::a.drop (k+1):=by
 rw[List.drop_eq_getElem_cons h,Jr h]
theorem iY(W:World):(zeroValue 104).run Tryz.prog W=.ok (.agg (row 251 (zM ⟨nilB,0,0,0,0,[],Sx.qE,⟨0,0,0,0⟩,[]⟩ (.slice none 0 0) (.slice none 0 0))).toArray) W:=by kernel_rfl
def jD(x:Ld)(i:Nat):Value:=if i=0 then .int .i64 x.lo else if i=1 then .int .i64 x.hi else .bool (decide (x.a<=i-2/\i-2<x.b))
theorem zjj(x:Ld):jD x 0=.int .i64 x.lo:=rfl
theorem zji(x:Ld):jD x 1=.int .i64 x.hi:=rfl
theorem Yx(x:Ld)(p:Nat):jD x (2+p)=.bool (decide (x.a<=p/\p<x.b)):=by
 unfold jD;rw[if_neg (by omega),if_neg (by omega),show 2+p-2=p by omega]
theorem zjk(x:Ld)(i:Nat):(jD x i).oneCell'=true:=by
 unfold jD;split;.rfl
 split<;>rfl
theorem zjl(x:Ld)(i:Nat)(h:i<62):(jb x)[i]? =some (jD x i):=by
 unfold jb
 match i,h with
 |0,_=>rfl
 |1,_=>rfl
 |i+2,h=>
  rw[List.getElem?_cons_succ,List.getElem?_cons_succ,JB (by omega),show i+2=2+i by omega,Yx]
theorem zu9(W:World):(zeroValue 241).run Tryz.prog W=.ok (.agg (row 62 (jD ⟨0,0,0,0⟩)).toArray) W:=by kernel_rfl
theorem zs2{a:Func}(h:a.results=#[])(b:Array Value)(w:World):(results a b).run Tryz.prog w=.ok (.tuple #[]) w:=by
 simp[results,h]
variable {t:Nat}{C A:Value}
theorem zfs{d:Nat}{i:Nat}(h:i<=60\/121<=i):zM {e with t:=t} C A i=zM {e with t:=d} C A i:=by
 unfold zM;by_cases a:i<60;simp only[a,if_true];by_cases b:i=60;subst b;rfl;have c:¬i<121:=by omega
 simp only[a,b,c,if_false]
theorem EInv.setT{b:Nat}(h:EInv {e with t:=b})(c:b<=t)(d:t<=en e):EInv {e with t:=t}:=
 ⟨h.d60,d,h.l0,h.l1,h.m1,h.k0,h.k1,λx a=>⟨(h.ls x a).1,(h.ls x a).2.1,Nat.le_trans (h.ls x a).2.2.1 c,(h.ls x a).2.2.2⟩,h.s,h.c,h.cm,h.ll⟩
theorem EO.setT{b:Nat}{l c p:Nat}{v:Bool}(h:EO w B b C A {e with t:=l})(d:EInv {e with t:=c})(q:p<60)(n:∀i,i<60->i≠p->decide (i<l)=decide (i<c))(r:v=decide (p<c)):TurnI w (w.setCell ⟨b,61+p,none⟩ (.bool v)) B b C A {e with t:=c}:=by
 subst r;have o:Off (λk=>k=b) w (w.setCell ⟨b,61+p,none⟩ (.bool (decide (p<c)))):=(Off.refl _ _).setCell (K:=λk=>k=b) (a:=⟨b,61+p,none⟩) rfl _;refine⟨⟨d,λi d=>?_,λi=>by simpa using h.fz i,h.hs,o.row h.ld (λk f e'=>by subst e';exact h.ap.1 f),o.row h.cm (λk f e'=>by subst e';exact h.ap.2 f),h.ap⟩,o⟩;by_cases g:i=61+p;subst g;rw[QN q];exact World.cell?_setCell_same _ _ _ (h.cl (61+p) (by omega));rw [World.cell?_setCell_other _ _ _ _ (λe'=>by injection e' with _ e' _;exact g e'.symm),h.cl i d];by_cases m:i<=60\/121<=i;exact congrArg some (zfs m);obtain ⟨j,rfl⟩:∃j,i=61+j:=⟨i-61,by omega⟩;rw[QN (by omega),QN (by omega),n j (by omega) (by omega)]
theorem zsv{G:List Ld}{r:R}(h:k<G.length):qy (G.drop k) t r=qy (G.drop (k+1)) (if(G[k].hi:Int)<r.1\/r.2<(G[k].lo:Int)then t else max t G[k].b) r:=by
 rw[List.drop_eq_getElem_cons h];rfl
theorem zs1{o:Nat}(h:EO w B o C A e)(l d:Int):Calls Tryz.prog 184 #[.pointer (some ⟨o,0,none⟩),.agg #[.int .i64 l,.int .i64 d]] w λex w'=>ex=.returned (.tuple #[])/\TurnI w w' B o C A {e with t:=qy e.ls e.t (l,d)}:=by
 have a4:e.ls.length<=1073741824:=Nat.le_trans h.inv.ll h.inv.m1;obtain⟨ao,c,Y⟩:=qL h.ld;have HVL:Hid (C=.slice ao e.ls.length c):=Y;have L:Below w.heap.size w (w.alloc (.cells #[.int .i64 l,.int .i64 d] 143)):=(Below.refl _ _).alloc (Nat.le_refl _) _;have c124:=(L.cell (p:=⟨o,124,none⟩) h.lt).trans (h.cl 124 (by omega));rw[y8,Y]at c124;have hE1:Hid (EO (w.alloc (.cells #[.int .i64 l,.int .i64 d] 143)) B o C A e):=h.below L
 have q0:(w.alloc (.cells #[.int .i64 l,.int .i64 d] 143)).cell? ⟨w.heap.size,0,none⟩=some (.int .i64 l):=by simp
 have q1:(w.alloc (.cells #[.int .i64 l,.int .i64 d] 143)).cell? ⟨w.heap.size,1,none⟩=some (.int .i64 d):=by simp
 have HB0:=zC L;have a0:Hid (w.heap.size≠o):=by have:=h.lt;show _≠_;omega
 have hze:=zu9;generalize hZ:(row 62 (jD ⟨0,0,0,0⟩)).toArray=G at hze;have HZ:Hid ((row 62 (jD ⟨0,0,0,0⟩)).toArray=G):=hZ;have a8:Hid (∃T,qy e.ls e.t (l,d)=T):=⟨_,rfl⟩;clear h Y L hZ;generalize hM:e.ls.length=m at HVL a4 c124;have O:Hid (e.ls.length=m):=hM;clear hM;go_enter Tryz.func184,Tryz.ntmps184
 go_wp2_with fail;generalize w.alloc (.cells #[.int .i64 l,.int .i64 d] 143)=W1 at*;go_loopg [12] m (λgk a6 wr=>∃(k a:Nat),gk+k=m/\a6=.int .i64 k/\Hid (qy e.ls e.t (l,d)=qy (e.ls.drop k) a (l,d))/\Hid (EO wr B o C A {e with t:=a})/\Hid (Off (λj=>j=o) W1 wr))
 case atStart=>exact⟨0,e.t,rfl,rfl,rfl,hE1,Off.refl _ _⟩
 case round=>
  obtain⟨k,a,hk,rfl,J,s,H⟩:=hrel;have u:Hid (gk+k=m):=hk;clear hk;by_cases g:(k:Int)<(m:Int)
  .have M:k<e.ls.length:=by have:=O.out;omega
   have hld:wr.ownsRow B 241 62 C e.ls.length (qf e.ls):=s.out.ld;obtain⟨z,a3,hv1,_,_⟩:=hld.form (by omega);have a5:Value.slice ao m c=.slice (some ⟨z,0,none⟩) m a3:=by rw[<-HVL.out,hv1,O.out]
   injection a5 with i1 i2 i3;subst i1 i3;have hrg:wr.rangeAt z (k*62) (row 62 (jD e.ls[k])):=vZ λi d=>by
    rw[hv1]at hld;have:=hld.cellAt (k*62+i) (by omega);rw[QX _ k i M d,zjl _ i d]at this;exact this
   have Z:=s.out.inv.ls e.ls[k] (List.getElem_mem M);have HX:Hid (e.ls[k].a<=a/\e.ls[k].b<=en e):=⟨Z.2.2.1,Z.2.2.2⟩;have HN:Hid (qy e.ls e.t (l,d)=qy (e.ls.drop (k+1)) (if(e.ls[k].hi:Int)<l\/d<(e.ls[k].lo:Int)then a else max a e.ls[k].b) (l,d)):=J.out.trans (zsv M);clear Z hv1 hld J;generalize e.ls[k]=x at*;clear M;have S:Hid (∀i,(jD x i).oneCell'=true):=zjk x;have D:(wr.alloc (.cells G 241)).there wr.heap.size 0 62:=by rw[<-HZ.out];exact yw wr _ 62 _
   have hbW:Below wr.heap.size wr ((wr.alloc (.cells G 241)).setCells wr.heap.size 0 (row 62 (jD x))):=ZA (Nat.le_refl _) _ _ _ ((Below.refl _ _).alloc (Nat.le_refl _) _);have hrW:((wr.alloc (.cells G 241)).setCells wr.heap.size 0 (row 62 (jD x))).rangeAt wr.heap.size 0 (row 62 (jD x)):=World.rangeAt_setCells_same _ _ _ _ (by rw[qM];exact D);obtain⟨W,V⟩:∃W,Hid (W=(wr.alloc (.cells G 241)).setCells wr.heap.size 0 (row 62 (jD x))):=⟨_,rfl⟩
   rw[<-V.out]at hbW hrW;have F:Hid (EO W B o C A {e with t:=a}):=s.out.below hbW;have P:Hid (Off (λj=>j=o) W1 W):=H.out.trans (Off.of_below hbW);have HLB:Hid (wr.heap.size≠o):=by have:=s.out.lt;show _≠_;omega
   have c0:W.cell? ⟨wr.heap.size,0,none⟩=some (.int .i64 (x.lo:Int)):=by have:=jk hrW (i:=0) (by omega);simpa[zjj]using this
   have c1:W.cell? ⟨wr.heap.size,1,none⟩=some (.int .i64 (x.hi:Int)):=by have:=jk hrW (i:=1) (by omega);simpa[zji]using this
   have HHD:Hid (∀p,p<60->W.cell? ⟨wr.heap.size,2+p,none⟩=some (.bool (decide (x.a<=p/\p<x.b)))):=λp X=>by have:=jk hrW (i:=2+p) (by omega);rwa[Yx,Nat.zero_add]at this
   have y0:=P.out.cell q0 a0.out;have y1:=P.out.cell q1 a0.out;clear hbW hrW s H;by_cases ga:(x.hi:Int)<l
   .go_wp2_with (first|(refine vH (n:=62) (f:=jD x) (ty:=241) rfl (.tmp 14) rfl z (k*62) rfl hrg (by kernel_rfl) (by kernel_rfl) ?_)|(refine vI (n:=62) (f:=jD x) (ty:=241) rfl (.tmp 5) (.tmp 15) rfl wr.heap.size 0 rfl rfl D (by kernel_rfl) S.out V ?_));go_roundg (m-(k+1))
    case measure=>have:=u.out;omega
    case rel=>exact⟨k+1,a,by have:=u.out;omega,by go_num,HN.out.trans (by rw[if_pos (by omega)]),F,P⟩
   by_cases gc:d<(x.lo:Int)
   .go_wp2_with (first|(refine vH (n:=62) (f:=jD x) (ty:=241) rfl (.tmp 14) rfl z (k*62) rfl hrg (by kernel_rfl) (by kernel_rfl) ?_)|(refine vI (n:=62) (f:=jD x) (ty:=241) rfl (.tmp 5) (.tmp 15) rfl wr.heap.size 0 rfl rfl D (by kernel_rfl) S.out V ?_));go_roundg (m-(k+1))
    case measure=>have:=u.out;omega
    case rel=>exact⟨k+1,a,by have:=u.out;omega,by go_num,HN.out.trans (by rw[if_pos (by omega)]),F,P⟩
   go_wp2_with (first|(refine vH (n:=62) (f:=jD x) (ty:=241) rfl (.tmp 14) rfl z (k*62) rfl hrg (by kernel_rfl) (by kernel_rfl) ?_)|(refine vI (n:=62) (f:=jD x) (ty:=241) rfl (.tmp 5) (.tmp 15) rfl wr.heap.size 0 rfl rfl D (by kernel_rfl) S.out V ?_));clear hrg D V hze c0 c1;generalize wr.heap.size=lb at*;generalize a1:max a x.b=q at*;have R:Hid (max a x.b=q):=a1;clear a1;go_loopg [30] 60 (λgk a7 wr=>∃p:Nat,gk+p=60/\a7=.int .i64 p/\Hid (EO wr B o C A {e with t:=max a (min p q)})/\Hid (Off (λj=>j=o) W wr))
   case atStart=>exact⟨0,rfl,rfl,(by
    have r:max a (min 0 q)=a:=by omega
    rw[r];exact F),Off.refl _ _⟩
   case round=>
    obtain⟨p,X,rfl,HE2,I⟩:=hrel;have Q:Hid (gk+p=60):=X;clear X;by_cases g2:(p:Int)<60
    .have K:=HE2.out.told p (by omega);have fp:=HE2.out.fz (61+p);have dp:=I.out.cell (p:=⟨lb,2+p,none⟩) (HHD.out p (by omega)) HLB.out;have N:Hid (EInv {e with t:=max a (min (p+1) q)}):=by
      have E:=F.out.inv;have i1:=HX.out;have:=R.out;exact E.setT (t:=max a (min (p+1) q)) (by show a<=_;omega) (by have:=E.t1;show _<=en e;have t1:a<=en e:=this;omega)
     have y:Hid (∀v,v=decide (p<max a (min (p+1) q))->TurnI wr (wr.setCell ⟨o,61+p,none⟩ (.bool v)).drew B o C A {e with t:=max a (min (p+1) q)}):=by
      show∀v,_->_;intro v hv;have h1:=HE2.out.setT N.out (p:=p) (by omega) (λi _ a9=>by
       by_cases r:i<max a (min p q);rw [decide_eq_true r,decide_eq_true (by omega)];rw [decide_eq_false r,decide_eq_false (by omega)]) hv
      have h2:=TurnI.below h1.1 ((Below.refl _ (wr.setCell ⟨o,61+p,none⟩ (.bool v))).drew);exact h1.trans h2
     by_cases ht:p<a
     .have cp:=K.trans (congrArg (λb=>some (Value.bool b)) (decide_eq_true (show p<max a (min p q) by omega)));clear K;have U:=y.out true (decide_eq_true (by omega)).symm;have HT4:Hid _:=U;clear y U HE2 N dp;go_wp2_with fail;go_region
      all_goals go_wp2_with fail
      all_goals
       go_roundg (60-(p+1))
       case measure=>have:=Q.out;omega
       case rel=>exact⟨p+1,by have:=Q.out;omega,by go_num,HT4.out.1,I.out.trans HT4.out.2⟩
     have cp:=K.trans (congrArg (λb=>some (Value.bool b)) (decide_eq_false (show¬p<max a (min p q) by omega)));clear K;have U:=y.out (decide (x.a<=p/\p<x.b)) (by
      have i1:=HX.out;have:=R.out;by_cases r:x.a<=p/\p<x.b;rw [decide_eq_true r,decide_eq_true (by omega)];rw [decide_eq_false r,decide_eq_false (by omega)])
     have HT4:Hid _:=U;clear y U HE2 N;generalize decide (x.a<=p/\p<x.b)=bv at*;go_wp2_with fail;go_region
     all_goals go_wp2_with fail
     all_goals
      go_roundg (60-(p+1))
      case measure=>have:=Q.out;omega
      case rel=>exact⟨p+1,by have:=Q.out;omega,by go_num,HT4.out.1,I.out.trans HT4.out.2⟩
    have a2:Hid (EO wr B o C A {e with t:=q}):=by
     have:=Q.out;have E:=F.out.inv;have i1:=HX.out;have:=R.out;have aa:en e<=60:=E.en60;have t1:a<=en e:=E.t1;have r:max a (min p q)=q:=by omega
     rw[r]at HE2;exact HE2
    clear HE2;go_wp2_with fail;go_roundg (m-(k+1))
    case measure=>have:=u.out;omega
    case rel=>exact⟨k+1,q,by have:=u.out;omega,by go_num,HN.out.trans (by rw[if_neg (by omega)]),a2,P.out.trans I.out⟩
  have y:Hid (TurnI w wr B o C A {e with t:=qy e.ls e.t (l,d)}):=by
   have r:e.ls.drop k=[]:=List.drop_of_length_le (by have:=O.out;have:=u.out;omega);have e2:qy e.ls e.t (l,d)=a:=by rw[J.out,r];rfl
   rw[e2];exact⟨s.out,(Off.of_below HB0.out).trans H.out⟩
  clear J s H;go_wp2_with fail;refine bodyPost_end (zs2 rfl _ _) rfl ⟨rfl,y.out⟩
end Go.Proofs.YtdokgalidhmbbaaGreatDoor
namespace Go.Proofs.YtdokgalidhmbbaaGreatDoor
open Go.RowKit Go.Shelf Go.Lib
attribute [local go_sem] Oper.semAt_some
variable {B:Nat}{C A:Value}
theorem zlu{β:Type}{N o:Nat}(a:∀k,qz o C A k->k<N)(f:β->En):OwnFrom N (λs W=>EO W B o C A (f s)):=λs W i h g b d=>
 g.off (K:=λk=>h=some k) (Off.of_grown b λk e=>e) λk c e=>by
  have:=a k c
  have:=(d k e).1
  omega
theorem zlv{β:Type}{N d:Nat}{Y:World}(j:Y.heap.size<=N):OwnFrom N (λ(_:β) W=>Off (λk=>k=d) Y W):=λs W c i a f h=>by
 have o:Off (λk=>i=some k) W c:=Off.of_grown f λk e=>e
 refine⟨o.os.trans a.os,o.tape.trans a.tape,o.output.trans a.output,Nat.le_trans a.size o.size,λk b g=>?_⟩
 rw[o.block k (Nat.lt_of_lt_of_le b a.size) (λe=>by have:=(h k e).1;omega)]
 exact a.block k b g
variable {e:En}{z:Int}
theorem zfm{i:Nat}(h:i≠123):zM {e with k:=z} C A i=zM e C A i:=by
 unfold zM;simp only[h,if_false]
variable {w:World}{b:Nat}
theorem EO.setK{l:Int}(h:EO w B b C A e)(hi:EInv {e with k:=l})(f:z=l):TurnI w (w.setCell ⟨b,123,none⟩ (.int .i64 z)) B b C A {e with k:=l}:=by
 subst f;have o:Off (λk=>k=b) w (w.setCell ⟨b,123,none⟩ (.int .i64 z)):=(Off.refl _ _).setCell (K:=λk=>k=b) (a:=⟨b,123,none⟩) rfl _;refine⟨⟨hi,λi hi=>?_,λi=>by simpa using h.fz i,h.hs,o.row h.ld (λk d e'=>by subst e';exact h.ap.1 d),o.row h.cm (λk d e'=>by subst e';exact h.ap.2 d),h.ap⟩,o⟩;by_cases c:i=123;subst c;exact World.cell?_setCell_same _ _ _ (h.cl 123 (by omega));rw [World.cell?_setCell_other _ _ _ _ (λe'=>by injection e' with _ e' _;exact c e'.symm),h.cl i hi];exact congrArg some (zfm c).symm
theorem EInv.setK(h:EInv e)(a: -1<=z)(b:z<e.m):EInv {e with k:=max e.k z}:=
 ⟨h.d60,h.t1,h.l0,h.l1,h.m1,by have:=h.k0;simp only;omega,by have:=h.k1;simp only;omega,h.ls,h.s,h.c,h.cm,h.ll⟩
theorem zal{o g L C:Nat}{c:Value}{i:Int}(h:EO w B o c A e)(f:g<w.heap.size)(r:1<=L)(d:w.cell? ⟨g,b,none⟩=some (.int .i64 i))(s:(e.m:Int)<=i):
  Calls Tryz.prog 160 #[.pointer (some ⟨o,0,none⟩),.slice (some ⟨g,b,none⟩) L C] w λm E=>m=.returned (zN 6)/\TurnI w E B o c A e:=by
 have k:=zC h;have a:Below w.heap.size w (w.alloc (.cells #[.pointer (some ⟨o,0,none⟩)] 108)):=(Below.refl _ _).alloc (Nat.le_refl _) _;have j:=zC a;have l:=(a.cell (p:=⟨o,122,none⟩) h.lt).trans (h.cl 122 (by omega));rw[y9]at l;have n:=(a.cell (p:=⟨g,b,none⟩) f).trans d;have u:(w.alloc (.cells #[.pointer (some ⟨o,0,none⟩)] 108)).cell? ⟨w.heap.size,0,none⟩=some (.pointer (some ⟨o,0,none⟩)):=by simp
 have q:(0:Int)<(L:Int):=by omega
 clear h a d f;generalize(e.m:Int)=t at*;go_enter Tryz.func160,Tryz.ntmps160
 go_wp2_with fail;go_ret;exact⟨rfl,TurnI.below k.out j.out⟩
theorem zam{a g M L C:Nat}{s:Value}{f:List Int}{j:Int}(h:EO w B a s A e)(ad:L=2*M)(aw:1<=M)(ae:M<=12)(ac:L<=C)(ai:f.length=L)(O:g<w.heap.size)(ag:ICells w g b f)(ah:g≠a)(af:w.cell? ⟨g,b,none⟩=some (.int .i64 j))(av: -1<=j)(hz:j<(e.m:Int)):
  Calls Tryz.prog 160 #[.pointer (some ⟨a,0,none⟩),.slice (some ⟨g,b,none⟩) L C] w λex w'=>ex=.returned .nilIface/\TurnI w w' B a s A {e with k:=max e.k j,t:=tells e.ls e.t (zR f)}:=by
 refine(callsIn_wide (n:=5)).1 ?_;have ax:Fence.wide.fn 183:=trivial;have ay:Fence.wide.fn 184:=trivial;have a0:=zC ad;have an:=zC ac;have ao:=zC ae;have a5:=zC ai;have Hg:=zC O;have CC:=zC ag;have a1:=zC ah;have a7:Hid (a<w.heap.size):=h.lt;have a6:Hid (∀k,qz a s A k->k<w.heap.size):=λk u=>(h.own_lt u).2;have P:Below w.heap.size w (w.alloc (.cells #[.pointer (some ⟨a,0,none⟩)] 108)):=(Below.refl _ _).alloc (Nat.le_refl _) _
 have c122:=(P.cell (p:=⟨a,122,none⟩) h.lt).trans (h.cl 122 (by omega));have c123:=(P.cell (p:=⟨a,123,none⟩) h.lt).trans (h.cl 123 (by omega));have ap:=(h.below P).fz 123;rw[y9]at c122;rw[YV]at c123;have d0:=(P.cell (p:=⟨g,b,none⟩) O).trans af;have q0:(w.alloc (.cells #[.pointer (some ⟨a,0,none⟩)] 108)).cell? ⟨w.heap.size,0,none⟩=some (.pointer (some ⟨a,0,none⟩)):=by simp
 have g1:(0:Int)<(L:Int):=by omega
 have kO0:Boxed (w.alloc (.cells #[.pointer (some ⟨a,0,none⟩)] 108)) w.heap.size 108 (.pointer (some ⟨a,0,none⟩)):=Boxed.new w 108 _;have HT:Hid (∀v,v=max e.k j->TurnI w ((w.alloc (.cells #[.pointer (some ⟨a,0,none⟩)] 108)).setCell ⟨a,123,none⟩ (.int .i64 v)).drew B a s A {e with k:=max e.k j}/\Boxed ((w.alloc (.cells #[.pointer (some ⟨a,0,none⟩)] 108)).setCell ⟨a,123,none⟩ (.int .i64 v)).drew w.heap.size 108 (.pointer (some ⟨a,0,none⟩))/\((w.alloc (.cells #[.pointer (some ⟨a,0,none⟩)] 108)).setCell ⟨a,123,none⟩ (.int .i64 v)).drew.heap.size=w.heap.size+1):=by
  show∀v,_->_;intro v hv;have h1:=(h.below P).setK (h.inv.setK av hz) hv;have h2:=TurnI.below h1.1 ((Below.refl _ ((w.alloc (.cells #[.pointer (some ⟨a,0,none⟩)] 108)).setCell ⟨a,123,none⟩ (.int .i64 v))).drew);refine⟨⟨h2.1,((Off.of_below P).trans h1.2).trans h2.2⟩,?_,?_⟩;exact ((h1.2.trans h2.2).block _ kO0.lt (by have:=h.lt;omega)).trans kO0;.simp
 clear ai O ag ad ac ae ah h P af kO0;have ar:¬(e.m:Int)<=j:=by omega
 generalize(e.m:Int)=mm at c122 ar;refine callsIn_of_wp_marks Tryz.func160 rfl trivial ?_ rfl;simp only[Tryz.ntmps160,List.size_toArray,List.length_cons,List.length_nil,Nat.reduceAdd,Nat.reduceSub,Array.replicate_succ,Array.replicate_zero,List.push_toArray,List.append_toArray,List.nil_append,List.cons_append];gi_wp2;gi_region
 obtain⟨ht0,kO0,sz0⟩:=HT.out _ rfl;clear HT c122 c123 ap d0 q0;generalize((w.alloc (.cells #[.pointer (some ⟨a,0,none⟩)] 108)).setCell ⟨a,123,none⟩ (.int .i64 (max e.k j))).drew=m at*;have HS1:Hid (m.heap.size=w.heap.size+1):=sz0;clear sz0;gi_wp2_with (gi_at_call 183;refine(J9 4 _ _ _ _).mono ?_;rintro ex w' ⟨rfl,rfl⟩);have bS:Boxed (((m).alloc (.cells #[.slice (some ⟨g,b,none⟩) L C] 54)).alloc (.cells #[.int .i64 2] 3)) m.heap.size 54 (.slice (some ⟨g,b,none⟩) L C):=(Boxed.new m 54 (.slice (some ⟨g,b,none⟩) L C)).alloc (.cells #[.int .i64 2] 3)
 have bN:Boxed (((m).alloc (.cells #[.slice (some ⟨g,b,none⟩) L C] 54)).alloc (.cells #[.int .i64 2] 3)) (m.heap.size+1) 3 (.int .i64 2):=by
  have:=Boxed.new (m.alloc (.cells #[.slice (some ⟨g,b,none⟩) L C] 54)) 3 (.int .i64 2);rwa[World.size_alloc]at this
 have kO3:Boxed (((m).alloc (.cells #[.slice (some ⟨g,b,none⟩) L C] 54)).alloc (.cells #[.int .i64 2] 3)) w.heap.size 108 (.pointer (some ⟨a,0,none⟩)):=(kO0.alloc _).alloc _;have hb3:Below m.heap.size m (((m).alloc (.cells #[.slice (some ⟨g,b,none⟩) L C] 54)).alloc (.cells #[.int .i64 2] 3)):=((Below.refl _ m).alloc (Nat.le_refl _) _).alloc (by simp) _;have sz3:((((m).alloc (.cells #[.slice (some ⟨g,b,none⟩) L C] 54)).alloc (.cells #[.int .i64 2] 3))).heap.size=m.heap.size+2:=by simp
 have hE3:=ht0.1.below hb3;have hO3:Off (λk=>k=a) w (((m).alloc (.cells #[.slice (some ⟨g,b,none⟩) L C] 54)).alloc (.cells #[.int .i64 2] 3)):=ht0.2.trans (Off.of_below hb3);generalize(((m).alloc (.cells #[.slice (some ⟨g,b,none⟩) L C] 54)).alloc (.cells #[.int .i64 2] 3))=N at*;have SZ3:Hid (N.heap.size=m.heap.size+2):=sz3;clear hb3 ht0 kO0 sz3;generalize m.heap.size=d at*;have Z:Hid (w.heap.size<=N.heap.size):=by have:=HS1.out;have:=SZ3.out;show _<=_;omega
 refine wpIn_rangeFunc_ownG rfl (by decide) (gf:=211) (lb:=#[.pointer (some ⟨d,0,none⟩),.pointer (some ⟨d+1,0,none⟩)]) rfl trivial (enters_of Tryz.func211 (by kernel_rfl) rfl)
  (Ja (5-1) (by decide) g b M L C d (d+1) a0.out (by have:=ao.out;omega) an.out N (by have:=SZ3.out;omega) (by have:=SZ3.out;omega) ⟨bS.cell,bN.cell⟩)
  (λh k hR=>k (h hR)) (KpH.put (w:=N)) (Below.refl _ _) (λ_=>rfl)
  (λ(J:List (Ix M)) W=>EO W B a s A {e with k:=max e.k j,t:=tells e.ls e.t (J.map (λy=>vG f y.1))}/\Boxed W w.heap.size 108 (.pointer (some ⟨a,0,none⟩))/\Boxed W d 54 (.slice (some ⟨g,b,none⟩) L C)/\Boxed W (d+1) 3 (.int .i64 2)/\Off (λk=>k=a) w W)
  (λ_ _ _=>False)
  (OwnFrom.and (zlu (λk u=>Nat.lt_of_lt_of_le (a6.out k u) Z.out) _) (OwnFrom.and (Own.from (boxed_own _ _ _) _) (OwnFrom.and (Own.from (boxed_own _ _ _) _) (OwnFrom.and (Own.from (boxed_own _ _ _) _) (zlv Z.out)))))
  (λ_ _ _ _ _ hs _ _=>hs)
  ⟨hE3,kO3,bS,bN,hO3⟩
  (λx=>{tmps:=#[.pointer (some ⟨a,0,none⟩),.slice (some ⟨g,b,none⟩) L C,.pointer (some ⟨w.heap.size,0,none⟩),undef,.nilIface,.int .i64 j,.slice (some ⟨g,b+2*x.1,none⟩) 2 2,.slice (some ⟨g,b,none⟩) L C,.pointer (some ⟨g,b,none⟩),.int .i64 j,.int .i64 j,.pointer (some ⟨a,0,none⟩),.pointer (some ⟨a,0,none⟩),.pointer (some ⟨a,122,none⟩),.int .i64 mm,.bool false,undef,.pointer (some ⟨a,0,none⟩),.pointer (some ⟨a,0,none⟩),.pointer (some ⟨a,0,none⟩),.pointer (some ⟨a,123,none⟩),.int .i64 e.k,.int .i64 j,.int .i64 (max e.k j),.pointer (some ⟨a,0,none⟩),.pointer (some ⟨a,123,none⟩),.slice (some ⟨g,b,none⟩) L C,.func (.func 211) #[] #[.pointer (some ⟨d,0,none⟩),.pointer (some ⟨d+1,0,none⟩)],.slice (some ⟨g,b+2*x.1,none⟩) 2 2,undef,undef,undef,undef,undef,undef,undef,undef,undef],defers:=[]}) ?assign ?body ?done ?stop
 all_goals clear kO3 bS bN hE3 hO3
 case assign=>
  intro l x W K I;gi_wp2;exact I
 case body=>
  rintro l J ⟨x,hx⟩ W ⟨hE,T,Y,S,F⟩ au;have hx:x<M:=hx;have aj:2*x+1<f.length:=by have:=a5.out;have:=a0.out;omega
  have a8:=CC.out (2*x) (by omega);have cx1:=CC.out (2*x+1) aj;rw[<-Nat.add_assoc]at cx1;have z0':=F.cell (p:=⟨g,b+2*x,none⟩) a8 a1.out;have z1':=F.cell (p:=⟨g,b+2*x+1,none⟩) cx1 a1.out;have HS:Hid (tells e.ls e.t ((J++[(⟨x,hx⟩:Ix M)]).map (λy=>vG f y.1))=qy e.ls (tells e.ls e.t (J.map (λy=>vG f y.1))) (f[2*x+1]?.getD 0,f[2*x]?.getD 0)):=by
   show _=_;rw[List.map_append];unfold tells;rw[List.foldl_append];rfl
  clear a8 cx1 au aj;generalize f[2*x]?.getD 0=U at*;generalize f[2*x+1]?.getD 0=V at*;generalize tells e.ls e.t (J.map (λy=>vG f y.1))=tt at*;have a3:Boxed W.drew w.heap.size 108 (.pointer (some ⟨a,0,none⟩)):=T;have a4:Boxed W.drew d 54 (.slice (some ⟨g,b,none⟩) L C):=Y;have a2:Boxed W.drew (d+1) 3 (.int .i64 2):=S;have a9:Off (λk=>k=a) w W.drew:=F.drew;have ab:EO W.drew B a s A {e with k:=max e.k j,t:=tt}:=hE.below ((Below.refl _ W).drew)
  have HTL:=zs1 ab V U;have HTP:Hid (∀r,TurnI W.drew r B a s A {e with k:=max e.k j,t:=qy e.ls tt (V,U)}->KeepsFrom N.heap.size W r/\KpH g b L C d (d+1) W r/\EO r B a s A {e with k:=max e.k j,t:=qy e.ls tt (V,U)}/\Boxed r w.heap.size 108 (.pointer (some ⟨a,0,none⟩))/\Boxed r d 54 (.slice (some ⟨g,b,none⟩) L C)/\Boxed r (d+1) 3 (.int .i64 2)/\Off (λk=>k=a) w r):=by
   show∀r,_->_;intro r Q;have b0:=a7.out;have b2:=SZ3.out;have b1:=HS1.out;have k1:Boxed r w.heap.size 108 (.pointer (some ⟨a,0,none⟩)):=(Q.2.block _ a3.lt (by omega)).trans a3;have k2:Boxed r d 54 (.slice (some ⟨g,b,none⟩) L C):=(Q.2.block _ a4.lt (by omega)).trans a4;have k3:Boxed r (d+1) 3 (.int .i64 2):=(Q.2.block _ a2.lt (by omega)).trans a2;refine⟨⟨Q.2.size,λk o u ho _=>?_⟩,λ_=>⟨k2.cell,k3.cell⟩,Q.1,k1,k2,k3,a9.trans Q.2⟩
   have aq:k<W.drew.heap.size:=(Array.getElem?_eq_some_iff.1 ho).1;exact(Q.2.block k aq (by omega)).trans ho
  have y0:W.drew.cell? ⟨g,b+2*x,none⟩=some (.int .i64 U):=z0';have y1:W.drew.cell? ⟨g,b+2*x+1,none⟩=some (.int .i64 V):=z1';have y2:=a3.cell;clear T Y S F hE z0' z1' a9 ab a4 a2;gi_wp2;refine fB (λX=>X.cell? ⟨g,b+2*x,none⟩=some (.int .i64 U)/\X.cell? ⟨g,b+2*x+1,none⟩=some (.int .i64 V)/\X.cell? ⟨w.heap.size,0,none⟩=some (.pointer (some ⟨a,0,none⟩))) (by kernel_rfl) (by kernel_rfl) ⟨y0,y1,y2⟩ (λhHeld=>?_)
  clear y0 y1 y2;generalize W.drew=Wd at*;refine kv 0 (.pointer (some ⟨a,0,none⟩)) rfl (by kernel_rfl) Quiet.panic rfl (by assumption) ?_ ?_;.intro G q;obtain⟨z,d,E⟩:=q;go_simp
  try simp only[Act.put,zD,zF,zG]
  refine kv 1 (.slice (some ⟨g,b+2*x,none⟩) 2 2) rfl (by kernel_rfl) Quiet.panic rfl (by assumption) ?_ ?_;.intro G q;obtain⟨z,d,E⟩:=q;go_simp
  try simp only[Act.put,zD,zF,zG]
  refine kv 2 (.pointer (some ⟨g,b+2*x,none⟩)) rfl (by kernel_rfl) Quiet.panic rfl (by assumption) ?_ ?_;.intro G q;obtain⟨z,d,E⟩:=q;go_simp
  try simp only[Act.put,zD,zF,zG]
  refine kv 3 (.int .i64 U) rfl (by kernel_rfl) Quiet.panic rfl (by assumption) ?_ ?_;.intro G q;obtain⟨z,d,E⟩:=q;go_simp
  try simp only[Act.put,zD,zF,zG]
  refine kv 4 (.slice (some ⟨g,b+2*x,none⟩) 2 2) rfl (by kernel_rfl) Quiet.panic rfl (by assumption) ?_ ?_;.intro G q;obtain⟨z,d,E⟩:=q;go_simp
  try simp only[Act.put,zD,zF,zG]
  refine kv 5 (.pointer (some ⟨g,b+2*x+1,none⟩)) rfl (by kernel_rfl) Quiet.panic rfl (by assumption) ?_ ?_;.intro G q;obtain⟨z,d,E⟩:=q;go_simp
  try simp only[Act.put,zD,zF,zG]
  refine kv 6 (.int .i64 V) rfl (by kernel_rfl) Quiet.panic rfl (by assumption) ?_ ?_;.intro G q;obtain⟨z,d,E⟩:=q;go_simp
  try simp only[Act.put,zD,zF,zG]
  refine kv 7 (.agg #[.int .i64 V,.int .i64 U]) rfl (by kernel_rfl) Quiet.panic rfl (by assumption) ?_ ?_;.intro G q;obtain⟨z,d,E⟩:=q;go_simp
  try simp only[Act.put,zD,zF,zG]
  refine wpAnyH_ready (rs:=[8]) (by kernel_rfl) (by simp) ?_;refine AllReadyH.cons (o:= ⟨some 37,.call {callee:=.value (.func 184),args:=#[.tmp 29,.tmp 36],argTypes:=#[108,143]},0,"end.go:222",#[⟨0,.data⟩,⟨7,.data⟩],none⟩) rfl (λK I=>?_) AllReadyH.nil;go_simp;refine HTL.mono ?_;rintro ex w4 ⟨rfl,R⟩;have hq:=HTP.out w4 R;refine I.out _ _ ?_ (λhHeld=>?_);have hl:=a1.out;have az:=a7.out;exact⟨R.2.cell hHeld.1 hl,R.2.cell hHeld.2.1 hl,R.2.cell hHeld.2.2 (show¬w.heap.size=a by omega)⟩
  clear I K;refine wpAnyH_done (by kernel_rfl) (Quiet.normal ?_) _;clear hHeld;obtain⟨q1,q2,q3,q4,q5,q6,q7⟩:=hq;refine⟨q1,q2,?_,q4,q5,q6,q7⟩;rw[HS.out];exact q3
 case done=>
  rintro D ys W hD ak ⟨hE,T,Y,S,F⟩ I;rw[show ys.map (λy=>vG f y.1)=zR f by rw[<-Xz M f (by have:=a5.out;have:=a0.out;omega),<-ak,List.map_map];rfl]at hE;have aa:Hid (w.heap.size<=D):=by show _<=_;have:=Z.out;omega
  have H:Hid (Off (λk=>k=a) w W):=F;have al:Hid (EO W B a s A {e with k:=max e.k j,t:=tells e.ls e.t (zR f)}):=hE;have am:Hid (TurnI w (W.putObj D (.deferred none)) B a s A {e with k:=max e.k j,t:=tells e.ls e.t (zR f)}):=by
   have O:=grownBy_putObj' W D (.deferred none);have o:Off (λk=>k=D) W (W.putObj D (.deferred none)):=Off.of_grown O λk e=>by cases e;rfl
   refine⟨al.out.off o λk u e'=>?_,⟨o.os.trans H.out.os,o.tape.trans H.out.tape,o.output.trans H.out.output,Nat.le_trans H.out.size o.size,λk u hn=>?_⟩⟩;have:=a6.out k u;have:=aa.out;omega;have:=aa.out;rw[o.block k (Nat.lt_of_lt_of_le u H.out.size) (by omega)];exact H.out.block k u hn
  clear ak T Y S F hE;gi_wp2;refine⟨by simp,.inl ⟨_,_,rfl,run_takeDeferred I,?_⟩⟩;exact⟨_,results_tmp rfl _ _ _,rfl,am.out⟩
 case stop=>
  rintro D c J W _ _ h _;exact h.elim
theorem zak{a:List Int}(b:fF (2,a,nilB)=0):∃M,a.length=2*M/\1<=M/\M<=12:=by
 obtain⟨_,h2,_⟩:=kV b;unfold zW at h2;rw[if_pos rfl]at h2;have h:=of_decide_eq_true h2;simp only at h;exact⟨a.length/2,by omega,by omega,by omega⟩
theorem zad{a:List Int}(l:fF (2,a,nilB)=0):yx a:=by
 intro w B o C A u e h s hue;obtain⟨x,y,F,h4,P,Q⟩:=kV l;obtain⟨M,hM,q,r⟩:=zak l;simp only at h4;obtain⟨m,c,rfl,U,hc,v⟩:=s;obtain⟨g,d,rfl,k,hC⟩:∃b d,m=some ⟨b,d,none⟩/\b<w.heap.size/\ICells w b d a:=by
  rcases v with f|f;subst f;simp at hM;omega;exact f
 have t:g≠o:=λn=>hue (by rw[n];rfl);obtain⟨z,J,rfl⟩:∃z J,a=z::J:=by
  cases a with
  |nil=>simp at hM;omega
  |cons z J=>exact⟨z,J,rfl⟩
 have V:=h4 z List.mem_cons_self;have j:w.cell? ⟨g,d,none⟩=some (.int .i64 z):=by simpa using hC 0 (by simp)
 have p:first (z::J)=z:=rfl
 unfold zn;simp only[if_true,p];by_cases i:(e.m:Int)<=z;rw [if_pos i];exact zal h k (by simp) j i;rw [if_neg i];exact zam h hM q r hc rfl k hC t j (by omega) (by omega)
end Go.Proofs.YtdokgalidhmbbaaGreatDoor
namespace Go.Proofs.YtdokgalidhmbbaaGreatDoor
open Go.RowKit Go.Lib Go.Sort
open Sx (zP)
theorem eP:∀(k:Nat) (s:ByteArray) (l:List F),s.size<=k->qF s=some l->∀f∈l,fF f=0:=by
 intro k
 induction k with
 |zero=>
  intro s l d h f hf;rw[Xt (by omega)]at h;cases h;simp at hf
 |succ k e=>
  intro s l d h f hf;by_cases a:s.size=0;rw [Xt a]at h;cases h;simp at hf;cases h1:jL s with
  |none=>rw[VV a h1]at h;cases h
  |some c=>
   obtain⟨g,n⟩:=c
   obtain⟨g0,j,m⟩:=VU (L:=[]) h1
   rw[VW a h1]at h
   cases b:qF (s.extract n s.size)with
   |none=>rw[b]at h;cases h
   |some i=>
    rw[b]at h;simp only[Option.map_some,Option.some.injEq]at h;subst h;rcases List.mem_cons.1 hf with rfl|hf;exact g0;exact e (s.extract n s.size) i (by rw[ByteArray.size_extract];omega) b f hf
variable {n:Int}
theorem zow{s:ByteArray}{b:Int}{l:List F}(h:xZ s b=some (n,l)):∀f∈l,fF f=0:=by
 obtain⟨c,_,h2⟩:=ZM h
 unfold fin at h2
 cases a:qF (s.extract c s.size)with
 |none=>rw[a]at h2;cases h2
 |some d=>
  rw[a]at h2;simp only[Option.bind_some]at h2;split at h2;cases h2;cases h2;exact eP _ _ _ (Nat.le_refl _) a
theorem eQ{s:ByteArray}{e:Int}{l:List F}(h:xZ s e=some (n,l)):∀f∈l,f.1=2->yx f.2.1:=by
 intro f c h2;have h0:=zow h f c;obtain⟨k,M,d⟩:=f;simp only at h2;subst h2;obtain⟨_,_,a,_⟩:=kV h0;have b:d=nilB:=by
  have:=a (show(2:Int)≠3 by decide);apply ByteArray.ext;exact Array.eq_empty_of_size_eq_zero this
 subst b;exact zad h0
theorem Jq{f:F}(h:fF f=0):(fS f).size=1+(mid f.1 f.2.1 f.2.2).length+f.2.2.size:=by
 have h1:=congrArg List.length (KT (k:=f.1) (ns:=f.2.1) (d:=f.2.2) h);rw[zg]at h1;unfold fS;rw[h1];unfold QR;rw[List.cons_append,List.length_cons,List.length_append,zg];omega
theorem aP(h0:0<=n)(a:n<=1073741823):qp [n]:=λz hz=>by
 simp at hz
 subst hz
 exact⟨h0,by omega⟩
theorem WJ{c:List R}(h:xC c=0)(e:c≠ []):fF (2,zK c,nilB)=0/\(fS (2,zK c,nilB)).size<=98:=by
 have d:=(x9 c).1 h;have i:1<=c.length:=by
  cases c with
  |nil=>exact absurd rfl e
  |cons a b=>simp
 have f:fF (2,zK c,nilB)=0:=yg (show zw 2=true by decide) (by
  show zW 2 (zK c).length=true;unfold zW;rw[if_pos rfl,yC];exact decide_eq_true ⟨by omega,by omega,by have:=d.1;omega⟩) (λ_=>rfl) (WA d) (show 0<=20 by omega) (λ_=>by rw[Zn];exact d)
 refine⟨f,?_⟩;rw[Jq f];have g:mid 2 (zK c) nilB=enc c:=by unfold mid;rw[if_pos rfl,Zn]
 have:=Jo d e;have:=d.1;show 1+(mid 2 (zK c) nilB).length+nilB.size<=98;rw[g];have:nilB.size=0:=rfl;omega
theorem Wx(b:0<=n)(c:n<=1073741823):fF (4,[n],nilB)=0/\(fS (4,[n],nilB)).size<=5:=by
 have a:fF (4,[n],nilB)=0:=yg (show zw 4=true by decide) (show zW 4 1=true by decide) (λ_=>rfl) (aP b c) (show 0<=20 by omega) (λe=>by cases e);refine⟨a,?_⟩;rw[Jq a];show 1+([n].flatMap V.nums).length+0<=5;have:=yc [n];simp only[List.length_cons,List.length_nil]at this;omega
theorem zm1{p:Nat×ByteArray}(c:p.1<=60)(b:p.2.size<=20):fF (qK p)=0/\(fS (qK p)).size<=29:=by
 have a:fF (qK p)=0:=yg (by show zw 3=true;decide) (by show zW 3 1=true;decide) (λe=>absurd rfl e) (aP (by omega) (by omega)) b (λe=>by cases e);refine⟨a,?_⟩;rw[Jq a];show 1+(([(p.1:Int)]++[(p.2.size:Int)]).flatMap V.nums).length+p.2.size<=29;have:=yc ([(p.1:Int)]++[(p.2.size:Int)]);simp only[List.length_append,List.length_cons,List.length_nil]at this;omega
theorem zgr:∀ {l:List F},(∀f∈l,fF f=0)->ql l=0:=fun{l} h=>XN l λj a=>h _ (Js a)
theorem Yd:∀(l:List F) (b:Nat),(∀f∈l,(fS f).size<=b)->(zx l).size<=b*l.length
 |[],b,_=>Nat.zero_le _
 |f::l,b,h=>by
  have c:=Yd l b λg a=>h g (List.mem_cons_of_mem _ a)
  have d:=h f List.mem_cons_self
  simp only[zx,ByteArray.size_append,List.length_cons,Nat.mul_add,Nat.mul_one]
  omega
theorem zm7{k:Int}(h:U.qb n k=true):(vP n k).size<=5:=by
 have h1:=congrArg List.length (XZ n k);rw[zg]at h1;rw[h1,List.length_cons];unfold zX;split;.simp
 .split
  .simp
  .split<;>simp
variable {e:En}
theorem dK(h:EInv e):∀f∈(pieces e).map qK,fF f=0/\(fS f).size<=29:=by
 intro f a;obtain⟨p,b,rfl⟩:=List.mem_map.1 a;have:=Zk e.d (en e) (ky e) 3 e.t p b;have:=h.en60;exact zm1 (by omega) (by omega)
theorem zgo(h:EInv e):∀f∈qO e,fF f=0:=by
 intro f hf;unfold qO at hf;rcases List.mem_append.1 hf with hf|hf;split at hf;simp at hf;rename_i a;simp at hf;subst hf;exact(WJ h.cm a).1;rcases List.mem_cons.1 hf with rfl|hf;have:=h.c.l1;have:=h.c.w1;exact(Wx (by omega) h.c.l2).1;exact (dK h f hf).1
theorem zgq(h:EInv e):(zx (qO e)).size<=190:=by
 unfold qO;rw[KC];have k:=Yd ((pieces e).map qK) 29 λf b=>(dK h f b).2;have j:((pieces e).map qK).length<=3:=by rw[List.length_map];exact yO _ _ _ _
 have c:=h.c.l1;have d:=h.c.w1;have i:=(Wx (n:=e.c.lim) (by omega) h.c.l2).2;have g:(zx (if e.cm=[]then[]else[(2,zK e.cm,nilB)])).size<=98:=by
  split;exact Nat.zero_le _;rename_i a;rw[Ye];exact(WJ h.cm a).2
 simp only[ByteArray.size_append,zx];omega
theorem zgp:1<=(qO e).length/\(qO e).length<=5:=by
 have a:((pieces e).map qK).length<=3:=by rw[List.length_map];exact yO _ _ _ _
 unfold qO;rw[List.length_append,List.length_cons];split;simp only[List.length_nil];omega;simp only[List.length_cons,List.length_nil];omega
theorem K6(h:EInv e)(f:e.m<=1073741823):xV e=0:=by
 have b:=h.k0;have c:=h.k1;have a:U.qb e.m e.k=true:=decide_eq_true ⟨by omega,by omega,b,c⟩;have d:=zgp (e:=e);have i:=zgq h;have g:=zm7 a;unfold xV vX;rw[if_neg (by rw[a];decide),if_neg (by omega),if_neg (by omega),zgr (zgo h),if_neg (by decide),if_neg (by unfold xw;rw[ByteArray.size_append];omega)]
theorem K5(h:xV e=0):qP e=xw e.m e.k (qO e):=by unfold qP;rw[if_pos h]
theorem K7(h:xV e=0):q9 e={e with ls:=jC e.ls e.m (pk e).1 (pk e).2,m:=e.m+1}:=by unfold q9;rw[if_pos h]
end Go.Proofs.YtdokgalidhmbbaaGreatDoor
namespace Go.Proofs.YtdokgalidhmbbaaGreatDoor
open Go.RowKit Go.Lib Go.Sort
theorem zf6{d b:ByteArray}{f u:Nat}(h:u<=d.size):(d++b).extract f u=d.extract f u:=by
 apply jq;rw[kX,kX,V.wB];by_cases a:f<=u;rw [List.drop_append_of_le_length (by rw[zg];omega),List.take_append_of_le_length (by rw[List.length_drop,zg];omega)];rw [show u-f=0 by omega,List.take_zero,List.take_zero]
theorem dG{d b:ByteArray}{n:Nat}(h:n<=d.size):∀(k a:Nat),z8 (d++b) n k a=z8 d n k a
 |0,_=>rfl
 |k+1,a=>by
  simp only[z8]
  rw[dG h k,zf6 (by omega)]
theorem dL{e:En}(h:en e<=e.t):pieces e=[]:=by
 unfold pieces;simp only[z8];rw[if_neg (by omega)]
theorem zm8(e:En):pieces e=z8 e.d (pk e).2 3 (pk e).1:=by
 unfold pk;split;.rfl
 rename_i h;rw[dL (by omega)];rfl
end Go.Proofs.YtdokgalidhmbbaaGreatDoor
namespace Go.Proofs.YtdokgalidhmbbaaGreatDoor
open Go.RowKit Go.Lib Go.Sort
open Sx (zP)
theorem aR{e:En}(h:EInv e){p:Int}(hp:Mem e.cm p):p<zU e:=by
 obtain⟨_,_,hn⟩:=(x9 e.cm).1 h.cm
 unfold zU
 cases b:e.cm with
 |nil=>rw[b]at hp;exact absurd hp (Zc p)
 |cons r f=>
  rw[b]at hp hn;obtain⟨s,a,c,d⟩:=hp;rcases List.mem_cons.1 a with rfl|a;simp only;omega;have:=hn.2.1 s a;have:=hn.1;simp only;omega
theorem aZ{e:En}(h:EInv e):0<=zU e:=by
 obtain⟨_,h2,hn⟩:=(x9 e.cm).1 h.cm
 unfold zU
 cases a:e.cm with
 |nil=>simp
 |cons r b=>
  rw[a]at hn h2;have:=h2 r List.mem_cons_self;have:=hn.1;simp only;omega
variable {G:List Ld}{m a b:Nat}{l:Ld}
theorem zis(e:∀l,G.getLast? =some l->l.hi+1=m)(h:l∈G):∃c∈jC G m a b,c.lo=l.lo/\l.hi<=c.hi/\c.b=l.b:=by
 unfold jC;split;rename_i h0;rw[List.getLast?_eq_none_iff]at h0;subst h0;simp at h;rename_i x h0;have f:=e x h0;split;rename_i h1;obtain⟨d,rfl⟩:∃d,G=d++[x]:=by
  have:=List.getLast?_eq_some_iff.1 h0;exact this
 rw[List.dropLast_concat];rcases List.mem_append.1 h with h|h;exact ⟨l,List.mem_append_left _ h,rfl,Nat.le_refl _,rfl⟩;simp at h;subst h;exact⟨⟨l.lo,m,a,b⟩,by simp,rfl,by simp only;omega,h1.2.symm⟩;exact ⟨l,List.mem_append_left _ h,rfl,Nat.le_refl _,rfl⟩
theorem Yr{ls:List Ld} :∃l,(jC ls m a b).getLast? =some l/\l.hi=m/\l.b=b:=by
 unfold jC;split;exact ⟨_,rfl,rfl,rfl⟩
 .split
  .exact ⟨_,List.getLast?_concat ..,rfl,rfl⟩
  .exact ⟨_,List.getLast?_concat ..,rfl,rfl⟩
theorem zio(c:∀l∈G,l.lo<=l.hi)(e:∀l,G.getLast? =some l->l.hi+1=m):∀l∈jC G m a b,l.lo<=l.hi:=by
 intro l h;unfold jC at h;split at h;simp at h;subst h;exact Nat.le_refl _;rename_i x d;have i:=e x d;have f:x∈G:=by obtain⟨g,rfl⟩:=List.getLast?_eq_some_iff.1 d;simp
 split at h;rcases List.mem_append.1 h with h|h;exact c l (List.dropLast_subset _ h);simp at h;subst h;have:=c x f;simp only;omega;rcases List.mem_append.1 h with h|h;exact c l h;simp at h;subst h;exact Nat.le_refl _
theorem zim(h:l∈jC G m a b):l∈G\/(l.hi=m/\l.b=b/\(l.lo=m\/∃c,G.getLast? =some c/\c.lo=l.lo/\c.b=b)):=by
 unfold jC at h;split at h;simp at h;subst h;exact .inr ⟨rfl,rfl,.inl rfl⟩;rename_i x d;split at h;rename_i e;rcases List.mem_append.1 h with h|h;exact .inl (List.dropLast_subset _ h);simp at h;subst h;exact .inr ⟨rfl,rfl,.inr ⟨x,d,rfl,e.2⟩⟩;rcases List.mem_append.1 h with h|h;exact .inl h;simp at h;subst h;exact .inr ⟨rfl,rfl,.inl rfl⟩
theorem XM:∀(G:List Ld) (t:Nat),t<=G.foldl (λb x=>max b x.b) t
 |[],t=>Nat.le_refl _
 |y::G,t=>by
  simp only[List.foldl_cons]
  have:=XM G (max t y.b)
  omega
theorem Jw:∀(G:List Ld) (t:Nat),∀x∈G,x.b<=G.foldl (λb x=>max b x.b) t
 |[],t,x,h=>by simp at h
 |y::G,t,x,h=>by
  simp only[List.foldl_cons]
  rcases List.mem_cons.1 h with rfl|h
  .have:=XM G (max t x.b)
   omega
  .exact Jw G _ x h
theorem zsw{r:R}(h:l∈G)(a:¬((l.hi:Int)<r.1\/r.2<(l.lo:Int))):∀t,l.b<=qy G t r:=by
 unfold qy
 induction G with
 |nil=>simp at h
 |cons y G c=>
  intro t;simp only[List.foldl_cons];rcases List.mem_cons.1 h with rfl|h;rw [if_neg a];have:=(Vt (ls:=G) (b:=G.foldl (λb x=>max b x.b) (max t l.b)) r (max t l.b) (XM G _) (Jw G _)).1;unfold qy at this;omega;exact c h _
theorem zsx{r:R}(a:∀l∈G,¬((l.hi:Int)<r.1\/r.2<(l.lo:Int))->l.b<=b):∀t,t<=b->t<=qy G t r/\qy G t r<=b:=by
 unfold qy
 induction G with
 |nil=>intro t h;exact⟨Nat.le_refl _,h⟩
 |cons y G f=>
  intro t h;simp only[List.foldl_cons];have c:=f λl e=>a l (List.mem_cons_of_mem _ e);split;exact c t h;rename_i d;have:=a y List.mem_cons_self d;have:=c (max t y.b) (by omega);omega
end Go.Proofs.YtdokgalidhmbbaaGreatDoor
namespace Go.Proofs.YtdokgalidhmbbaaGreatDoor
open Go.RowKit Go.Lib Go.Sort
structure Tt where
 a:En
 b:En
 ls:List Lk.LR
def Tt.who(s:Tt)(w:Int):En:=if w=0 then s.a else s.b
def Tt.set(s:Tt)(w:Int)(e:En):Tt:=if w=0 then{s with a:=e}else{s with b:=e}
theorem wU{w:Int}(h:Lk.qN w=true):w=0\/w=1:=of_decide_eq_true h
def zQ(n:Int):Tt:=⟨zi n,zi n,[]⟩
def kM(s:Tt)(w:Int)(d:ByteArray):Int:=if Lk.qN w=true then vk (s.who w) d else 1
def kP(s:Tt)(w:Int)(d:ByteArray):Tt:=if Lk.qN w=true then s.set w (xR (s.who w) d)else s
def jY(s:Tt)(w n:Int):Int:=if Lk.qN w=true then xH (s.who w) n else 1
def ve(s:Tt)(w n:Int):ByteArray:=if Lk.qN w=true then jR (s.who w) n else nilB
def kD(s:Tt)(w n:Int):Tt:=if Lk.qN w=true then s.set w (qg (s.who w) n)else s
def jH(s:Tt)(w:Int):Int:=if Lk.qN w=true then(if 40<=s.ls.length then 4 else 0)else 1
def xy(s:Tt)(w:Int):Tt:=if jH s w=0 then{s.set w (q9 (s.who w))with ls:=s.ls++[(1-w,qP (s.who w))]}else s
def vT(s:Tt)(i:Int):Int:=if Lk.qa s.ls i=true then(qD (s.who (Lk.at' s.ls i.toNat).1) (Lk.at' s.ls i.toNat).2).1 else 1
def ko(s:Tt)(i:Int):Tt:=if Lk.qa s.ls i=true then{s.set (Lk.at' s.ls i.toNat).1 (qD (s.who (Lk.at' s.ls i.toNat).1) (Lk.at' s.ls i.toNat).2).2 with ls:=Lk.qB s.ls i.toNat}else s
def jf(s:Tt)(i:Int):Tt:={s with ls:=Lk.yI s.ls i}
def yS(s:Tt)(i:Int):Tt:={s with ls:=Lk.vg s.ls i}
theorem zo6(e:En)(m:Int):(qg e m).m=e.m/\(qg e m).d=e.d:=by unfold qg;split<;>exact⟨rfl,rfl⟩
theorem Za{e:En}(h:xV e=0):(qP e).size<=200:=by
 rw[K5 h];exact(Zl h).2.2.2.2
end Go.Proofs.YtdokgalidhmbbaaGreatDoor
namespace Go.Proofs.YtdokgalidhmbbaaGreatDoor
open Go.RowKit Go.Lib Go.Sort
open Sx (zP)
abbrev Pc:=Nat×ByteArray
def pat(Z:List (List Pc))(j:Nat):List Pc:=Z[j]?.getD []
def xq(e:En)(b A:Value)(z a:Nat)(i:Nat):Value:=
 if i=0 then .string e.d else if i<61 then .bool (decide (i-1<e.t))else if i=61 then .int .i64 e.l else if i=62 then b else if i=63 then .int .i64 e.k else if i=64 then A else if i=65 then .pointer (some ⟨z,0,none⟩)else .pointer (some ⟨a,0,none⟩)
section
variable {e : En} {vm vc : Value} {sb cb : Nat}
theorem QH:xq e vm vc sb cb 0=.string e.d:=rfl
theorem Jj{i:Nat}(h:i<60):xq e vm vc sb cb (1+i)=.bool (decide (i<e.t)):=by
 unfold xq;rw[if_neg (by omega),if_pos (by omega),show 1+i-1=i by omega]
theorem YF:xq e vm vc sb cb 61=.int .i64 e.l:=rfl
theorem QI:xq e vm vc sb cb 62=vm:=rfl
theorem YE:xq e vm vc sb cb 63=.int .i64 e.k:=rfl
theorem QG:xq e vm vc sb cb 64=vc:=rfl
theorem XF:xq e vm vc sb cb 65=.pointer (some ⟨sb,0,none⟩):=rfl
theorem QJ:xq e vm vc sb cb 66=.pointer (some ⟨cb,0,none⟩):=rfl
end
structure Mds(e:En)(md:List (List Pc)):Prop where
 len:md.length=e.m
 each:∀x∈e.ls,∀j,x.lo<=j->j<=x.hi->pat md j=z8 e.d x.b 3 x.a
 all:∀j,j<e.m->∃x∈e.ls,x.lo<=j/\j<=x.hi
 lst:∀x,e.ls.getLast? =some x->x.hi+1=e.m
 low:∀x∈e.ls,x.lo<=x.hi
theorem Mds.write{e:En}{Z:List (List Pc)}(h:Mds e Z)(f:EInv e)(b:ByteArray):Mds (xR e b) Z:=by
 unfold xR;split;exact h;refine ⟨h.len,λx a j c d=>?_,h.all,h.lst,h.low⟩;have:=(f.ls x a).2.2.2;have:=ky e;rw[h.each x a j c d];exact(dG (by omega) _ _).symm
theorem Mds.read{e:En}{Z:List (List Pc)}(h:Mds e Z)(n:Int):Mds (qg e n) Z:=by
 unfold qg;split;exact ⟨h.len,h.each,h.all,h.lst,h.low⟩;exact h
theorem Mds.new(n:Int):Mds (zi n) []:=⟨rfl,λx a=>by simp[zi]at a,λj b=>by simp[zi]at b,λx a=>by simp[zi]at a,λx a=>by simp[zi]at a⟩
def vo(o:Nat)(c A:Value)(z b:Nat)(a:List Value)(k:Nat):Prop:=k=o\/k=z\/k=b\/c.ownBlock=some k\/A.ownBlock=some k\/∃j,j<a.length/\(xI a j).ownBlock=some k
structure DO(w:World)(B eb:Nat)(vm vc:Value)(sb cb:Nat)(us:List Value)(md:List (List Pc))(e:En):Prop where
 inv:EInv e
 mds:Mds e md
 cl:∀i,i<67->w.cell? ⟨eb,i,none⟩=some (xq e vm vc sb cb i)
 fz:∀i,w.frozen? ⟨eb,i,none⟩=false
 hs:B<=eb
 st:Sx.Ref w B sb e.s
 cr:Cx.Obj w B cb e.c
 rm:w.ownsRow B 144 1 vm us.length us
 ul:us.length=e.m
 ru:∀j,j<us.length->w.ownsRow B 146 2 (xI us j) (pat md j).length (zz (pat md j))
 cm:w.ownsRow B 143 2 vc e.cm.length (flat e.cm)
 ap:eb≠sb/\eb≠cb/\sb≠cb
 am:∀k,(vm.ownBlock=some k\/vc.ownBlock=some k\/∃j,j<us.length/\(xI us j).ownBlock=some k)->k≠eb/\k≠sb/\k≠cb
section
variable {w w' : World} {B eb sb cb : Nat} {vm vc : Value} {us : List Value} {md : List (List Pc)} {e : En}
theorem DO.lt(h:DO w B eb vm vc sb cb us md e):eb<w.heap.size:=World.block_lt_of_cell? w _ (h.cl 0 (by omega))
theorem DO.own_lt(h:DO w B eb vm vc sb cb us md e){k:Nat}(a:vo eb vm vc sb cb us k):B<=k/\k<w.heap.size:=by
 rcases a with rfl|rfl|rfl|a|a|⟨j,b,a⟩;exact ⟨h.hs,h.lt⟩;exact ⟨h.st.hs,h.st.lt⟩;exact ⟨h.cr.hs,h.cr.lt⟩;exact h.rm.lt k a;exact h.cm.lt k a;exact (h.ru j b).lt k a
theorem DO.le(h:DO w B eb vm vc sb cb us md e):B<=w.heap.size:=by have:=h.hs;have:=h.lt;omega
theorem DO.off{K:Nat->Prop}(h:DO w B eb vm vc sb cb us md e)(b:Off K w w')(a:∀k,vo eb vm vc sb cb us k->¬K k):DO w' B eb vm vc sb cb us md e:=
 ⟨h.inv,h.mds,λi f=>b.cell (h.cl i f) (a eb (.inl rfl)),λi=>(b.frozen (p:=⟨eb,i,none⟩) h.lt (a eb (.inl rfl))).trans (h.fz i),h.hs,h.st.off b (a sb (.inr (.inl rfl))),h.cr.off b (a cb (.inr (.inr (.inl rfl)))),
  b.row h.rm λk c=>a k (.inr (.inr (.inr (.inl c)))),h.ul,λj d=>b.row (h.ru j d) λk c=>a k (.inr (.inr (.inr (.inr (.inr ⟨j,d,c⟩))))),b.row h.cm λk c=>a k (.inr (.inr (.inr (.inr (.inl c))))),h.ap,h.am⟩
theorem DO.below(h:DO w B eb vm vc sb cb us md e)(a:Below w.heap.size w w'):DO w' B eb vm vc sb cb us md e:=h.off (Off.of_below (K:=λ_=>False) a) λ_ _=>id
theorem DO.base(h:DO w B eb vm vc sb cb us md e){b:Nat}(a:b<=B):DO w b eb vm vc sb cb us md e:=
 ⟨h.inv,h.mds,h.cl,h.fz,Nat.le_trans a h.hs,h.st.base a,⟨h.cr.inv,h.cr.four,Nat.le_trans a h.cr.hs⟩,jE h.rm a,h.ul,λj c=>jE (h.ru j c) a,jE h.cm a,h.ap,h.am⟩
def DTurn(w E:World)(B o:Nat)(f A:Value)(z a:Nat)(b:List Value)(e:En):Prop:=
 ∃g d c h,DO E B o g d z a c h e/\Off (vo o f A z a b) w E/\∀k,vo o g d z a c k->vo o f A z a b k\/w.heap.size<=k
theorem DTurn.below(h:DO w B eb vm vc sb cb us md e)(a:Below w.heap.size w w'):DTurn w w' B eb vm vc sb cb us e:=⟨vm,vc,us,md,h.below a,Off.of_below a,λ_ b=>.inl b⟩
theorem DTurn.same(h:DO w B eb vm vc sb cb us md e):DTurn w w B eb vm vc sb cb us e:=⟨vm,vc,us,md,h,Off.refl _ _,λ_ a=>.inl a⟩
end
theorem zu8(n:Int)(z a:Nat):(((Tryz.zeroCells90.setIfInBounds 61 (.int .i64 n)).setIfInBounds 63 (.int .i64 (-1))).setIfInBounds 65 (.pointer (some ⟨z,0,none⟩))).setIfInBounds 66 (.pointer (some ⟨a,0,none⟩))=(row 67 (xq (zi n) (.slice none 0 0) (.slice none 0 0) z a)).toArray:=by kernel_rfl
theorem zee{n:Int}(m:Cx.vL n=true){w:World}{B z a:Nat}(f:B<=w.heap.size)(c:Sx.Ref w B z Sx.qE)(d:Cx.Obj w B a (Cx.qE n))(p:z≠a):DO (w.alloc (.cells (row 67 (xq (zi n) (.slice none 0 0) (.slice none 0 0) z a)).toArray 90)) B w.heap.size (.slice none 0 0) (.slice none 0 0) z a [] [] (zi n):=by
 have e:Below w.heap.size w (w.alloc (.cells (row 67 (xq (zi n) (.slice none 0 0) (.slice none 0 0) z a)).toArray 90)):=(Below.refl _ _).alloc (Nat.le_refl _) _;exact⟨EInv.new m,Mds.new n,λi g=>by simp[row,g],λi=>by simp,f,c.below e,d.below e,World.ownsRow_nil _ _ _ _,rfl,λj b=>by simp at b,World.ownsRow_nil _ _ _ _,⟨by have:=c.lt;omega,by have:=d.lt;omega,p⟩,λk l=>by
  rcases l with h|h|⟨j,b,_⟩;cases h;cases h;simp at b⟩
theorem zec(n:Int)(w:World)(j:Cx.vL n=true):Calls Tryz.prog 18 #[.int .i64 n] w λf E=>∃o z l,f=.returned (.pointer (some ⟨o,0,none⟩))/\DO E w.heap.size o (.slice none 0 0) (.slice none 0 0) z l [] [] (zi n)/\Below w.heap.size w E:=by
 go_enter Tryz.func18,Tryz.ntmps18
 go_wp2_with fail;refine(Sx.zp1 w).mono ?_;rintro f a ⟨rfl,c,b⟩;have d:(a.alloc (.cells #[.int .i64 n,.int .i64 n,.int .i64 0,.int .i64 0] 85)).heap.size=a.heap.size+1:=by simp
 have i:Below a.heap.size a (a.alloc (.cells #[.int .i64 n,.int .i64 n,.int .i64 0,.int .i64 0] 85)):=(Below.refl _ _).alloc (Nat.le_refl _) _;have h:Cx.Obj (a.alloc (.cells #[.int .i64 n,.int .i64 n,.int .i64 0,.int .i64 0] 85)) w.heap.size a.heap.size (Cx.qE n):=⟨Cx.Inv.start j,Cx.Four.new a n _,b.size⟩;have hD:=zee j (B:=w.heap.size) (by rw[d];have:=b.size;omega) (c.below i) h (by have:=c.lt;omega)
 rw[d,<-zu8]at hD;have g:Below w.heap.size w (a.alloc (.cells #[.int .i64 n,.int .i64 n,.int .i64 0,.int .i64 0] 85)):=b.alloc b.size _;have k:Hid (DO _ w.heap.size (a.heap.size+1) (.slice none 0 0) (.slice none 0 0) w.heap.size a.heap.size [] [] (zi n)):=hD;have e:=zC g;clear hD h i d c g;go_wp2_with fail;go_ret;exact⟨_,_,_,rfl,k.out,e.out.alloc e.out.size _⟩
section
variable {w w' : World} {B eb sb cb : Nat} {vm vc : Value} {us : List Value} {md : List (List Pc)} {e : En}
theorem DO.set(h:DO w B eb vm vc sb cb us md e){b:En}(r:EInv b)(t:Mds b md)(x:b.s=e.s)(n:b.c=e.c)(s:b.m=e.m)(p:b.cm=e.cm)(c:Nat)(q:c<67)(u:Value)(y:u=xq b vm vc sb cb c)(v:∀i,i<67->i≠c->xq b vm vc sb cb i=xq e vm vc sb cb i):DO (w.setCell ⟨eb,c,none⟩ u) B eb vm vc sb cb us md b/\Off (λk=>k=eb) w (w.setCell ⟨eb,c,none⟩ u):=by
 have d:Off (λk=>k=eb) w (w.setCell ⟨eb,c,none⟩ u):=(Off.refl (λk=>k=eb) w).setCell (a:=⟨eb,c,none⟩) rfl u;refine⟨⟨r,t,λi l=>?_,λi=>by simpa using h.fz i,h.hs,by rw[x];exact h.st.off d (λe=>h.ap.1 e.symm),by rw[n];exact h.cr.off d (λe=>h.ap.2.1 e.symm),d.row h.rm λk f=>(h.am k (.inl f)).1,by rw[s];exact h.ul,λj m=>d.row (h.ru j m) λk f=>(h.am k (.inr (.inr ⟨j,m,f⟩))).1,by rw[p];exact d.row h.cm λk f=>(h.am k (.inr (.inl f))).1,h.ap,h.am⟩,d⟩
 by_cases g:i=c;rw [g,<-y];exact World.cell?_setCell_same _ _ _ (h.cl c q);rw [World.cell?_setCell_other _ _ _ _ (λe2=>by injection e2 with _ e2 _;exact g e2.symm),h.cl i l,v i l g]
theorem DTurn.of(h:DO w' B eb vm vc sb cb us md e)(a:Off (vo eb vm vc sb cb us) w w'):DTurn w w' B eb vm vc sb cb us e:=⟨vm,vc,us,md,h,a,λ_ b=>.inl b⟩
theorem zdk(b:ByteArray)(i:Nat)(a:i≠0):xq {e with d:=e.d++b} vm vc sb cb i=xq e vm vc sb cb i:=by
 unfold xq;rw[if_neg a,if_neg a]
end
variable {w:World}{B o z:Nat}{A:Value}{Z:List (List Pc)}{e:En}
theorem zfh{c:Nat}{i:Value}{f:List Value}(h:DO w B o i A z c f Z e)(b:ByteArray)(l:b.size<=140737488351232)(k:60<e.d.size+b.size):Calls Tryz.prog 22 #[.pointer (some ⟨o,0,none⟩),.string b] w λd E=>d=.returned (.int .i64 4)/\w=E:=by
 have a:=h.cl 0 (by omega);rw[QH]at a;have j:=h.inv.d60;have g:(60:Int)<(e.d.size:Int)+(b.size:Int):=by omega
 clear h;go_enter Tryz.func22,Tryz.ntmps22
 go_wp2_with fail;go_ret;exact⟨rfl,rfl⟩
theorem zfi{c:Nat}{i:Value}{f:List Value}(h:DO w B o i A z c f Z e)(b:ByteArray)(l:e.d.size+b.size<=60):Calls Tryz.prog 22 #[.pointer (some ⟨o,0,none⟩),.string b] w λd E=>d=.returned (.int .i64 0)/\E=w.setCell ⟨o,0,none⟩ (.string (e.d++b)):=by
 have a:=h.cl 0 (by omega);have j:=h.fz 0;rw[QH]at a;have g:¬(60:Int)<(e.d.size:Int)+(b.size:Int):=by omega
 have k:∀w,(Op.stringOp .add e.d b).run Tryz.prog w=.ok (.string (e.d++b)) w:=λw=>run_string_add_sum w _ _ (by omega);clear h;go_enter Tryz.func22,Tryz.ntmps22
 go_wp2_with fail;go_ret;exact⟨rfl,rfl⟩
theorem YU{g l:Nat}{n:Value}{m:List Value}(h:DO w B g n A z l m Z e)(b:ByteArray)(q:b.size<=140737488351232):Calls Tryz.prog 22 #[.pointer (some ⟨g,0,none⟩),.string b] w λj E=>j=.returned (.int .i64 (vk e b))/\DTurn w E B g n A z l m (xR e b):=by
 by_cases c:60<e.d.size+b.size;rw [vk,if_pos c,xR,if_pos c];exact(zfh h b q c).mono λj E ⟨a,d⟩=>⟨a,d ▸ DTurn.same h⟩;refine (zfi h b (by omega)).mono λj E ⟨a,d⟩=>⟨by rw[a,vk,if_neg c],?_⟩;have s:xR e b={e with d:=e.d++b}:=by unfold xR;rw[if_neg c]
 have hi:=h.inv.write b;have hm:=h.mds.write h.inv b;rw[s]at hi hm |-;obtain⟨o,f⟩:=h.set hi hm rfl rfl rfl rfl 0 (by omega) (.string (e.d++b)) rfl (λi _ r=>zdk b i r);rw[d];exact DTurn.of o (f.mono λk _ p=>.inl p)
theorem YH{b:Nat}{t:Value}{r:List Value}(h:DO w B o t A z b r Z e)(n:Int)(K:0<=n)(l:xH e n=0):Calls Tryz.prog 27 #[.pointer (some ⟨o,0,none⟩),.int .i64 n] w λg E=>g=.returned (.tuple #[.string (jR e n),.int .i64 0])/\DTurn w E B o t A z b r (qg e n):=by
 have f:=zC h;have H:=h.cl 65 (by omega);rw[XF]at H;have F:jR e n=strOfNums (Sx.xQ e.s n):=if_pos l;have y:qg e n={e with s:=Sx.zm e.s n,c:=Cx.xM e.c (Sx.takeN e.s n:Nat)}:=if_pos l;have hz:(strOfNums (Sx.xQ e.s n)).size=Sx.takeN e.s n:=by rw[strOfNums_size];simp[Sx.xQ]
 have U:Cx.qx e.c (Sx.takeN e.s n:Nat)=0:=by
  unfold xH at l;rwa[if_neg (by omega)]at l
 have hT:=Sx.Va h.st n K;have HIV:Hid (EInv (qg e n)):=h.inv.read n;have HMD:Hid (Mds (qg e n) Z):=h.mds.read n;rw[F];rw[y]at HIV HMD |-;generalize L:strOfNums (Sx.xQ e.s n)=M at hT hz;have G:Hid (∀X,Cx.Obj X B b e.c->Calls Tryz.prog 43 #[.pointer (some ⟨b,0,none⟩),.int .i64 (M.size:Int)] X λg E=>g=.returned (.int .i64 0)/\Cx.Turned X E B b (Cx.xM e.c (Sx.takeN e.s n:Nat))):=λX I=>by
  have:=Cx.zpl I ((Sx.takeN e.s n:Nat):Int);rw[U]at this;rw[hz];exact this
 clear h F y hz U l L;go_enter Tryz.func27,Tryz.ntmps27
 go_wp2_with fail;refine hT.mono ?_;rintro g N ⟨rfl,v,q⟩;have c7:=q.cell (f.out.cl 66 (by omega)) f.out.ap.1;rw[QJ]at c7;have P:=f.out.cr.off q (λe=>f.out.ap.2.2 e.symm);have Q:=G.out N P;clear hT;go_wp2_with fail;refine Q.mono ?_;rintro g C ⟨rfl,x,u⟩;have D:Hid (DTurn w C B o t A z b r {e with s:=Sx.zm e.s n,c:=Cx.xM e.c (Sx.takeN e.s n:Nat)}):=by
  have h:=f.out;have d:Off (λk=>k=z\/k=b) w C:=(q.mono λk _ a=>.inl a).trans (u.mono λk _ a=>.inr a);refine DTurn.of (md:=Z) ⟨HIV.out,HMD.out,λi J=>d.cell (h.cl i J) (λa=>by rcases a with a|a;exact h.ap.1 a;exact h.ap.2.1 a),λi=>(d.frozen (p:=⟨o,i,none⟩) h.lt (λa=>by rcases a with a|a;exact h.ap.1 a;exact h.ap.2.1 a)).trans (h.fz i),h.hs,v.off u (λa=>h.ap.2.2 a),x,d.row h.rm λk a m=>?_,h.ul,λj V=>d.row (h.ru j V) λk a m=>?_,d.row h.cm λk a m=>?_,h.ap,h.am⟩ (d.mono λk _ a=>by rcases a with a|a;exact .inr (.inl a);exact .inr (.inr (.inl a)))
  have:=h.am k (.inl a);rcases m with e|e;exact this.2.1 e;exact this.2.2 e;have:=h.am k (.inr (.inr ⟨j,V,a⟩));rcases m with e|e;exact this.2.1 e;exact this.2.2 e;have:=h.am k (.inr (.inl a));rcases m with e|e;exact this.2.1 e;exact this.2.2 e
 clear Q v q x u P c7;go_wp2_with fail;go_ret2
 exact⟨rfl,D.out⟩
end Go.Proofs.YtdokgalidhmbbaaGreatDoor
namespace Go.Proofs.YtdokgalidhmbbaaGreatDoor
open Go.RowKit Go.Lib Go.Sort
theorem VH{d:ByteArray}{b:Nat}(f:b<=d.size):∀(k a j:Nat) (p:Pc),(z8 d b k a)[j]? =some p->p.1=a+20*j/\p.1+p.2.size=min b (a+20*(j+1))
 |0,a,j,p,h=>by simp[z8]at h
 |k+1,a,j,p,h=>by
  by_cases c:a<b
  .have e:z8 d b (k+1) a=(a,d.extract a (min b (a+20)))::z8 d b k (min b (a+20)):=by simp only[z8];rw[if_pos c]
   rw[e]at h
   cases j with
   |zero=>
    rw[List.getElem?_cons_zero]at h
    injection h with h
    subst h
    simp only[ByteArray.size_extract]
    omega
   |succ j=>
    rw[List.getElem?_cons_succ]at h
    by_cases g:a+20<=b
    .rw [show min b (a+20)=a+20 by omega]at h
     have i:=VH f k (a+20) j p h
     omega
    .rw [show min b (a+20)=b by omega,VG]at h
     simp at h
  .simp only[z8]at h
   rw[if_neg c]at h
   simp at h
theorem VF{d:ByteArray}{b:Nat}:∀(k a:Nat),a<=b->b<=a+20*k->min b (a+20*(z8 d b k a).length)=b
 |0,a,g,h=>by simp[z8];omega
 |k+1,a,g,h=>by
  by_cases c:a<b
  .have e:z8 d b (k+1) a=(a,d.extract a (min b (a+20)))::z8 d b k (min b (a+20)):=by simp only[z8];rw[if_pos c]
   have f:=VF (d:=d) (b:=b) k (min b (a+20)) (by omega) (by omega)
   rw[e,List.length_cons]
   by_cases i:a+20<=b
   .rw [show min b (a+20)=a+20 by omega]at f |-
    omega
   .rw [show min b (a+20)=b by omega]at f |-
    omega
  .simp only[z8]
   rw[if_neg c]
   simp
   omega
def tellM(f:Nat->Nat)(t a:Nat):Nat->Nat
 |0=>t
 |c+1=>max (tellM f t a c) (f (a+c))
theorem gZ{f:Nat->Nat}{t d b:Nat}:∀c,t<=b->(∀j,j<c->f (d+j)<=b)->tellM f t d c<=b
 |0,h,_=>h
 |c+1,h,a=>by
  have i:=gZ c h (λj e=>a j (by omega))
  have:=a c (by omega)
  simp only[tellM]
  omega
theorem gY{f:Nat->Nat}{t lo:Nat}:∀c,t<=tellM f t lo c/\∀j,j<c->f (lo+j)<=tellM f t lo c
 |0=>⟨Nat.le_refl _,λj a=>by omega⟩
 |c+1=>by
  obtain⟨d,b⟩:=gY (f:=f) (t:=t) (lo:=lo) c
  refine⟨by simp only[tellM];omega,λj a=>?_⟩
  simp only[tellM]
  by_cases e:j=c
  .subst e;omega
  .have:=b j (by omega);omega
theorem zsu{G:List Ld}{r:R}{b:Nat}:∀t,t<=b->(∀l∈G,¬((l.hi:Int)<r.1\/r.2<(l.lo:Int))->l.b<=b)->qy G t r<=b:=λt a h=>(zsx h t a).2
theorem zsy{G:List Ld}{f:Nat->Nat}{t a c m:Nat}(B:c<m)(y:a<=c)(d:∀x∈G,∀j,x.lo<=j->j<=x.hi->f j=x.b)(i:∀j,j<m->∃x∈G,x.lo<=j/\j<=x.hi)(u:∀x∈G,x.lo<=x.hi):tellM f t a (c+1-a)=qy G t ((a:Int),(c:Int)):=by
 obtain⟨k,n⟩:=gY (f:=f) (t:=t) (lo:=a) (c+1-a);apply Nat.le_antisymm;have s:t<=qy G t ((a:Int),(c:Int)):=by
  have:=Vt (ls:=G) (b:=G.foldl (λb x=>max b x.b) t) ((a:Int),(c:Int)) t (XM G t) (Jw G t);exact this.1
 refine gZ _ s λj v=>?_;obtain⟨x,h,p,q⟩:=i (a+j) (by omega);rw[d x h (a+j) p q];exact zsw h (by simp only;omega) t;refine zsu t k λl g r=>?_;simp only at r;have w:=u l g;have e:=d l g (max l.lo a) (by omega) (by omega);have:=n (max l.lo a-a) (by omega);rw[show a+(max l.lo a-a)=max l.lo a by omega,e]at this;exact this
end Go.Proofs.YtdokgalidhmbbaaGreatDoor
