/- What the law RunAnswers needs. -/
import Derived.Test.YtdokgalidhmbbaaGreatDoorHYC
set_option linter.unusedVariables false
set_option linter.unusedSimpArgs false
set_option maxRecDepth 100000
set_option maxHeartbeats 8000000
namespace Go.Proofs.YtdokgalidhmbbaaGreatDoor
namespace Rn
open Go.RowKit
theorem KX{w:World}{B D L o:Nat}{d:Dv}{m:Tt}(h:DTk w B D L o d m)(l b i:List UInt8)(x f:Int)(c:Nat)(A:Tt)(Z:l.length<=3000)(H:(b=[115,101,110,100]/\c=23)\/(b=[99,111,109,101]/\c=24)\/(b=[116,119,105,99,101]/\c=26))(V:zO 32 l=[b,i])(U:i.length<=3000)(z:zV i=some x)(n:0<=f/\f<9)(HS:∀W,DTk W B D L o d m->Calls Tryz.prog c #[.pointer (some ⟨D,0,none⟩),.int .i64 x] W λe E=>e=.returned (.int .i64 f)/\DTTurn W E B D L o d A):
  Calls Tryz.prog 9 #[.pointer (some ⟨D,0,none⟩),.string (str l)] w λe E=>e=.returned (.string (str (if f=0 then okL else qZ f)))/\DTTurn w E B D L o d A:=by
 have p:=zC h;have HC:=jO l 32 (by omega) w;rw[V]at HC;have HN:=λw=>kY z U w;have HD:=λw=>Jt f n.1 n.2 w;have HS:Hid _:=HS;obtain⟨O,G,K,M,N⟩:=info_parts ja;clear h V z n U;generalize str l=s at*;generalize str (if f=0 then okL else qZ f)=r at*;rcases H with⟨rfl,rfl⟩|⟨rfl,rfl⟩|⟨rfl,rfl⟩
 all_goals
  go_enter Tryz.func9,Tryz.ntmps9
  go_wp2_with (go_at_call 7;refine HC.mono ?_;rintro e a ⟨v,rfl,hr,j⟩;obtain⟨g,R,rfl,t,c1,X,Y⟩:=Qi hr;unfold str at t;clear hr HC)
  generalize str i=q1 at*
  clear t
  have hn0:a.ownsRow a.heap.size 3 1 (.slice none 0 0) 0 []:=World.ownsRow_nil _ _ _ _
  have hvb:∀k,(Value.slice none 0 0).ownBlock=some k->a.heap.size<=k:=λk e=>by cases e
  generalize Value.slice none 0 0=vn at hn0 hvb |-
  refine wp_loop_rounds 2 ?_
  rw[rounds_succ]
  go_wp2_with (first|(go_at_call 19;refine(HN _).mono ?_;rintro e w2 ⟨rfl,u⟩;rw[u];clear u)|(at_builtin;refine wpList_append_own _ rfl _ _ 54 rfl a.heap.size 3 O (.int .i64 0) 1 8 Tryz.underlying54 G K M N rfl (by decide) _ _ _ rfl (hn0.alloc _) ⟨a.heap.size,0,none⟩ 1 1 [.int .i64 x] rfl rfl (kZ _ _) (one_one _) (by unfold maxLen;omega) (by omega) (by simp) ?_;intro v' w3 hr3 Q I;clear I;obtain⟨T,S,rfl,P⟩:=wo (x:=x) (xs:=[]) hr3;have n0:=P 0 x rfl;have F:=vz Q hvb;clear hr3 Q P))
  have y:=j.trans (F.mono j.size)
  clear c1 HN j F hn0 hvb
  have q:=HS.out _ (p.out.below y)
  rw[rounds_succ]
  go_wp2_with (first|((first|go_at_call 23|go_at_call 24|go_at_call 26);refine q.mono ?_;rintro e w4 ⟨rfl,J⟩;clear q)|(go_at_call 21;refine(HD _).mono ?_;rintro e w5 ⟨rfl,C⟩))
  go_ret
  exact⟨rfl,X9 p.out y (J.more C)⟩
theorem zjq{w:World}{B D L o:Nat}{d:Dv}{m:Tt}(h:DTk w B D L o d m)(l b:List UInt8)(x:Int)(Y:l.length<=3000)(Q:zO 32 l=[[108,111,115,101],b])(P:b.length<=3000)(U:zV b=some x)(i:0<=Lk.xU m.ls x/\Lk.xU m.ls x<9):
  Calls Tryz.prog 9 #[.pointer (some ⟨D,0,none⟩),.string (str l)] w λe E=>e=.returned (.string (str (if Lk.xU m.ls x=0 then okL else qZ (Lk.xU m.ls x))))/\DTTurn w E B D L o d (jf m x):=by
 have j:=zC h;have HC:=jO l 32 (by omega) w;rw[Q]at HC;have HN:=λw=>kY U P w;have HD:=λw=>Jt (Lk.xU m.ls x) i.1 i.2 w;have HS:Hid (∀W,DTk W B D L o d m->Calls Tryz.prog 25 #[.pointer (some ⟨D,0,none⟩),.int .i64 x] W λe E=>e=.returned (.tuple #[.agg #[.int .i64 (Lk.kz m.ls x).1,.string (Lk.kz m.ls x).2],.int .i64 (Lk.xU m.ls x)])/\DTTurn W E B D L o d (jf m x)):=λW V=>XG V x;obtain⟨K,A,H,I,J⟩:=info_parts ja
 clear h Q U i P;generalize str l=s at*;generalize str (if Lk.xU m.ls x=0 then okL else qZ (Lk.xU m.ls x))=r at*;generalize Lk.xU m.ls x=f at*;generalize jf m x=Z at*;generalize(Lk.kz m.ls x).1=R at*;generalize(Lk.kz m.ls x).2=S at*;go_enter Tryz.func9,Tryz.ntmps9
 go_wp2_with (go_at_call 7;refine HC.mono ?_;rintro e a ⟨v,rfl,hr,c⟩;obtain⟨g,M,rfl,p,c1,T,X⟩:=Qi hr;unfold str at p;clear hr HC);generalize str b=q1 at*;clear p;have hn0:a.ownsRow a.heap.size 3 1 (.slice none 0 0) 0 []:=World.ownsRow_nil _ _ _ _;have hvb:∀k,(Value.slice none 0 0).ownBlock=some k->a.heap.size<=k:=λk e=>by cases e
 generalize Value.slice none 0 0=vn at hn0 hvb |-;refine wp_loop_rounds 2 ?_;rw[rounds_succ];go_wp2_with (first|(go_at_call 19;refine(HN _).mono ?_;rintro e w2 ⟨rfl,q⟩;rw[q];clear q)|(at_builtin;refine wpList_append_own _ rfl _ _ 54 rfl a.heap.size 3 K (.int .i64 0) 1 8 Tryz.underlying54 A H I J rfl (by decide) _ _ _ rfl (hn0.alloc _) ⟨a.heap.size,0,none⟩ 1 1 [.int .i64 x] rfl rfl (kZ _ _) (one_one _) (by unfold maxLen;omega) (by omega) (by simp) ?_;intro v' w3 hr3 F C;clear C;obtain⟨O,N,rfl,y⟩:=wo (x:=x) (xs:=[]) hr3;have n0:=y 0 x rfl;have u:=vz F hvb;clear hr3 F y))
 have t:=c.trans (u.mono c.size);clear c1 HN c u hn0 hvb;have n:=HS.out _ (j.out.below t);rw[rounds_succ];go_wp2_with (first|(go_at_call 25;refine n.mono ?_;rintro e w4 ⟨rfl,G⟩;clear n)|(go_at_call 21;refine(HD _).mono ?_;rintro e w5 ⟨rfl,z⟩));go_ret;exact⟨rfl,X9 j.out t ((G.more ((Below.refl _ _).alloc (Nat.le_refl _) _)).more z)⟩
end Rn
end Go.Proofs.YtdokgalidhmbbaaGreatDoor
namespace Go.Proofs.YtdokgalidhmbbaaGreatDoor
namespace Rn
open Go.RowKit
variable {w:World}
theorem Y7{B:Nat}{v:Value}{p:List UInt8}{X:List (List UInt8)}(h:w.ownsRow B 9 1 v (p::X).length (vals (p::X))):∃g a,v=.slice (some ⟨g,0,none⟩) (X.length+1:Nat) a/\w.cell? ⟨g,0,none⟩=some (.string (str p)):=by
 obtain⟨g,a,rfl,b⟩:=Zq h (by simp);exact⟨g,a,rfl,b 0 _ rfl⟩
variable {D:Nat}
theorem X8(l:List UInt8)(h:l.length<=3000)(p:List UInt8)(k:Nat)(d:(p=[119,114,105,116,101]/\k=2)\/(p=[114,101,97,100]/\k=2)\/(p=[110,101,101,100]/\k=2)\/(p=[115,101,110,100]/\k=1)\/(p=[99,111,109,101]/\k=1)\/(p=[108,111,115,101]/\k=1)\/(p=[116,119,105,99,101]/\k=1)\/(p=[118,97,114,105,110,116]/\k=1)\/(p=[99,111,117,110,116]/\k=0))(X:List (List UInt8))(a:zO 32 l=p::X)(i:X.length≠k)(j:X.length<=3001):
  Cl 9 #[.pointer (some ⟨D,0,none⟩),.string (str l)] w (.string (str badL)):=by
 have HC:=jO l 32 (by omega) w;rw[a]at HC;clear a;generalize str l=s at*;rcases d with⟨rfl,rfl⟩|⟨rfl,rfl⟩|⟨rfl,rfl⟩|⟨rfl,rfl⟩|⟨rfl,rfl⟩|⟨rfl,rfl⟩|⟨rfl,rfl⟩|⟨rfl,rfl⟩|⟨rfl,rfl⟩
 all_goals
  go_enter Tryz.func9,Tryz.ntmps9
  go_wp2_with (go_at_call 7;refine HC.mono ?_;rintro e m ⟨v,rfl,hr,c⟩;obtain⟨g,f,rfl,b⟩:=Y7 hr;unfold str at b;clear hr HC)
  go_ret
  exact⟨rfl,c⟩
theorem zjn(l:List UInt8)(x:l.length<=3000)(p:List UInt8)(X:List (List UInt8))(m:zO 32 l=p::X)(a:p≠ [119,114,105,116,101])(b:p≠ [114,101,97,100])(c:p≠ [110,101,101,100])(d:p≠ [115,101,110,100])(f:p≠ [99,111,109,101])(h:p≠ [108,111,115,101])(i:p≠ [116,119,105,99,101])(j:p≠ [118,97,114,105,110,116])(k:p≠ [99,111,117,110,116])(y:X.length<=3001):
  Cl 9 #[.pointer (some ⟨D,0,none⟩),.string (str l)] w (.string (str badL)):=by
 have HC:=jO l 32 (by omega) w;rw[m]at HC;clear m;have e:=qo p;rw[<-ByteArray.toList_eq]at e;have B:((str p).toList== [119,114,105,116,101])=false:=by rw[e];simpa using a
 have F:((str p).toList== [114,101,97,100])=false:=by rw[e];simpa using b
 have P:((str p).toList== [110,101,101,100])=false:=by rw[e];simpa using c
 have Q:((str p).toList== [115,101,110,100])=false:=by rw[e];simpa using d
 have U:((str p).toList== [99,111,109,101])=false:=by rw[e];simpa using f
 have V:((str p).toList== [108,111,115,101])=false:=by rw[e];simpa using h
 have o:((str p).toList== [116,119,105,99,101])=false:=by rw[e];simpa using i
 have z:((str p).toList== [118,97,114,105,110,116])=false:=by rw[e];simpa using j
 have A:((str p).toList== [99,111,117,110,116])=false:=by rw[e];simpa using k
 clear e a b c d f h i j k;generalize str l=s at*;generalize t:str p=q at*;go_enter Tryz.func9,Tryz.ntmps9
 go_wp2_with (go_at_call 7;refine HC.mono ?_;rintro e C ⟨v,rfl,hr,r⟩;obtain⟨g,u,rfl,n⟩:=Y7 hr;rw[t]at n;clear hr HC);go_ret;exact⟨rfl,r⟩
theorem zbi(l a b:List UInt8)(t:l.length<=3000)(k:a=[115,101,110,100]\/a=[99,111,109,101]\/a=[108,111,115,101]\/a=[116,119,105,99,101]\/a=[118,97,114,105,110,116])(f:zO 32 l=[a,b])(d:b.length<=3000)(h:zV b=none):
  Cl 9 #[.pointer (some ⟨D,0,none⟩),.string (str l)] w (.string (str badL)):=by
 have HC:=jO l 32 (by omega) w;rw[f]at HC;have HN:=λw=>Xj h d w;obtain⟨B,r,u,x,y⟩:=info_parts ja;clear f h d;generalize str l=s at*;rcases k with rfl|rfl|rfl|rfl|rfl
 all_goals
  go_enter Tryz.func9,Tryz.ntmps9
  go_wp2_with (go_at_call 7;refine HC.mono ?_;rintro e P ⟨v,rfl,hr,j⟩;obtain⟨g,n,rfl,i,m,p,q⟩:=Qi hr;unfold str at i;clear hr HC)
  generalize str b=F at*
  refine wp_loop_rounds 2 ?_
  rw[rounds_succ]
  go_wp2_with (go_at_call 19;refine(HN _).mono ?_;rintro e Q ⟨rfl,c⟩;rw[c];clear c)
  go_ret
  exact⟨rfl,j⟩
theorem zbh(l b a i:List UInt8)(x:l.length<=3000)(m:b=[114,101,97,100]\/b=[110,101,101,100])(f:zO 32 l=[b,a,i])(d:a.length<=3000)(h:zV a=none):
  Cl 9 #[.pointer (some ⟨D,0,none⟩),.string (str l)] w (.string (str badL)):=by
 have HC:=jO l 32 (by omega) w;rw[f]at HC;have HN:=λw=>Xj h d w;obtain⟨P,u,y,B,F⟩:=info_parts ja;clear f h d;generalize str l=s at*;rcases m with rfl|rfl
 all_goals
  go_enter Tryz.func9,Tryz.ntmps9
  go_wp2_with (go_at_call 7;refine HC.mono ?_;rintro e V ⟨v,rfl,hr,k⟩;obtain⟨g,q,rfl,j,n,p,r,t⟩:=yA hr;unfold str at j;clear hr HC)
  generalize str a=Q at*
  generalize str i=U at*
  refine wp_loop_rounds 2 ?_
  rw[rounds_succ]
  go_wp2_with (go_at_call 19;refine(HN _).mono ?_;rintro e o ⟨rfl,c⟩;rw[c];clear c)
  go_ret
  exact⟨rfl,k⟩
theorem zbk(l f c d:List UInt8)(x:Int)(G:l.length<=3000)(F:f=[114,101,97,100]\/f=[110,101,101,100])(r:zO 32 l=[f,c,d])(n:c.length<=3000)(q:d.length<=3000)(t:zV c=some x)(u:zV d=none):
  Cl 9 #[.pointer (some ⟨D,0,none⟩),.string (str l)] w (.string (str badL)):=by
 have HC:=jO l 32 (by omega) w;rw[r]at HC;have HN:=λw=>kY t n w;have HN2:=λw=>Xj u q w;obtain⟨o,B,Q,U,V⟩:=info_parts ja;clear r t n u q;generalize str l=s at*;rcases F with rfl|rfl
 all_goals
  go_enter Tryz.func9,Tryz.ntmps9
  go_wp2_with (go_at_call 7;refine HC.mono ?_;rintro e b ⟨v,rfl,hr,i⟩;obtain⟨g,A,rfl,h,c1,c2,C,y⟩:=yA hr;unfold str at h;clear hr HC)
  generalize str c=I at*
  generalize str d=J at*
  clear h
  have hn0:b.ownsRow b.heap.size 3 1 (.slice none 0 0) 0 []:=World.ownsRow_nil _ _ _ _
  have hvb:∀k,(Value.slice none 0 0).ownBlock=some k->b.heap.size<=k:=λk e=>by cases e
  generalize Value.slice none 0 0=L at hn0 hvb |-
  refine wp_loop_rounds 3 ?_
  rw[rounds_succ]
  go_wp2_with (first|(go_at_call 19;refine(HN _).mono ?_;rintro e z ⟨rfl,a⟩;rw[a];clear a)|(at_builtin;refine wpList_append_own _ rfl _ _ 54 rfl b.heap.size 3 o (.int .i64 0) 1 8 Tryz.underlying54 B Q U V rfl (by decide) _ _ _ rfl (hn0.alloc _) ⟨b.heap.size,0,none⟩ 1 1 [.int .i64 x] rfl rfl (kZ _ _) (one_one _) (by unfold maxLen;omega) (by omega) (by simp) ?_;intro K M H m P;clear P;have j:=vz m hvb;clear m))
  have c2:=(j.cell (p:=⟨g,2,none⟩) y).trans c2
  clear c1 HN hn0 hvb
  rw[rounds_succ]
  go_wp2_with (go_at_call 19;refine(HN2 _).mono ?_;rintro e z ⟨rfl,a⟩;rw[a];clear a)
  go_ret
  exact⟨rfl,i.trans (j.mono i.size)⟩
theorem zbj(l i b a:List UInt8)(F:l.length<=3000)(n:i=[119,114,105,116,101])(f:zO 32 l=[i,b,a])(d:b.length<=3000)(p:a≠ [])(h:zV b=none):
  Cl 9 #[.pointer (some ⟨D,0,none⟩),.string (str l)] w (.string (str badL)):=by
 have HC:=jO l 32 (by omega) w;rw[f]at HC;have HN:=λw=>Xj h d w;have u:((str a).toList.isEmpty)=false:=by rw[ByteArray.toList_eq,qo];cases a;exact absurd rfl p;rfl
 obtain⟨V,B,P,Q,U⟩:=info_parts ja;clear f h d;generalize str l=s at*;subst n;go_enter Tryz.func9,Tryz.ntmps9
 go_wp2_with (go_at_call 7;refine HC.mono ?_;rintro e A ⟨v,rfl,hr,m⟩;obtain⟨g,k,rfl,j,q,r,x,y⟩:=yA hr;unfold str at j;have t:(3:Int)<=k:=Int.ofNat_le.2 (Zp hr);clear hr HC);generalize str b=o at*;generalize str a=z at*;refine wp_loop_rounds 2 ?_;rw[rounds_succ];go_wp2_with (go_at_call 19;refine(HN _).mono ?_;rintro e C ⟨rfl,c⟩;rw[c];clear c);go_ret;exact⟨rfl,m⟩
theorem zbg(l h:List UInt8)(n:l.length<=3000)(a:zO 32 l=[[119,114,105,116,101],h,[]]):
  Cl 9 #[.pointer (some ⟨D,0,none⟩),.string (str l)] w (.string (str badL)):=by
 have HC:=jO l 32 (by omega) w;rw[a]at HC;clear a;generalize str l=s at*;go_enter Tryz.func9,Tryz.ntmps9
 go_wp2_with (go_at_call 7;refine HC.mono ?_;rintro e p ⟨v,rfl,hr,f⟩;obtain⟨g,d,rfl,b,i,c,k,m⟩:=yA hr;unfold str at b;have j:(3:Int)<=d:=Int.ofNat_le.2 (Zp hr);clear hr HC;rw[show str []=⟨#[]⟩from rfl]at c);go_ret;exact⟨rfl,f⟩
end Rn
end Go.Proofs.YtdokgalidhmbbaaGreatDoor
namespace Go.Proofs.YtdokgalidhmbbaaGreatDoor
namespace Rn
open Go.RowKit
variable {w:World}{D:Nat}
theorem zjo{B L o:Nat}{d:Dv}{m:Tt}(h:DTk w B D L o d m)(l:List UInt8)(F:l.length<=3000)(j:zO 32 l=[[99,111,117,110,116]])(u:m.ls.length<=40):
  Cl 9 #[.pointer (some ⟨D,0,none⟩),.string (str l)] w (.string (str (zT m.ls.length))):=by
 have HC:=jO l 32 (by omega) w;rw[j]at HC;have HD:=λw=>QL m.ls.length (by omega) w;obtain⟨a,c,k⟩:=h.l.shape;have c2:=h.l.c;rw[k]at c2;have q:=h.l.lt (.inl rfl);clear h j k;generalize str l=s at*;generalize str (zT m.ls.length)=r at*;generalize m.ls.length=n at*;go_enter Tryz.func9,Tryz.ntmps9
 go_wp2_with (go_at_call 7;refine HC.mono ?_;rintro e P ⟨v,rfl,hr,i⟩;obtain⟨g,t,rfl,b,x,y⟩:=one_cell hr;unfold str at b;clear hr HC;have c2:=(i.cell (p:=⟨D,2,none⟩) q).trans c2);clear b;refine wp_loop_rounds 1 ?_;rw[rounds_succ];go_wp2_with (go_at_call 10;refine(HD _).mono ?_;rintro e Q ⟨rfl,f⟩;rw[f];clear f);go_ret;exact⟨rfl,i⟩
theorem Xd(l d f:List UInt8)(x y:Int)(Y:l.length<=3000)(U:zO 32 l=[[110,101,101,100],d,f])(P:d.length<=3000)(Q:f.length<=3000)(V:zV d=some x)(o:zV f=some y)(X:x<=y):
  Cl 9 #[.pointer (some ⟨D,0,none⟩),.string (str l)] w (.string (str (qZ 1))):=by
 have HC:=jO l 32 (by omega) w;rw[U]at HC;have HN:=λw=>kY V P w;have HN2:=λw=>kY o Q w;have HD:=λw=>Ju 1 (by decide) (by decide) w;obtain⟨G,F,z,A,C⟩:=info_parts ja;clear U V P o Q;generalize str l=s at*;generalize str (qZ 1)=r at*;go_enter Tryz.func9,Tryz.ntmps9
 go_wp2_with (go_at_call 7;refine HC.mono ?_;rintro e a ⟨v,rfl,hr,h⟩;obtain⟨g,S,rfl,m,c1,c2,W,L⟩:=yA hr;unfold str at m;clear hr HC);generalize str d=Z at*;generalize str f=q2 at*;clear m;have hn0:a.ownsRow a.heap.size 3 1 (.slice none 0 0) 0 []:=World.ownsRow_nil _ _ _ _;have hvb:∀k,(Value.slice none 0 0).ownBlock=some k->a.heap.size<=k:=λk e=>by cases e
 generalize Value.slice none 0 0=vn at hn0 hvb |-;refine wp_loop_rounds 3 ?_;rw[rounds_succ];go_wp2_with (first|(go_at_call 19;refine(HN _).mono ?_;rintro e O ⟨rfl,b⟩;rw[b];clear b)|(at_builtin;refine wpList_append_own _ rfl _ _ 54 rfl a.heap.size 3 G (.int .i64 0) 1 8 Tryz.underlying54 F z A C rfl (by decide) _ _ _ rfl (hn0.alloc _) ⟨a.heap.size,0,none⟩ 1 1 [.int .i64 x] rfl rfl (kZ _ _) (one_one _) (by unfold maxLen;omega) (by omega) (by simp) ?_;intro v' R j u M;clear M;have c:=vz u hvb;clear u))
 have c2:=(c.cell (p:=⟨g,2,none⟩) L).trans c2;clear c1 HN hn0 hvb;rw[rounds_succ];go_wp2_with (first|(go_at_call 19;refine(HN2 _).mono ?_;rintro e O ⟨rfl,b⟩;rw[b];clear b)|(at_builtin;refine wpList_append_own _ rfl _ _ 54 rfl a.heap.size 3 G (.int .i64 0) 1 8 Tryz.underlying54 F z A C rfl (by decide) _ _ _ rfl (j.alloc _) ⟨R.heap.size,0,none⟩ 1 1 [.int .i64 y] rfl rfl (kZ _ _) (one_one _) (by unfold maxLen;omega) (by omega) (by have:=c.size;simp;omega) ?_;intro a0 J hr4 B N;clear N;have t:=XU j c B;obtain⟨n,T,rfl,i⟩:=wo (x:=x) (xs:=[y]) hr4;have H:=i 0 x rfl;have I:=i 1 y rfl;clear j hr4 B i))
 have q:=h.trans (t.mono h.size);clear c2 HN2 h c t;rw[rounds_succ];go_wp2_with fail;have H:J.drew.cell? ⟨n,0,none⟩=some (.int .i64 x):=H;have I:J.drew.cell? ⟨n,1,none⟩=some (.int .i64 y):=I;go_region
 all_goals go_wp2_with (go_at_call 20;refine(HD _).mono ?_;rintro e w5 ⟨rfl,K⟩)
 all_goals go_ret
 all_goals exact⟨rfl,q.drew.trans (K.mono q.drew.size)⟩
theorem Xe(l i j:List UInt8)(x y:Int)(hl:l.length<=3000)(H:zO 32 l=[[110,101,101,100],i,j])(C:i.length<=3000)(G:j.length<=3000)(I:zV i=some x)(J:zV j=some y)(a2:y<x)(A:U.qb x y=true)(z:Nat)(K:U.need x y=(z:Int))(a3:z<10):
  Cl 9 #[.pointer (some ⟨D,0,none⟩),.string (str l)] w (.string (str (zT z))):=by
 have HC:=jO l 32 (by omega) w;rw[H]at HC;have HN:=λw=>kY I C w;have HN2:=λw=>kY J G w;have HE:=λw=>U.fG x y w A;rw[K]at HE;have HD:=λw=>QL z (by omega) w;obtain⟨O,o,L,M,N⟩:=info_parts ja;have a1:¬x<=y:=by omega
 clear H I C J G K A;generalize str l=s at*;generalize str (zT z)=r at*;go_enter Tryz.func9,Tryz.ntmps9
 go_wp2_with (go_at_call 7;refine HC.mono ?_;rintro e a ⟨v,rfl,hr,n⟩;obtain⟨g,Z,rfl,u,c1,c2,a0,S⟩:=yA hr;unfold str at u;clear hr HC);generalize str i=q1 at*;generalize str j=q2 at*;clear u;have hn0:a.ownsRow a.heap.size 3 1 (.slice none 0 0) 0 []:=World.ownsRow_nil _ _ _ _;have hvb:∀k,(Value.slice none 0 0).ownBlock=some k->a.heap.size<=k:=λk e=>by cases e
 generalize Value.slice none 0 0=vn at hn0 hvb |-;refine wp_loop_rounds 3 ?_;rw[rounds_succ];go_wp2_with (first|(go_at_call 19;refine(HN _).mono ?_;rintro e X ⟨rfl,b⟩;rw[b];clear b)|(at_builtin;refine wpList_append_own _ rfl _ _ 54 rfl a.heap.size 3 O (.int .i64 0) 1 8 Tryz.underlying54 o L M N rfl (by decide) _ _ _ rfl (hn0.alloc _) ⟨a.heap.size,0,none⟩ 1 1 [.int .i64 x] rfl rfl (kZ _ _) (one_one _) (by unfold maxLen;omega) (by omega) (by simp) ?_;intro v' Y t Q T;clear T;have d:=vz Q hvb;clear Q))
 have c2:=(d.cell (p:=⟨g,2,none⟩) S).trans c2;clear c1 HN hn0 hvb;rw[rounds_succ];go_wp2_with (first|(go_at_call 19;refine(HN2 _).mono ?_;rintro e X ⟨rfl,b⟩;rw[b];clear b)|(at_builtin;refine wpList_append_own _ rfl _ _ 54 rfl a.heap.size 3 O (.int .i64 0) 1 8 Tryz.underlying54 o L M N rfl (by decide) _ _ _ rfl (t.alloc _) ⟨Y.heap.size,0,none⟩ 1 1 [.int .i64 y] rfl rfl (kZ _ _) (one_one _) (by unfold maxLen;omega) (by omega) (by have:=d.size;simp;omega) ?_;intro a4 m hr4 V W;clear W;have P:=XU t d V;obtain⟨c,cn,rfl,q⟩:=wo (x:=x) (xs:=[y]) hr4;have f:=q 0 x rfl;have h:=q 1 y rfl;clear t hr4 V q))
 have R:=n.trans (P.mono n.size);clear c2 HN2 n d P;rw[rounds_succ];go_wp2_with fail;have f:m.drew.cell? ⟨c,0,none⟩=some (.int .i64 x):=f;have h:m.drew.cell? ⟨c,1,none⟩=some (.int .i64 y):=h;go_region
 all_goals go_wp2_with fail
 all_goals (
  have f:m.drew.drew.cell? ⟨c,0,none⟩=some (.int .i64 x):=f
  have h:m.drew.drew.cell? ⟨c,1,none⟩=some (.int .i64 y):=h)
 go_region_with (first|(go_at_call 29;refine(HE _).mono ?_;rintro e w5 ⟨rfl,B⟩;rw[B];clear B)|(go_at_call 10;refine(HD _).mono ?_;rintro e w6 ⟨rfl,F⟩;rw[F];clear F))
 all_goals (try go_wp2_with fail)
 all_goals go_ret
 all_goals exact⟨rfl,R.drew.drew⟩
end Rn
end Go.Proofs.YtdokgalidhmbbaaGreatDoor
namespace Go.Proofs.YtdokgalidhmbbaaGreatDoor
namespace Rn
open Go.RowKit
theorem YY(b:ByteArray):(⟨#[]⟩:ByteArray)++b=b:=by
 apply yZ;simp
theorem zdl{x:Int}(h:x<64):V.nums x=[x]/\dec x=zT x.toNat:=by
 have e:V.nums x=[x]:=by unfold V.nums;rw[if_pos h]
 refine⟨e,?_⟩;unfold dec;rw[e];simp[Lib.join,List.intercalate]
theorem zdm{x:Int}(h:¬x<64)(a:x<16384):V.nums x=[64+x/256,x%256]/\dec x=zT (64+x/256).toNat++[32]++zT (x%256).toNat:=by
 have e:V.nums x=[64+x/256,x%256]:=by unfold V.nums;rw[if_neg (by omega),if_pos a]
 refine⟨e,?_⟩;unfold dec;rw[e];simp[Lib.join,List.intercalate,List.intersperse]
theorem J4{zs:List Int}{k:Nat}(a:0<=zs[k]?.getD 0)(c:k<zs.length)(b:zs[k]?.getD 0<256):Sx.zP (strOfNums zs) k=zs[k]?.getD 0:=by
 unfold Sx.zP strOfNums;simp[c]at a b |-;omega
theorem zt9{w:World}{D:Nat}(l c:List UInt8)(x:Int)(O:l.length<=3000)(B:zO 32 l=[[118,97,114,105,110,116],c])(y:c.length<=3000)(F:zV c=some x)(n:0<=x)(P:x<64):
  Cl 9 #[.pointer (some ⟨D,0,none⟩),.string (str l)] w (.string (str (dec x))):=by
 have HC:=jO l 32 (by omega) w;rw[B]at HC;have HN:=λw=>kY F y w;have HB:=λw=>V.ZC x w (decide_eq_true ⟨n,by omega⟩);have HD:=λw=>QL x.toNat (by omega) w;rw[show((x.toNat:Nat):Int)=x by omega]at HD;obtain⟨m,j⟩:=zdl P;rw[m]at HB;rw[j];have R:(strOfNums [x]).size=1:=by rw[strOfNums_size];rfl
 have N:∀W,(Instr.index 9 (.string (strOfNums [x])) (.int .i64 0)).run Tryz.prog W=.ok (.int .u8 x) W:=λW=>by
  have e:=Sx.jU (d:=strOfNums [x]) (k:=0) (by omega) W;rw[J4 (zs:=[x]) (by simpa using n) (by simp) (by simp;omega)]at e;exact e
 have J:=YY (str (zT x.toNat));have z1:(str (zT x.toNat)).size<=4:=by rw[qW];exact kU _
 obtain⟨G,U,z,A,C⟩:=info_parts ja;clear B F y m j;generalize str l=s at*;generalize str (zT x.toNat)=r at*;generalize strOfNums [x]=b at*;go_enter Tryz.func9,Tryz.ntmps9
 go_wp2_with (go_at_call 7;refine HC.mono ?_;rintro e a ⟨v,rfl,hr,f⟩;obtain⟨g,H,rfl,c0,c1,L,M⟩:=Qi hr;rw[show str [118,97,114,105,110,116]=⟨#[118,97,114,105,110,116]⟩from rfl]at c0;clear hr HC);generalize str c=T at*;clear c0;have hn0:a.ownsRow a.heap.size 3 1 (.slice none 0 0) 0 []:=World.ownsRow_nil _ _ _ _;have hvb:∀k,(Value.slice none 0 0).ownBlock=some k->a.heap.size<=k:=λk e=>by cases e
 generalize Value.slice none 0 0=Y at hn0 hvb |-;refine wp_loop_rounds 2 ?_;rw[rounds_succ];go_wp2_with (first|(go_at_call 19;refine(HN _).mono ?_;rintro e Z ⟨rfl,h⟩;rw[h];clear h)|(at_builtin;refine wpList_append_own _ rfl _ _ 54 rfl a.heap.size 3 G (.int .i64 0) 1 8 Tryz.underlying54 U z A C rfl (by decide) _ _ _ rfl (hn0.alloc _) ⟨a.heap.size,0,none⟩ 1 1 [.int .i64 x] rfl rfl (kZ _ _) (one_one _) (by unfold maxLen;omega) (by omega) (by simp) ?_;intro X w3 hr3 u o;clear o;obtain⟨K,I,rfl,t⟩:=wo (x:=x) (xs:=[]) hr3;have S:=t 0 x rfl;have q:=vz u hvb;clear hr3 u t))
 have p:=f.trans (q.mono f.size);clear c1 HN f q hn0 hvb;rw[rounds_succ];go_wp2_with (go_at_call 28;refine(HB _).mono ?_;rintro e w4 ⟨rfl,Q⟩);refine wp_loop_rounds 2 ?_;rw[rounds_succ];go_wp2_with (go_at_call 10;refine(HD _).mono ?_;rintro e w6 ⟨rfl,i⟩;rw[i];clear i);rw[rounds_succ];go_wp2_with fail;go_ret;exact⟨rfl,p.trans (Q.mono p.size)⟩
theorem zua{w:World}{D:Nat}(l f:List UInt8)(x:Int)(X:l.length<=3000)(y:zO 32 l=[[118,97,114,105,110,116],f])(u:f.length<=3000)(B:zV f=some x)(F:0<=x)(P:¬x<64)(Q:x<16384):
  Cl 9 #[.pointer (some ⟨D,0,none⟩),.string (str l)] w (.string (str (dec x))):=by
 have HC:=jO l 32 (by omega) w;rw[y]at HC;have HN:=λw=>kY B u w;have HB:=λw=>V.ZC x w (decide_eq_true ⟨F,by omega⟩);have HD:=λw=>QL (64+x/256).toNat (by omega) w;have HD2:=λw=>QL (x%256).toNat (by omega) w;rw[show(((64+x/256).toNat:Nat):Int)=64+x/256 by omega]at HD;rw[show(((x%256).toNat:Nat):Int)=x%256 by omega]at HD2;obtain⟨m,j⟩:=zdm P Q;rw[m]at HB;rw[j];have Y:(strOfNums [64+x/256,x%256]).size=2:=by rw[strOfNums_size];rfl
 have S:∀W,(Instr.index 9 (.string (strOfNums [64+x/256,x%256])) (.int .i64 0)).run Tryz.prog W=.ok (.int .u8 (64+x/256)) W:=λW=>by
  have e:=Sx.jU (d:=strOfNums [64+x/256,x%256]) (k:=0) (by omega) W;rw[J4 (zs:=[64+x/256,x%256]) (by simp;omega) (by simp) (by simp;omega)]at e;exact e
 have T:∀W,(Instr.index 9 (.string (strOfNums [64+x/256,x%256])) (.int .i64 1)).run Tryz.prog W=.ok (.int .u8 (x%256)) W:=λW=>by
  have e:=Sx.jU (d:=strOfNums [64+x/256,x%256]) (k:=1) (by omega) W;rw[J4 (zs:=[64+x/256,x%256]) (by simp;omega) (by simp) (by simp;omega)]at e;exact e
 have L:=YY (str (zT (64+x/256).toNat));have h:str (zT (64+x/256).toNat)++(⟨#[32]⟩:ByteArray)=str (zT (64+x/256).toNat++[32]):=vJ _ [32];have M:=vJ (zT (64+x/256).toNat++[32]) (zT (x%256).toNat);have z1:(str (zT (64+x/256).toNat)).size<=4:=by rw[qW];exact kU _
 have z2:(str (zT (x%256).toNat)).size<=4:=by rw[qW];exact kU _
 have z3:(str (zT (64+x/256).toNat++[32])).size<=5:=by rw[qW,List.length_append];have:=kU (64+x/256).toNat;simp;omega
 have Z:0<=64+x/256/\64+x/256<256:=by omega
 have k1:0<=x%256/\x%256<256:=by omega
 obtain⟨H,o,A,C,G⟩:=info_parts ja;clear y B u m j;generalize str l=s at*;generalize str (zT (64+x/256).toNat++[32]++zT (x%256).toNat)=r at*;generalize str (zT (64+x/256).toNat++[32])=r1 at*;generalize str (zT (64+x/256).toNat)=r0 at*;generalize str (zT (x%256).toNat)=r2 at*;generalize strOfNums [64+x/256,x%256]=b at*;generalize 64+x/256=x0 at*;generalize x%256=x1 at*;go_enter Tryz.func9,Tryz.ntmps9
 go_wp2_with (go_at_call 7;refine HC.mono ?_;rintro e c ⟨v,rfl,hr,i⟩;obtain⟨g,J,rfl,c0,c1,O,R⟩:=Qi hr;rw[show str [118,97,114,105,110,116]=⟨#[118,97,114,105,110,116]⟩from rfl]at c0;clear hr HC);generalize str f=q1 at*;clear c0;have hn0:c.ownsRow c.heap.size 3 1 (.slice none 0 0) 0 []:=World.ownsRow_nil _ _ _ _;have hvb:∀k,(Value.slice none 0 0).ownBlock=some k->c.heap.size<=k:=λk e=>by cases e
 generalize Value.slice none 0 0=vn at hn0 hvb |-;refine wp_loop_rounds 2 ?_;rw[rounds_succ];go_wp2_with (first|(go_at_call 19;refine(HN _).mono ?_;rintro e w2 ⟨rfl,h⟩;rw[h];clear h)|(at_builtin;refine wpList_append_own _ rfl _ _ 54 rfl c.heap.size 3 H (.int .i64 0) 1 8 Tryz.underlying54 o A C G rfl (by decide) _ _ _ rfl (hn0.alloc _) ⟨c.heap.size,0,none⟩ 1 1 [.int .i64 x] rfl rfl (kZ _ _) (one_one _) (by unfold maxLen;omega) (by omega) (by simp) ?_;intro v' w3 hr3 t z;clear z;obtain⟨N,K,rfl,q⟩:=wo (x:=x) (xs:=[]) hr3;have n0:=q 0 x rfl;have p:=vz t hvb;clear hr3 t q))
 have n:=i.trans (p.mono i.size);clear c1 HN i p hn0 hvb;rw[rounds_succ];go_wp2_with (go_at_call 28;refine(HB _).mono ?_;rintro e w4 ⟨rfl,U⟩);refine wp_loop_rounds 3 ?_;rw[rounds_succ];go_wp2_with (go_at_call 10;refine(HD _).mono ?_;rintro e I ⟨rfl,a⟩;rw[a];clear a);clear HD;rw[rounds_succ];go_wp2_with (go_at_call 10;refine(HD2 _).mono ?_;rintro e I ⟨rfl,a⟩;rw[a];clear a);rw[rounds_succ];go_wp2_with fail
 go_ret;exact⟨rfl,n.trans (U.mono n.size)⟩
end Rn
end Go.Proofs.YtdokgalidhmbbaaGreatDoor
