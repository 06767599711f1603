/- What the law RunAnswers needs. -/
import Derived.Test.YtdokgalidhmbbaaGreatDoorHYC
set_option linter.unusedVariables false
set_option linter.unusedSimpArgs false
set_option maxRecDepth 100000
set_option maxHeartbeats 8000000
namespace Go.Proofs.YtdokgalidhmbbaaGreatDoor
namespace Rn
open Go.RowKit
variable {w:World}{D:Nat}
theorem zu1(l c a:List UInt8)(x:Int)(L:l.length<=3000)(q:zO 32 l=[[119,114,105,116,101],c,a])(p:c.length<=3000)(P:a.length<=3000)(u:zV c=some x)(t:a≠ [])(M:1<x):
  Cl 9 #[.pointer (some ⟨D,0,none⟩),.string (str l)] w (.string (str (qZ 1))):=by
 have HC:=jO l 32 (by omega) w;rw[q]at HC;have HN:=λw=>kY u p w;have I:((str a).toList.isEmpty)=false:=by rw[ByteArray.toList_eq,qo];cases a;exact absurd rfl t;rfl
 obtain⟨z,F,U,V,o⟩:=info_parts ja;have HD:=λw=>Ju 1 (by decide) (by decide) w;clear q u p P t;generalize str l=s at*;generalize str (qZ 1)=r at*;go_enter Tryz.func9,Tryz.ntmps9
 go_wp2_with (go_at_call 7;refine HC.mono ?_;rintro e b ⟨v,rfl,hr,d⟩;obtain⟨g,y,rfl,f,c1,A,J,K⟩:=yA hr;unfold str at f;have H:(3:Int)<=y:=Int.ofNat_le.2 (Zp hr);clear hr HC);generalize str c=O at*;generalize str a=R at*;clear f;have hn0:b.ownsRow b.heap.size 3 1 (.slice none 0 0) 0 []:=World.ownsRow_nil _ _ _ _;have hvb:∀k,(Value.slice none 0 0).ownBlock=some k->b.heap.size<=k:=λk e=>by cases e
 generalize Value.slice none 0 0=T at hn0 hvb |-;refine wp_loop_rounds 2 ?_;rw[rounds_succ];go_wp2_with (first|(go_at_call 19;refine(HN _).mono ?_;rintro e W ⟨rfl,h⟩;rw[h];clear h)|(at_builtin;refine wpList_append_own _ rfl _ _ 54 rfl b.heap.size 3 z (.int .i64 0) 1 8 Tryz.underlying54 F U V o rfl (by decide) _ _ _ rfl (hn0.alloc _) ⟨b.heap.size,0,none⟩ 1 1 [.int .i64 x] rfl rfl (kZ _ _) (one_one _) (by unfold maxLen;omega) (by omega) (by simp) ?_;intro S X hr3 n Q;clear Q;obtain⟨G,C,rfl,m⟩:=wo (x:=x) (xs:=[]) hr3;have N:=m 0 x rfl;have j:=vz n hvb;clear hr3 n m))
 have i:=d.trans (j.mono d.size);clear c1 HN d j hn0 hvb;rw[rounds_succ];go_wp2_with (go_at_call 20;refine(HD _).mono ?_;rintro e Y ⟨rfl,B⟩);go_ret;exact⟨rfl,i.trans (B.mono i.size)⟩
theorem iV{B L o:Nat}{d:Dv}{m:Tt}(h:DTk w B D L o d m)(l i a:List UInt8)(x f:Int)(j:Nat)(C:Tt)(M:(x=0/\j=L)\/(x=1/\j=o))(hl:l.length<=3000)(V:zO 32 l=[[119,114,105,116,101],i,a])(U:i.length<=3000)(N:a.length<=3000)(A:zV i=some x)(z:a≠ [])(p:0<=f/\f<9)(HS:∀W,DTk W B D L o d m->Calls Tryz.prog 22 #[.pointer (some ⟨j,0,none⟩),.string (str a)] W λe E=>e=.returned (.int .i64 f)/\DTTurn W E B D L o d C):
  Calls Tryz.prog 9 #[.pointer (some ⟨D,0,none⟩),.string (str l)] w λe E=>e=.returned (.string (str (if f=0 then okL else qZ f)))/\DTTurn w E B D L o d C:=by
 have HC:=jO l 32 (by omega) w;rw[V]at HC;have HN:=λw=>kY A U w;have a1:((str a).toList.isEmpty)=false:=by rw[ByteArray.toList_eq,qo];cases a;exact absurd rfl z;rfl
 obtain⟨Y,K,S,T,X⟩:=info_parts ja;have HH:=zC h;have HD:=λw=>Jt f p.1 p.2 w;have HS:Hid _:=HS;clear h V A U N z p;generalize str l=s at*;generalize str (if f=0 then okL else qZ f)=r at*;rcases M with⟨rfl,rfl⟩|⟨rfl,rfl⟩
 all_goals
  go_enter Tryz.func9,Tryz.ntmps9
  go_wp2_with (go_at_call 7;refine HC.mono ?_;rintro e b ⟨v,rfl,hr,n⟩;obtain⟨g,H,rfl,t,c1,c2,a2,a3⟩:=yA hr;unfold str at t;have a0:(3:Int)<=H:=Int.ofNat_le.2 (Zp hr);clear hr HC)
  generalize str i=q1 at*
  generalize str a=q2 at*
  clear t
  have hn0:b.ownsRow b.heap.size 3 1 (.slice none 0 0) 0 []:=World.ownsRow_nil _ _ _ _
  have hvb:∀k,(Value.slice none 0 0).ownBlock=some k->b.heap.size<=k:=λk e=>by cases e
  generalize Value.slice none 0 0=vn at hn0 hvb |-
  refine wp_loop_rounds 2 ?_
  rw[rounds_succ]
  go_wp2_with (first|(go_at_call 19;refine(HN _).mono ?_;rintro e w2 ⟨rfl,u⟩;rw[u];clear u)|(at_builtin;refine wpList_append_own _ rfl _ _ 54 rfl b.heap.size 3 Y (.int .i64 0) 1 8 Tryz.underlying54 K S T X rfl (by decide) _ _ _ rfl (hn0.alloc _) ⟨b.heap.size,0,none⟩ 1 1 [.int .i64 _] rfl rfl (kZ _ _) (one_one _) (by unfold maxLen;omega) (by omega) (by simp) ?_;intro v' Z hr3 Q O;clear O;obtain⟨I,cn,rfl,P⟩:=wo (xs:=[]) hr3;have G:=P 0 _ rfl;have F:=vz Q hvb;clear hr3 Q P))
  have y:=n.trans (F.mono n.size)
  clear c1 HN n F hn0 hvb
  rw[rounds_succ]
  go_wp2_with fail
  have c:=HH.out.below y.drew
  have q:=HS.out _ c
  have k0:=c.c0
  have k1:=c.c1
  have G:Z.drew.cell? ⟨I,0,none⟩=some _:=G
  clear c
  go_region_with (first|(go_at_call 22;refine q.mono ?_;rintro e w4 ⟨rfl,R⟩;clear q)|(go_at_call 21;refine(HD _).mono ?_;rintro e w5 ⟨rfl,J⟩))
  all_goals (try go_wp2_with fail)
  all_goals go_ret
  all_goals exact⟨rfl,X9 HH.out y.drew (R.more J)⟩
theorem zo2(l d f:List UInt8)(x y:Int)(S:l.length<=3000)(Q:zO 32 l=[[114,101,97,100],d,f])(F:d.length<=3000)(P:f.length<=3000)(U:zV d=some x)(V:zV f=some y)(T:1<x):
  Cl 9 #[.pointer (some ⟨D,0,none⟩),.string (str l)] w (.string (str (qZ 1))):=by
 have HC:=jO l 32 (by omega) w;rw[Q]at HC;have HN:=λw=>kY U F w;have HN2:=λw=>kY V P w;have HD:=λw=>Ju 1 (by decide) (by decide) w;obtain⟨C,B,o,z,A⟩:=info_parts ja;clear Q U F V P;generalize str l=s at*;generalize str (qZ 1)=r at*;go_enter Tryz.func9,Tryz.ntmps9
 go_wp2_with (go_at_call 7;refine HC.mono ?_;rintro e a ⟨v,rfl,hr,h⟩;obtain⟨g,M,rfl,m,c1,c2,R,H⟩:=yA hr;unfold str at m;clear hr HC);generalize str d=Y at*;generalize str f=Z at*;clear m;have hn0:a.ownsRow a.heap.size 3 1 (.slice none 0 0) 0 []:=World.ownsRow_nil _ _ _ _;have hvb:∀k,(Value.slice none 0 0).ownBlock=some k->a.heap.size<=k:=λk e=>by cases e
 generalize Value.slice none 0 0=vn at hn0 hvb |-;refine wp_loop_rounds 3 ?_;rw[rounds_succ];go_wp2_with (first|(go_at_call 19;refine(HN _).mono ?_;rintro e K ⟨rfl,b⟩;rw[b];clear b)|(at_builtin;refine wpList_append_own _ rfl _ _ 54 rfl a.heap.size 3 C (.int .i64 0) 1 8 Tryz.underlying54 B o z A rfl (by decide) _ _ _ rfl (hn0.alloc _) ⟨a.heap.size,0,none⟩ 1 1 [.int .i64 x] rfl rfl (kZ _ _) (one_one _) (by unfold maxLen;omega) (by omega) (by simp) ?_;intro v' L j t I;clear I;have c:=vz t hvb;clear t))
 have c2:=(c.cell (p:=⟨g,2,none⟩) H).trans c2;clear c1 HN hn0 hvb;rw[rounds_succ];go_wp2_with (first|(go_at_call 19;refine(HN2 _).mono ?_;rintro e K ⟨rfl,b⟩;rw[b];clear b)|(at_builtin;refine wpList_append_own _ rfl _ _ 54 rfl a.heap.size 3 C (.int .i64 0) 1 8 Tryz.underlying54 B o z A rfl (by decide) _ _ _ rfl (j.alloc _) ⟨L.heap.size,0,none⟩ 1 1 [.int .i64 y] rfl rfl (kZ _ _) (one_one _) (by unfold maxLen;omega) (by omega) (by have:=c.size;simp;omega) ?_;intro a0 w4 hr4 u J;clear J;have q:=XU j c u;obtain⟨O,N,rfl,i⟩:=wo (x:=x) (xs:=[y]) hr4;have W:=i 0 x rfl;have X:=i 1 y rfl;clear j hr4 u i))
 have n:=h.trans (q.mono h.size);clear c2 HN2 h c q;rw[rounds_succ];go_wp2_with (go_at_call 20;refine(HD _).mono ?_;rintro e w5 ⟨rfl,G⟩);go_ret;exact⟨rfl,n.trans (G.mono n.size)⟩
theorem eZ{B L o:Nat}{d:Dv}{m:Tt}(h:DTk w B D L o d m)(l j n:List UInt8)(x y:Int)(q:Nat)(a:ByteArray)(X:Tt)(hk:(x=0/\q=L)\/(x=1/\q=o))(hl:l.length<=3000)(K:zO 32 l=[[114,101,97,100],j,n])(I:j.length<=3000)(J:n.length<=3000)(M:zV j=some x)(N:zV n=some y)(HS:∀W,DTk W B D L o d m->Calls Tryz.prog 27 #[.pointer (some ⟨q,0,none⟩),.int .i64 y] W λe E=>e=.returned (.tuple #[.string a,.int .i64 0])/\DTTurn W E B D L o d X):
  Calls Tryz.prog 9 #[.pointer (some ⟨D,0,none⟩),.string (str l)] w λe E=>e=.returned (.string (str (jv a)))/\DTTurn w E B D L o d X:=by
 have HC:=jO l 32 (by omega) w;rw[K]at HC;have HN:=λw=>kY M I w;have HN2:=λw=>kY N J w;have HH:=zC h;have HS:Hid _:=HS;have F:=zfu a;have hes:(a.toList.isEmpty=true/\str (jv a)=⟨#[45]⟩)\/(a.toList.isEmpty=false/\str (jv a)=a):=by
  unfold jv;by_cases e:a.size=0;exact .inl ⟨by rw[F];exact decide_eq_true e,by rw[if_pos e];rfl⟩;exact .inr ⟨by rw[F];exact decide_eq_false e,by rw[if_neg e];exact kK _⟩
 obtain⟨T,H,O,R,S⟩:=info_parts ja;clear h K M I J N F;generalize str l=s at*;generalize str (jv a)=r at*;rcases hk with⟨rfl,rfl⟩|⟨rfl,rfl⟩
 all_goals
  go_enter Tryz.func9,Tryz.ntmps9
  go_wp2_with (go_at_call 7;refine HC.mono ?_;rintro e b ⟨v,rfl,hr,t⟩;obtain⟨g,a3,rfl,U,c1,c2,a4,a0⟩:=yA hr;unfold str at U;clear hr HC)
  generalize str j=q1 at*
  generalize str n=q2 at*
  clear U
  have hn0:b.ownsRow b.heap.size 3 1 (.slice none 0 0) 0 []:=World.ownsRow_nil _ _ _ _
  have hvb:∀k,(Value.slice none 0 0).ownBlock=some k->b.heap.size<=k:=λk e=>by cases e
  generalize Value.slice none 0 0=vn at hn0 hvb |-
  refine wp_loop_rounds 3 ?_
  rw[rounds_succ]
  go_wp2_with (first|(go_at_call 19;refine(HN _).mono ?_;rintro e w2 ⟨rfl,c⟩;rw[c];clear c)|(at_builtin;refine wpList_append_own _ rfl _ _ 54 rfl b.heap.size 3 T (.int .i64 0) 1 8 Tryz.underlying54 H O R S rfl (by decide) _ _ _ rfl (hn0.alloc _) ⟨b.heap.size,0,none⟩ 1 1 [.int .i64 _] rfl rfl (kZ _ _) (one_one _) (by unfold maxLen;omega) (by omega) (by simp) ?_;intro v' w3 P C a1;clear a1;have i:=vz C hvb;clear C))
  have c2:=(i.cell (p:=⟨g,2,none⟩) a0).trans c2
  clear c1 HN hn0 hvb
  rw[rounds_succ]
  go_wp2_with (first|(go_at_call 19;refine(HN2 _).mono ?_;rintro e w2 ⟨rfl,c⟩;rw[c];clear c)|(at_builtin;refine wpList_append_own _ rfl _ _ 54 rfl b.heap.size 3 T (.int .i64 0) 1 8 Tryz.underlying54 H O R S rfl (by decide) _ _ _ rfl (P.alloc _) ⟨w3.heap.size,0,none⟩ 1 1 [.int .i64 y] rfl rfl (kZ _ _) (one_one _) (by unfold maxLen;omega) (by omega) (by have:=i.size;simp;omega) ?_;intro a5 w4 hr4 G a2;clear a2;have A:=XU P i G;obtain⟨V,cn,rfl,u⟩:=wo (xs:=[y]) hr4;have Y:=u 0 _ rfl;have Z:=u 1 y rfl;clear P hr4 G u))
  have z:=t.trans (A.mono t.size)
  clear c2 HN2 t i A
  rw[rounds_succ]
  go_wp2_with fail
  have f:=HH.out.below z.drew
  have Q:=HS.out _ f
  have k0:=f.c0
  have k1:=f.c1
  have Y:w4.drew.cell? ⟨V,0,none⟩=some _:=Y
  have Z:w4.drew.cell? ⟨V,1,none⟩=some (.int .i64 y):=Z
  clear f
  go_region_with (go_at_call 27;refine Q.mono ?_;rintro e w5 ⟨rfl,ht⟩;clear Q)
  all_goals (
   rcases hes with⟨hes,rfl⟩|⟨hes,rfl⟩
   all_goals (
    go_wp2_with fail
    go_ret
    exact⟨rfl,X9 HH.out z.drew ht⟩))
end Rn
end Go.Proofs.YtdokgalidhmbbaaGreatDoor
