/- What the law RunAnswers needs. -/
import Derived.Test.YtdokgalidhmbbaaGreatDoorHM
import Derived.Test.YtdokgalidhmbbaaGreatDoorChecked
import Derived.WalkKit
import Derived.WalkSpells
import Derived.WalkLawsBesides
import Derived.LoopN
import Derived.Outline
import Derived.BigQuiet
import Derived.Deep.RegionWith
import Derived.Shelf.SlSortCmp.QuietGrown
import Derived.KernelRfl
import Derived.Laws.AppendOwn
import Derived.Laws.AppendOwnNone
set_option linter.unusedVariables false
set_option linter.unusedSimpArgs false
set_option maxRecDepth 100000
set_option maxHeartbeats 8000000
namespace Go.Proofs.YtdokgalidhmbbaaGreatDoor
open Go.RowKit Go.Lib Go.Sort
def at'(J:List R)(j:Nat):R:=J[j]?.getD (0,0)
def Cells(w:World)(b a:Nat)(J:List R):Prop:=∀j,j<J.length->w.cell? ⟨b,a+j*2,none⟩=some (.int .i64 (at' J j).1)/\w.cell? ⟨b,a+j*2+1,none⟩=some (.int .i64 (at' J j).2)
def Row(w:World)(v:Value)(J:List R):Prop:=∃a c,v=.slice a J.length c/\J.length<=9223372036854775807/\(a=none->c=0)/\(J=[]\/∃b d,a=some ⟨b,d,none⟩/\b<w.heap.size/\Cells w b d J)
variable {w E:World}{b a:Nat}{J:List R}
theorem Cells.below(h:Cells w b a J)(d:b<w.heap.size)(c:Below w.heap.size w E):Cells E b a J:=λj e=>
 ⟨(c.cell (p:=⟨b,a+j*2,none⟩) d).trans (h j e).1,(c.cell (p:=⟨b,a+j*2+1,none⟩) d).trans (h j e).2⟩
variable {v:Value}
theorem Row.below(h:Row w v J)(a:Below w.heap.size w E):Row E v J:=by
 obtain⟨e,c,rfl,g,i,h⟩:=h;refine⟨e,c,rfl,g,i,?_⟩;rcases h with h|⟨b,j,rfl,d,f⟩;exact .inl h;exact .inr ⟨b,j,rfl,Nat.lt_of_lt_of_le d a.size,f.below d a⟩
theorem Row.nil(w:World):Row w (.slice none 0 0) []:=⟨none,0,rfl,by simp,λ_=>rfl,.inl rfl⟩
theorem at_mem{zs:List R}{j:Nat}(h:j<zs.length):at' zs j∈zs:=by simp[at',h]
theorem drop_at{j:Nat}(h:j<J.length):J.drop j=at' J j::J.drop (j+1):=by
 rw[List.drop_eq_getElem_cons h];simp[at',h]
variable {B:Nat}
theorem below_drewN{a:World}(h:Below B a w)(q:Nat):Below B a (w.drewN q):=⟨h.os,h.tape,h.output,h.size,h.block⟩
theorem vO(n:Int)(w:World):Cs 157 #[.int .i64 n] w (.bool (qC n)):=by
 by_cases a:0<=n
 .by_cases h2:n<=1073741823
  .have e:qC n=true:=by simp[qC,a,h2]
   go_enter Tryz.func157,Tryz.ntmps157
   go_wp2;go_ret;exact⟨by simp[qC,a,h2],rfl⟩
  go_enter Tryz.func157,Tryz.ntmps157
  go_wp2;go_ret;exact⟨by simp[qC,a,h2],rfl⟩
 go_enter Tryz.func157,Tryz.ntmps157
 go_wp2;go_ret;exact⟨by rw[(X4 n).2 (by omega)];rfl,rfl⟩
theorem JR(a b c d:Int)(w:World)(g:0<=b)(h:b<=1073741823):Calls Tryz.prog 180 #[.agg #[.int .i64 a,.int .i64 b],.agg #[.int .i64 c,.int .i64 d]] w λe E=>e=.returned (.bool (decide (c<=b+1)))/\∃q f,E=grow (w.drewN q) f:=by
 go_enter Tryz.func180,Tryz.ntmps180
 go_wp2;go_ret;exact⟨by simp<;>omega,0,_,by rw[alloc_eq_grow,alloc_eq_grow,grow_grow];rfl⟩
theorem below_grow{a:World}(h:Below B a w)(d:B<=w.heap.size)(b:Array Obj):Below B a (grow w b):=by
 refine⟨h.os,h.tape,h.output,?_,λk c=>?_⟩;have:=h.size;show _<=(w.heap++b).size;simp;omega;rw [<-h.block k c];show(w.heap++b)[k]? =_;rw[Array.getElem?_append_left (by omega)]
theorem mixed:Tryz.prog.follows .mixedOrders=true:=by kernel_rfl
def zN(k:Int):Value:=if k=0 then .nilIface else .iface 133 (.int .i64 k)
theorem XI:zN 0=.nilIface:=rfl
theorem XJ:zN 1=.iface 133 (.int .i64 1):=rfl
theorem Y0:zN 3=.iface 133 (.int .i64 3):=rfl
theorem zf1:zN 4=.iface 133 (.int .i64 4):=rfl
def kI(J:List R)(k:Nat):Option Int:=if k=0 then none else some (at' J (k-1)).1
theorem dO(J:List R)(k:Nat):kI J (k+1)=some (at' J k).1:=by simp[kI]
theorem J8(p:Option Int)(r:R)(a:List R)(h:qC r.1=false\/qC r.2=false):qI p (r::a)=1:=by rw[qI,if_pos h]
theorem Wt(p:Option Int)(r:R)(c:List R)(a:qC r.1=true)(b:qC r.2=true)(h:r.2<r.1):qI p (r::c)=3:=by rw[qI,if_neg (by simp[a,b]),if_pos (.inl h)]
theorem Wu(q:Int)(r:R)(c:List R)(a:qC r.1=true)(b:qC r.2=true)(h:q<=r.2+1):qI (some q) (r::c)=3:=by rw[qI,if_neg (by simp[a,b]),if_pos (.inr ⟨q,rfl,h⟩)]
theorem Wq(r:R)(a:List R)(b:qC r.1=true)(c:qC r.2=true)(h:r.1<=r.2):qI none (r::a)=qI (some r.1) a:=by
 rw[qI,if_neg (by simp[b,c]),if_neg];rintro(x|⟨q,x,_⟩);.omega
 cases x
theorem Ws(q:Int)(r:R)(a:List R)(b:qC r.1=true)(c:qC r.2=true)(h:r.1<=r.2)(d:r.2+1<q):qI (some q) (r::a)=qI (some r.1) a:=by
 rw[qI,if_neg (by simp[b,c]),if_neg];rintro(x|⟨e,x,y⟩);.omega
 cases x;omega
theorem zc1(a:Option Addr)(b c:Nat)(w:World)(h:12<b)(f:b<=9223372036854775807):
  Cl 158 #[.slice a b c] w (.iface 133 (.int .i64 4)):=by
 have d:(12:Int)<(b:Int):=by omega
 go_enter Tryz.func158,Tryz.ntmps158
 go_wp2_with fail;go_ret;exact⟨rfl,Below.refl _ _⟩
theorem zc2(a:Option Addr)(b:Nat)(w:World):
  Cl 158 #[.slice a 0 b] w .nilIface:=by
 go_enter Tryz.func158,Tryz.ntmps158
 go_wp2_with fail;refine wp_loop_rounds 1 ?_;rw[rounds_succ];go_wp2_with fail;go_ret;exact⟨rfl,Below.refl _ _⟩
theorem zc3(b u l D:Nat)(J:List R)(w:World)(C:J.length=l)(Z:l<=12)(F:b<w.heap.size)(z:Cells w b u J):
  Cl 158 #[.slice (some ⟨b,u,none⟩) l D] w (zN (qI none J)):=by
 have a0:¬(12:Int)<(l:Int):=by omega
 have HL:=zC C;have U:=zC z;clear C z;go_enter Tryz.func158,Tryz.ntmps158
 go_wp2_with fail;go_loopw [11] (λi wr=>∃k:Nat,k<=l/\i=.int .i64 k/\Hid (qI none J=qI (kI J k) (J.drop k))/\Below w.heap.size w wr) (λi _=>l-(intOf i).toNat)
 case atStart=>exact⟨0,Nat.zero_le _,rfl,rfl,Below.refl _ _⟩
 case round=>
  obtain⟨k,hk,rfl,hE,f⟩:=hrel;by_cases a1:k<l
  .have X:(k:Int)<(l:Int):=by omega
   have V:k<J.length:=by have:=HL.out;omega
   have c0:=(U.out.below F f k V).1
   have c1:=(U.out.below F f k V).2
   have HD:Hid (J.drop k=at' J k::J.drop (k+1)):=drop_at V
   have HP:Hid (kI J (k+1)=some (at' J k).1):=dO J k
   have HK:Hid (0<k->Cells wr b u J):=λ_=>U.out.below F f
   have P:b<wr.heap.size:=Nat.lt_of_lt_of_le F f.size
   generalize hr:at' J k=r at c0 c1 HD HP
   obtain⟨c,a⟩:=r
   have T:Hid (at' J k=(c,a)):=hr
   clear hr
   simp only at c0 c1
   cases m:qC c with
   |false=>
    have h:Hid (qI none J=1):=by
     show _=_;rw[hE.out,HD.out];exact J8 _ _ _ (.inl m)
    clear hE;go_wp2_with (go_at_call 157;refine(vO c _).mono ?_;rintro e t ⟨rfl,rfl⟩;rw[m]);go_ret;exact⟨by rw[h.out,XJ];rfl,f.alloc f.size _⟩
   |true=>
    cases s:qC a with
    |false=>
     have h:Hid (qI none J=1):=by
      show _=_;rw[hE.out,HD.out];exact J8 _ _ _ (.inr s)
     clear hE;go_wp2_with (first|(go_at_call_of 157 c;refine(vO c _).mono ?_;rintro e t ⟨rfl,rfl⟩;rw[m])|(go_at_call_of 157 a;refine(vO a _).mono ?_;rintro e t ⟨rfl,rfl⟩;rw[s]));go_ret;exact⟨by rw[h.out,XJ];rfl,f.alloc f.size _⟩
    |true=>
     have W:=(wC c).1 m;have y:=(wC a).1 s;by_cases h3:a<c
     .have h:Hid (qI none J=3):=by
       show _=_;rw[hE.out,HD.out];exact Wt _ _ _ m s h3
      clear hE;go_wp2_with (first|(go_at_call_of 157 c;refine(vO c _).mono ?_;rintro e t ⟨rfl,rfl⟩;rw[m])|(go_at_call_of 157 a;refine(vO a _).mono ?_;rintro e t ⟨rfl,rfl⟩;rw[s]));go_quiet (fail)
      go_wp2_with fail;go_ret;exact⟨by rw[h.out,Y0];rfl,below_drewN (f.alloc f.size _) _⟩
     by_cases o:k=0
     .subst o;have h:Hid (qI none J=qI (kI J 1) (J.drop 1)):=by
       show _=_;rw[hE.out,HD.out,HP.out];exact Wq _ _ m s (by show c<=a;omega)
      have N:decide (a<c)=false:=by simp;omega
      simp only[Nat.zero_mul,Nat.add_zero]at c0 c1;clear hE HK;go_wp2_with (first|(go_at_call_of 157 c;refine(vO c _).mono ?_;rintro e t ⟨rfl,rfl⟩;rw[m])|(go_at_call_of 157 a;refine(vO a _).mono ?_;rintro e t ⟨rfl,rfl⟩;rw[s]));go_quiet (fail)
      go_wp2_with fail;exact⟨⟨1,by omega,by go_num,h,below_drewN (f.alloc f.size _) _⟩,by simp[intOf];omega⟩
     have Y:(0:Int)<(k:Int):=by omega
     have A:k-1<J.length:=by have:=HL.out;omega
     have d0:=(HK.out (by omega) (k-1) A).1;have d1:=(HK.out (by omega) (k-1) A).2;have HQ:Hid (kI J k=some (at' J (k-1)).1):=by
      show _=_;unfold kI;rw[if_neg o]
     obtain⟨j,rfl⟩:∃j,k=j+1:=⟨k-1,by omega⟩;simp only[Nat.add_sub_cancel]at d0 d1 HQ;generalize at' J j=q at d0 d1 HQ;obtain⟨v,Q⟩:=q;simp only at d0 d1 HQ;have N:decide (a<c)=false:=by simp;omega
     clear HK;by_cases M:v<=a+1
     .have h:Hid (qI none J=3):=by
       show _=_;rw[hE.out,HD.out,HQ.out];exact Wu _ _ _ m s M
      clear hE;go_wp2_with (first|(go_at_call_of 157 c;refine(vO c _).mono ?_;rintro e t ⟨rfl,rfl⟩;rw[m])|(go_at_call_of 157 a;refine(vO a _).mono ?_;rintro e t ⟨rfl,rfl⟩;rw[s]));generalize d:wr.alloc (.cells #[.int .i64 c,.int .i64 a] 143)=p;have G:∀n g,(grow (p.drewN n) g).cell? ⟨wr.heap.size,0,none⟩=some (.int .i64 c):=cell_grown (by rw[<-d];simp) (by rw[<-d];simp);have B:∀n g,(grow (p.drewN n) g).cell? ⟨wr.heap.size,1,none⟩=some (.int .i64 a):=cell_grown (by rw[<-d];simp) (by rw[<-d];simp)
      have H:∀n g,(grow (p.drewN n) g).cell? ⟨b,u+j*2,none⟩=some (.int .i64 v):=cell_grown (by rw[<-d];show b<_;simp;omega) (by rw[<-d,Below.cell (((Below.refl wr.heap.size wr).alloc (Nat.le_refl _) _)) (by exact P)];exact d0);have I:∀n g,(grow (p.drewN n) g).cell? ⟨b,u+j*2+1,none⟩=some (.int .i64 Q):=cell_grown (by rw[<-d];show b<_;simp;omega) (by rw[<-d,Below.cell (((Below.refl wr.heap.size wr).alloc (Nat.le_refl _) _)) (by exact P)];exact d1)
      have x:Below w.heap.size w p:=by rw[<-d];exact f.alloc f.size _
      clear d c0 c1 d0 d1 h3;have O:=mixed;have S:IntKind.i64.wrap (j:Int)=(j:Int):=by simp[IntKind.wrap,IntKind.bits,IntKind.signed];omega
      have K:(j:Int)<(l:Int):=by omega
      have L:¬(j:Int)<0:=by omega
      go_quiet_grown (first|(go_at_call 180;refine Calls.grown_of (JR c a v Q _ y.1 y.2)))
      go_wp2_with fail;go_ret;exact⟨by rw[h.out,Y0];rfl,below_grow (below_drewN x _) x.size _⟩
     have h:Hid (qI none J=qI (kI J (j+1+1)) (J.drop (j+1+1))):=by
      show _=_;rw[hE.out,HD.out,HQ.out,HP.out];exact Ws _ _ _ m s (by show c<=a;omega) (by show a+1<v;omega)
     clear hE;go_wp2_with (first|(go_at_call_of 157 c;refine(vO c _).mono ?_;rintro e t ⟨rfl,rfl⟩;rw[m])|(go_at_call_of 157 a;refine(vO a _).mono ?_;rintro e t ⟨rfl,rfl⟩;rw[s]));generalize d:wr.alloc (.cells #[.int .i64 c,.int .i64 a] 143)=p;have G:∀n g,(grow (p.drewN n) g).cell? ⟨wr.heap.size,0,none⟩=some (.int .i64 c):=cell_grown (by rw[<-d];simp) (by rw[<-d];simp);have B:∀n g,(grow (p.drewN n) g).cell? ⟨wr.heap.size,1,none⟩=some (.int .i64 a):=cell_grown (by rw[<-d];simp) (by rw[<-d];simp)
     have H:∀n g,(grow (p.drewN n) g).cell? ⟨b,u+j*2,none⟩=some (.int .i64 v):=cell_grown (by rw[<-d];show b<_;simp;omega) (by rw[<-d,Below.cell (((Below.refl wr.heap.size wr).alloc (Nat.le_refl _) _)) (by exact P)];exact d0);have I:∀n g,(grow (p.drewN n) g).cell? ⟨b,u+j*2+1,none⟩=some (.int .i64 Q):=cell_grown (by rw[<-d];show b<_;simp;omega) (by rw[<-d,Below.cell (((Below.refl wr.heap.size wr).alloc (Nat.le_refl _) _)) (by exact P)];exact d1)
     have x:Below w.heap.size w p:=by rw[<-d];exact f.alloc f.size _
     clear d c0 c1 d0 d1 h3;have O:=mixed;have S:IntKind.i64.wrap (j:Int)=(j:Int):=by simp[IntKind.wrap,IntKind.bits,IntKind.signed];omega
     have K:(j:Int)<(l:Int):=by omega
     have L:¬(j:Int)<0:=by omega
     go_quiet_grown (first|(go_at_call 180;refine Calls.grown_of (JR c a v Q _ y.1 y.2)))
     go_wp2_with fail;exact⟨⟨j+1+1,by omega,by go_num,h,below_grow (below_drewN x _) x.size _⟩,by simp[intOf];omega⟩
  obtain rfl:k=l:=by omega
  have B:J.drop k=[]:=List.drop_eq_nil_of_le (by have:=HL.out;omega);have h:Hid (qI none J=0):=by
   show _=_;rw[hE.out,B];cases kI J k<;>rfl
  clear hE B;go_wp2_with fail;go_ret;exact⟨by rw[h.out,XI];rfl,f⟩
theorem ZF(v:Value)(J:List R)(w:World)(h:Row w v J):
  Cl 158 #[v] w (zN (xC J)):=by
 obtain⟨d,c,rfl,i,k,h⟩:=h;unfold xC;by_cases a:12<J.length;rw [if_pos a];exact zc1 d _ c w a i;rw [if_neg a];rcases h with rfl|⟨b,j,rfl,f,g⟩;exact zc2 d c w;exact zc3 b j _ c J w rfl (by omega) f g
def encR(r:R):List Value:=[.int .i64 r.1,.int .i64 r.2]
def flat(J:List R):List Value:=J.flatMap encR
theorem jT(J:List R):(flat J).length=J.length*2:=by
 induction J with
 |nil=>rfl
 |cons r b a=>simp only[flat,List.flatMap_cons,List.length_append]at*;rw[a];simp[encR];omega
theorem xL(a b:List R):flat (a++b)=flat a++flat b:=by simp[flat]
theorem flat_get:∀(J:List R) (j:Nat),j<J.length->(flat J)[j*2]? =some (.int .i64 (at' J j).1)/\(flat J)[j*2+1]? =some (.int .i64 (at' J j).2)
 |[],j,h=>by simp at h
 |r::a,0,_=>by simp[flat,encR,at']
 |r::a,j+1,h=>by
  have i:=flat_get a j (by simpa using h)
  have b:(j+1)*2=j*2+1+1:=by omega
  have c:flat (r::a)=.int .i64 r.1:: .int .i64 r.2::flat a:=rfl
  have d:at' (r::a) (j+1)=at' a j:=by simp[at']
  rw[b,c,d]
  simpa using i
theorem wV:∀u,u∈flat J->u.oneCell'=true:=by
 intro u hu;simp only[flat,List.mem_flatMap]at hu;obtain⟨r,_,h⟩:=hu;simp[encR]at h;rcases h with rfl|rfl<;>rfl
theorem QQ{d:Nat}(h:Cells w b d J)(j:Nat)(u:Value)(hu:(flat J)[j]? =some u):w.cell? ((⟨b,d,none⟩:Addr).add j)=some u:=by
 have f:j<(flat J).length:=(List.getElem?_eq_some_iff.1 hu).1;rw[jT]at f;have a:j/2<J.length:=by omega
 have g:=flat_get J (j/2) a;have c:=h (j/2) a;rcases(show j=j/2*2\/j=j/2*2+1 by omega)with e|e;rw [e]at hu |-;rw[g.1]at hu;rw[Addr.add_lit,<-hu];exact c.1;rw [e]at hu |-;rw[g.2]at hu;rw[Addr.add_lit,<-hu,<-Nat.add_assoc];exact c.2
theorem wX:(Tryz.prog.info? 143).map (λi=>(i.zero,i.size,i.bytes))=some (some (.agg #[.int .i64 0,.int .i64 0]),2,16):=by kernel_rfl
variable {T n:Nat}{K:List Value}
theorem own_lt{g:Nat}(h:w.ownsRow T 143 2 (.slice (some ⟨g,0,none⟩) n a) n K):T<=g/\g<w.heap.size:=h.lt g rfl
theorem QB{g:Nat}(h:w.ownsRow T 143 2 (.slice (some ⟨g,0,none⟩) n a) n (flat J)):Cells w g 0 J:=by
 intro j b;have f:=flat_get J j b;have c0:=h.cells (g:=g) rfl _ _ f.1;have c1:=h.cells (g:=g) rfl _ _ f.2;rw[Addr.add_lit]at c0 c1;exact⟨c0,by rw[<-Nat.add_assoc]at c1;exact c1⟩
theorem Xo{zs:List R}(h:w.ownsRow T 143 2 v n (flat zs)):zs.length=n:=by
 have:=h.1;rw[jT]at this;omega
theorem vY(h:w.ownsRow T 143 2 v n (flat J))(i:J.length<=1000000):Row w v J:=by
 have a:=Xo h;rcases h.2 with⟨rfl,c⟩|⟨g,b,d,rfl,e,f,j⟩;exact ⟨none,0,by rw[a,c],by omega,λ_=>rfl,.inl (List.eq_nil_of_length_eq_zero (by omega))⟩;exact ⟨some ⟨g,0,none⟩,b,by rw[a],by omega,(λx=>by cases x),.inr ⟨g,0,rfl,(own_lt h).2,QB h⟩⟩
theorem own_below{e:Nat}(h:w.ownsRow B e b v n K)(i:Below w.heap.size w E):E.ownsRow B e b v n K:=by
 refine⟨h.1,?_⟩;rcases h.2 with j|⟨g,c,d,rfl,f,a,k⟩;exact .inl j;exact .inr ⟨g,c,d,rfl,f,(i.block g (Array.getElem?_eq_some_iff.1 a).1).trans a,k⟩
theorem jE{e:Nat}(h:w.ownsRow B e b v n K)(i:a<=B):w.ownsRow a e b v n K:=by
 refine⟨h.1,?_⟩;rcases h.2 with j|⟨g,c,d,rfl,f,k⟩;exact .inl j;exact .inr ⟨g,c,d,rfl,Nat.le_trans i f,k⟩
theorem Q9(W:World)(b a:Int):Row (W.alloc (.cells #[.int .i64 b,.int .i64 a] 143)) (.slice (some ⟨W.heap.size,0,none⟩) 1 1) [(b,a)]:=by
 refine⟨some ⟨W.heap.size,0,none⟩,1,rfl,by simp,(λx=>by cases x),.inr ⟨W.heap.size,0,rfl,by simp,λj hj=>?_⟩⟩;have:j=0:=by simp at hj;exact hj
 subst this;simp[at']
theorem ZW{W:Array Oper}{B:List Oper}{o:Oper}{a:Act}{Q:Exit->Act->World->Prop}(p:o.guard=none)(s x:Operand)
  (r:o.op=.call {callee:=.builtin .append,args:=#[s,x],argTypes:=#[88,88]}) (T:Nat) (v:Value) (n:Nat) (i:List Value) (t:a.eval s=v) (f:w.ownsRow T 143 2 v n i)
  (F:Value) (J:List R) (hx:a.eval x=F) (A:Row w F J) (N:n+J.length<=1000000) (m:T<=w.heap.size)
  (h:∀g E,E.ownsRow T 143 2 g (n+J.length) (i++flat J)->Below T w E->wpList Tryz.prog W Q B (a.put o.dst g) E):wpList Tryz.prog W Q (o::B) a w:=by
 obtain⟨y,q,G,H,I⟩:=info_parts wX
 obtain⟨U,c,rfl,M,D,d⟩:=A
 cases U with
 |none=>
  have V:J=[]:=by
   rcases d with d|⟨b,K,d,_⟩;exact d;cases d
  subst V;have k:=D rfl;subst k;refine wpList_append_own_none p s x 88 r T 143 y 2 Tryz.underlying88 q v n i t f hx ?_;refine h v w ?_ (Below.refl _ _);simpa[flat]using f
 |some P=>
  refine wpList_append_own _ p s x 88 r T 143 y _ 2 16 Tryz.underlying88 q G H I rfl (by decide) v n i t f P J.length c (flat J) hx (jT J) ?_ (λu l=>wV u l) (by unfold maxLen;omega) (by omega) m ?_;rcases d with rfl|⟨b,K,d,L,k⟩;intro j u l;simp[flat]at l;cases d;exact QQ k;intro g E z C _;exact h g E z ((Below.refl T w).grown C m (λj e=>(f.lt j e).1))
theorem jQ(n:Int)(w:World):Cs 66 #[.int .i64 n] w (.bool (qC n)):=by
 by_cases a:0<=n
 .by_cases b:n<=1073741823
  .go_enter Tryz.func66,Tryz.ntmps66
   go_wp2;go_ret;exact⟨by rw[(wC n).2 ⟨a,b⟩];rfl,rfl⟩
  go_enter Tryz.func66,Tryz.ntmps66
  go_wp2;go_ret;exact⟨by rw[(X4 n).2 (by omega)];rfl,rfl⟩
 go_enter Tryz.func66,Tryz.ntmps66
 go_wp2;go_ret;exact⟨by rw[(X4 n).2 (by omega)];rfl,rfl⟩
theorem zqi(a:Option Addr)(b c:Nat)(w:World)(h:12<b)(f:b<=9223372036854775807):
  Cl 113 #[.slice a b c] w (.int .i64 4):=by
 have d:(12:Int)<(b:Int):=by omega
 go_enter Tryz.func113,Tryz.ntmps113
 go_wp2_with fail;go_ret;exact⟨rfl,Below.refl _ _⟩
theorem zqj(s:Option Addr)(g Q:Nat)(J:List R)(w:World)(y:J.length=g)(H:g<=12)(B:J=[]\/∃b n,s=some ⟨b,n,none⟩/\b<w.heap.size/\Cells w b n J):
  Cl 113 #[.slice s g Q] w (.int .i64 (qI none J)):=by
 have I:¬(12:Int)<(g:Int):=by omega
 have HL:=zC y;have P:=zC B;clear y B;go_enter Tryz.func113,Tryz.ntmps113
 go_wp2_with fail;go_loopw [3] (λi wr=>∃k:Nat,k<=g/\i=.int .i64 k/\Hid (qI none J=qI (kI J k) (J.drop k))/\Below w.heap.size w wr) (λi _=>g-(intOf i).toNat)
 case atStart=>exact⟨0,Nat.zero_le _,rfl,rfl,Below.refl _ _⟩
 case round=>
  obtain⟨k,L,rfl,hE,hB⟩:=hrel;by_cases M:k<g
  .have A:(k:Int)<(g:Int):=by omega
   have hkl:k<J.length:=by have:=HL.out;omega
   obtain⟨b,n,rfl,u,t⟩:∃b n,s=some ⟨b,n,none⟩/\b<w.heap.size/\Cells w b n J:=by
    rcases P.out with h|h;rw [h]at hkl;simp at hkl;exact h
   have c0:=(t.below u hB k hkl).1
   have c1:=(t.below u hB k hkl).2
   have HD:Hid (J.drop k=at' J k::J.drop (k+1)):=drop_at hkl
   have HP:Hid (kI J (k+1)=some (at' J k).1):=dO J k
   have HK:Hid (0<k->Cells wr b n J):=λ_=>t.below u hB
   clear t
   generalize hr:at' J k=r at c0 c1 HD HP
   obtain⟨c,a⟩:=r
   clear hr hkl
   simp only at c0 c1
   have p:Hid ((qC c=false\/qC a=false)->qI none J=1):=by
    show _->_;intro h;rw[hE.out,HD.out];exact J8 _ _ _ h
   cases f:qC c with
   |false=>
    have d:Hid (qI none J=1):=p.out (.inl f);clear hE p;go_wp2_with (first|(go_at_call_of 66 c;refine(jQ c _).mono ?_;rintro e m ⟨rfl,rfl⟩;rw[f])|(go_at_call_of 66 a;refine(jQ a _).mono ?_;rintro e m ⟨rfl,rfl⟩));go_ret;exact⟨by rw[d.out];rfl,hB⟩
   |true=>
    cases l:qC a with
    |false=>
     have d:Hid (qI none J=1):=p.out (.inr l);clear hE p;go_wp2_with (first|(go_at_call_of 66 c;refine(jQ c _).mono ?_;rintro e m ⟨rfl,rfl⟩;rw[f])|(go_at_call_of 66 a;refine(jQ a _).mono ?_;rintro e m ⟨rfl,rfl⟩;rw[l]));go_ret;exact⟨by rw[d.out];rfl,hB⟩
    |true=>
     have o:=(wC c).1 f;have z:=(wC a).1 l;clear p;by_cases U:a<c
     .have d:Hid (qI none J=3):=by
       show _=_;rw[hE.out,HD.out];exact Wt _ _ _ f l U
      clear hE HK;go_wp2_with (first|(go_at_call_of 66 c;refine(jQ c _).mono ?_;rintro e m ⟨rfl,rfl⟩;rw[f])|(go_at_call_of 66 a;refine(jQ a _).mono ?_;rintro e m ⟨rfl,rfl⟩;rw[l]));go_quiet (fail)
      go_wp2_with fail;go_ret;exact⟨by rw[d.out];rfl,below_drewN hB _⟩
     have K:decide (a<c)=false:=by simp;omega
     by_cases x:k=0
     .subst x;have d:Hid (qI none J=qI (kI J 1) (J.drop 1)):=by
       show _=_;rw[hE.out,HD.out,HP.out];exact Wq _ _ f l (by show c<=a;omega)
      simp only[Nat.zero_mul,Nat.add_zero]at c0 c1;clear hE HK;go_wp2_with (first|(go_at_call_of 66 c;refine(jQ c _).mono ?_;rintro e m ⟨rfl,rfl⟩;rw[f])|(go_at_call_of 66 a;refine(jQ a _).mono ?_;rintro e m ⟨rfl,rfl⟩;rw[l]));go_quiet (fail)
      go_wp2_with fail;exact⟨⟨1,by omega,by go_num,d,below_drewN hB _⟩,by simp[intOf];omega⟩
     have C:(0:Int)<(k:Int):=by omega
     have hkl':k-1<J.length:=by have:=HL.out;omega
     have d0:=(HK.out (by omega) (k-1) hkl').1;have HQ:Hid (kI J k=some (at' J (k-1)).1):=by
      show _=_;unfold kI;rw[if_neg x]
     obtain⟨j,rfl⟩:∃j,k=j+1:=⟨k-1,by omega⟩;simp only[Nat.add_sub_cancel]at d0 HQ;generalize at' J j=q at d0 HQ;obtain⟨F,N⟩:=q;simp only at d0 HQ;have S:IntKind.i64.wrap (j:Int)=(j:Int):=by simp[IntKind.wrap,IntKind.bits,IntKind.signed];omega
     have O:IntKind.i64.wrap (a+1)=a+1:=by simp[IntKind.wrap,IntKind.bits,IntKind.signed];omega
     have D:(j:Int)<(g:Int):=by omega
     have G:¬(j:Int)<0:=by omega
     clear HK hkl';by_cases V:F<=a+1
     .have d:Hid (qI none J=3):=by
       show _=_;rw[hE.out,HD.out,HQ.out];exact Wu _ _ _ f l V
      clear hE;go_wp2_with (first|(go_at_call_of 66 c;refine(jQ c _).mono ?_;rintro e m ⟨rfl,rfl⟩;rw[f])|(go_at_call_of 66 a;refine(jQ a _).mono ?_;rintro e m ⟨rfl,rfl⟩;rw[l]));go_quiet (fail)
      go_wp2_with fail;go_ret;exact⟨by rw[d.out];rfl,below_drewN hB _⟩
     have d:Hid (qI none J=qI (kI J (j+1+1)) (J.drop (j+1+1))):=by
      show _=_;rw[hE.out,HD.out,HQ.out,HP.out];exact Ws _ _ _ f l (by show c<=a;omega) (by show a+1<F;omega)
     clear hE;go_wp2_with (first|(go_at_call_of 66 c;refine(jQ c _).mono ?_;rintro e m ⟨rfl,rfl⟩;rw[f])|(go_at_call_of 66 a;refine(jQ a _).mono ?_;rintro e m ⟨rfl,rfl⟩;rw[l]));go_quiet (fail)
     go_wp2_with fail;exact⟨⟨j+1+1,by omega,by go_num,d,below_drewN hB _⟩,by simp[intOf];omega⟩
  obtain rfl:k=g:=by omega
  have v:J.drop k=[]:=List.drop_eq_nil_of_le (by have:=HL.out;omega);have d:Hid (qI none J=0):=by
   show _=_;rw[hE.out,v];cases kI J k<;>rfl
  clear hE v;go_wp2_with fail;go_ret;exact⟨by rw[d.out];rfl,hB⟩
theorem zqh(v:Value)(J:List R)(w:World)(h:Row w v J):
  Cl 113 #[v] w (.int .i64 (xC J)):=by
 obtain⟨b,c,rfl,d,f,h⟩:=h;unfold xC;by_cases a:12<J.length;rw [if_pos a];exact zqi b _ c w a d;rw [if_neg a];exact zqj b _ c J w rfl (by omega) h
end Go.Proofs.YtdokgalidhmbbaaGreatDoor
namespace Go.Proofs.YtdokgalidhmbbaaGreatDoor.Lx
open Go.RowKit Go.Lib Go.Sort
theorem zps(g:Option Addr)(a x:Nat)(J:List R)(n:Int)(w:World)(t:J.length=a)(U:a<=9223372036854775807)(u:J=[]\/∃b c,g=some ⟨b,c,none⟩/\b<w.heap.size/\Cells w b c J):
  Cl 60 #[.slice g a x,.int .i64 n] w (.bool (xD J n)):=by
 have HL:=zC t;have v:=zC u;clear t u;go_enter Tryz.func60,Tryz.ntmps60
 go_wp2_with fail;go_loopw [5] (λi F=>∃k:Nat,k<=a/\i=.int .i64 k/\Hid (xD J n=xD (J.drop k) n)/\Below w.heap.size w F) (λi _=>a-(intOf i).toNat)
 case atStart=>exact⟨0,Nat.zero_le _,rfl,rfl,Below.refl _ _⟩
 case round=>
  obtain⟨k,Q,rfl,j,f⟩:=hrel;by_cases V:k<a
  .have P:(k:Int)<(a:Int):=by omega
   have hkl:k<J.length:=by have:=HL.out;omega
   obtain⟨b,c,rfl,s,l⟩:∃b c,g=some ⟨b,c,none⟩/\b<w.heap.size/\Cells w b c J:=by
    rcases v.out with h|h;rw [h]at hkl;simp at hkl;exact h
   have c0:=(l.below s f k hkl).1;have c1:=(l.below s f k hkl).2;have HD:Hid (xD J n=(kW (at' J k) n ||xD (J.drop (k+1)) n)):=by
    show _=_;rw[j.out,drop_at hkl];rfl
   clear l hkl j;generalize at' J k=r at c0 c1 HD;obtain⟨p,m⟩:=r;simp only at c0 c1;by_cases y:p<=n
   .by_cases B:n<=m
    .have d:Hid (xD J n=true):=by
      show _=_;rw[HD.out];simp[kW,y,B]
     clear HD;go_wp2_with fail;go_ret;exact⟨by rw[d.out];rfl,f⟩
    have d:Hid (xD J n=xD (J.drop (k+1)) n):=by
     show _=_;rw[HD.out,show kW (p,m) n=false by simp[kW];omega];rfl
    clear HD;go_wp2_with fail;exact⟨⟨k+1,by omega,by go_num,d,f⟩,by simp[intOf];omega⟩
   have d:Hid (xD J n=xD (J.drop (k+1)) n):=by
    show _=_;rw[HD.out,show kW (p,m) n=false by simp[kW];omega];rfl
   clear HD;go_wp2_with fail;exact⟨⟨k+1,by omega,by go_num,d,f⟩,by simp[intOf];omega⟩
  obtain rfl:k=a:=by omega
  have q:J.drop k=[]:=List.drop_eq_nil_of_le (by have:=HL.out;omega);have d:Hid (xD J n=false):=by
   show _=_;rw[j.out,q];rfl
  clear j q;go_wp2_with fail;go_ret;exact⟨by rw[d.out];rfl,f⟩
theorem fD(v:Value)(J:List R)(n:Int)(w:World)(h:Row w v J):
  Cl 60 #[v,.int .i64 n] w (.bool (xD J n)):=by
 obtain⟨a,c,rfl,b,d,h⟩:=h;exact zps a _ c J n w rfl b h
end Go.Proofs.YtdokgalidhmbbaaGreatDoor.Lx
namespace Go.Proofs.YtdokgalidhmbbaaGreatDoor
open Go.RowKit Go.Lib Go.Sort
structure Off(K:Nat->Prop)(w w':World):Prop where
 os:w'.os=w.os
 tape:w'.tape=w.tape
 output:w'.output=w.output
 size:w.heap.size<=w'.heap.size
 block:∀k,k<w.heap.size->¬K k->w'.heap[k]? =w.heap[k]?
theorem Off.refl(K:Nat->Prop)(w:World):Off K w w:=⟨rfl,rfl,rfl,Nat.le_refl _,λ_ _ _=>rfl⟩
variable {K:Nat->Prop}
theorem Off.trans{a b c:World}(h:Off K a b)(k:Off K b c):Off K a c:=
 ⟨k.os.trans h.os,k.tape.trans h.tape,k.output.trans h.output,Nat.le_trans h.size k.size,λi d e=>(k.block i (Nat.lt_of_lt_of_le d h.size) e).trans (h.block i d e)⟩
variable {w E:World}
theorem Off.mono{a:Nat->Prop}(h:Off K w E)(c:∀k,k<w.heap.size->K k->a k):Off a w E:=⟨h.os,h.tape,h.output,h.size,λk b d=>h.block k b (λe=>d (c k b e))⟩
theorem Off.of_below(h:Below w.heap.size w E):Off K w E:=⟨h.os,h.tape,h.output,h.size,λk a _=>h.block k a⟩
theorem Off.below{B:Nat}(h:Off K w E)(a:∀k,K k->B<=k)(b:B<=w.heap.size):Below B w E:=
 ⟨h.os,h.tape,h.output,h.size,λk c=>h.block k (by omega) (λe=>by have:=a k e;omega)⟩
theorem Off.of_grown{a:Option Nat}(h:w.grownBy E a)(b:∀k,a=some k->K k):Off K w E:=
 ⟨h.os,h.tape,h.output,h.size,λk c d=>h.block k c (λe=>d (b k e.symm))⟩
theorem Off.setCell(h:Off K w E){a:Addr}(b:K a.block)(u:Value):Off K w (E.setCell a u):=
 h.trans ⟨rfl,rfl,rfl,by simp[World.setCell],λk _ c=>Below.heap_setCell _ _ _ _ (λe=>c (e ▸ b))⟩
theorem Off.alloc(h:Off K w E)(o:Go.Obj):Off K w (E.alloc o):=h.trans (Off.of_below ((Below.refl _ _).alloc (Nat.le_refl _) _))
theorem Off.drew(h:Off K w E):Off K w E.drew:=⟨h.os,h.tape,h.output,h.size,h.block⟩
theorem Off.cell(h:Off K w E){p:Addr}{v:Value}(a:w.cell? p=some v)(b:¬K p.block):E.cell? p=some v:=
 (World.cell?_of_block (h.block p.block (World.block_lt_of_cell? w p a) b)).trans a
theorem Off.frozen(h:Off K w E){p:Addr}(a:p.block<w.heap.size)(b:¬K p.block):E.frozen? p=w.frozen? p:=
 World.frozen?_of_block (h.block p.block a b)
theorem jm:zN 0=.nilIface:=rfl
theorem qj{f:Int}(h:f≠0):zN f=.iface 133 (.int .i64 f):=if_neg h
theorem zD{α:Type}(l:List α)(i:Nat)(a:α):l.toArray.setIfInBounds i a=(l.set i a).toArray:=List.setIfInBounds_toArray l i a
theorem zF{α:Type}{x:α}{xs:List α}{a:α}:(x::xs).set 0 a=a::xs:=rfl
theorem zG{α:Type}{x:α}{xs:List α}{i:Nat}{a:α}:(x::xs).set (i+1) a=x::xs.set i a:=rfl
end Go.Proofs.YtdokgalidhmbbaaGreatDoor
