/- What the law RunAnswers needs. -/
import Derived.Test.YtdokgalidhmbbaaGreatDoorHLK
import Derived.Test.YtdokgalidhmbbaaGreatDoorHEA
import Derived.Laws.ResultCell
import Derived.Lib.SliceRun
set_option linter.unusedVariables false
set_option linter.unusedSimpArgs false
set_option maxRecDepth 100000
set_option maxHeartbeats 8000000
namespace Go.Proofs.YtdokgalidhmbbaaGreatDoor.Lk
open Go.RowKit Go.Lib Go.Sort
theorem mixed:Tryz.prog.follows .mixedOrders=true:=by kernel_rfl
def Cells(w:World)(b a:Nat)(J:List LR):Prop:=∀j,j<J.length->w.cell? ⟨b,a+j*2,none⟩=some (.int .i64 (at' J j).1)/\w.cell? ⟨b,a+j*2+1,none⟩=some (.string (at' J j).2)
variable {w E:World}{b a:Nat}{J:List LR}
theorem Cells.below(h:Cells w b a J)(d:b<w.heap.size)(c:Below w.heap.size w E):Cells E b a J:=λj e=>
 ⟨(c.cell (p:=⟨b,a+j*2,none⟩) d).trans (h j e).1,(c.cell (p:=⟨b,a+j*2+1,none⟩) d).trans (h j e).2⟩
def encR(x:LR):List Value:=[.int .i64 x.1,.string x.2]
def flat(J:List LR):List Value:=J.flatMap encR
theorem jT(J:List LR):(flat J).length=J.length*2:=by
 induction J with
 |nil=>rfl
 |cons r b a=>simp only[flat,List.flatMap_cons,List.length_append]at*;rw[a];simp[encR];omega
theorem xL(a b:List LR):flat (a++b)=flat a++flat b:=by simp[flat]
theorem flat_get:∀(J:List LR) (j:Nat),j<J.length->(flat J)[j*2]? =some (.int .i64 (at' J j).1)/\(flat J)[j*2+1]? =some (.string (at' J j).2)
 |[],j,h=>by simp at h
 |r::a,0,_=>by simp[flat,encR,at']
 |r::a,j+1,h=>by
  have i:=flat_get a j (by simpa using h)
  have b:(j+1)*2=j*2+1+1:=by omega
  have c:flat (r::a)=.int .i64 r.1:: .string r.2::flat a:=rfl
  have d:at' (r::a) (j+1)=at' a j:=by simp[at']
  rw[b,c,d]
  simpa using i
theorem wV:∀u,u∈flat J->u.oneCell'=true:=by
 intro u hu;simp only[flat,List.mem_flatMap]at hu;obtain⟨r,_,h⟩:=hu;simp[encR]at h;rcases h with rfl|rfl<;>rfl
theorem zgf{G:List LR}(j:Nat)(i:Nat)(u:Value)(h:(flat (G.take j))[i]? =some u):(flat G)[i]? =some u:=by
 have a:=(List.getElem?_eq_some_iff.1 h).1;rw[<-List.take_append_drop j G,xL,List.getElem?_append_left a];exact h
theorem zgd{G:List LR}{j:Nat}(b:j<=G.length)(i:Nat)(u:Value)(h:(flat (G.drop j))[i]? =some u):(flat G)[j*2+i]? =some u:=by
 have e:flat G=flat (G.take j)++flat (G.drop j):=by rw[<-xL,List.take_append_drop]
 have a:(flat (G.take j)).length=j*2:=by rw[jT,List.length_take];omega
 rw[e,List.getElem?_append_right (by omega),a,Nat.add_sub_cancel_left];exact h
theorem QQ{d:Nat}(h:Cells w b d J)(j:Nat)(u:Value)(hu:(flat J)[j]? =some u):w.cell? ((⟨b,d,none⟩:Addr).add j)=some u:=by
 have f:j<(flat J).length:=(List.getElem?_eq_some_iff.1 hu).1;rw[jT]at f;have a:j/2<J.length:=by omega
 have g:=flat_get J (j/2) a;have c:=h (j/2) a;rcases(show j=j/2*2\/j=j/2*2+1 by omega)with e|e;rw [e]at hu |-;rw[g.1]at hu;rw[Addr.add_lit,<-hu];exact c.1;rw [e]at hu |-;rw[g.2]at hu;rw[Addr.add_lit,<-hu,<-Nat.add_assoc];exact c.2
theorem wX:(Tryz.prog.info? 212).map (λi=>(i.zero,i.size,i.bytes))=some (some (.agg #[.int .i64 0,.string ⟨#[]⟩]),2,24):=by kernel_rfl
theorem XY:(Tryz.prog.info? 60).map (λi=>(i.zero,i.size,i.bytes))=some (some (.agg #[.int .i64 0,.string ⟨#[]⟩]),2,24):=by kernel_rfl
variable {n:Nat}
theorem QB{T g m:Nat}(h:w.ownsRow a T 2 (.slice (some ⟨g,0,none⟩) m b) n (flat J)):Cells w g 0 J:=by
 intro j c;have f:=flat_get J j c;have c0:=h.cells (g:=g) rfl _ _ f.1;have c1:=h.cells (g:=g) rfl _ _ f.2;rw[Addr.add_lit]at c0 c1;exact⟨c0,by rw[<-Nat.add_assoc]at c1;exact c1⟩
variable {B e:Nat}{v:Value}{K:List Value}
theorem jE(h:w.ownsRow B e b v n K)(i:a<=B):w.ownsRow a e b v n K:=by
 refine⟨h.1,?_⟩;rcases h.2 with j|⟨g,c,d,rfl,f,k⟩;exact .inl j;exact .inr ⟨g,c,d,rfl,Nat.le_trans i f,k⟩
theorem below_drewN{a:World}(h:Below B a w)(q:Nat):Below B a (w.drewN q):=⟨h.os,h.tape,h.output,h.size,h.block⟩
theorem wh(h:w.ownsRow B e b v n K)(d:0<n):∃g a,v=.slice (some ⟨g,0,none⟩) n a:=by
 rcases h.2 with⟨_,e⟩|⟨g,a,c,e,_⟩;.omega
 exact ⟨g,a,e⟩
theorem Ku{c:Nat}(h:w.ownsRow B e c v n K):∃a b,v=.slice a n b:=by
 rcases h.2 with⟨rfl,e⟩|⟨g,b,d,rfl,_⟩;exact ⟨none,0,by rw[e]⟩;exact ⟨_,_,rfl⟩
theorem bM{K:Nat->Prop}(h:Off K w E){a:Addr}(d:w.heap.size<=a.block)(u:Value):Off K w (E.setCell a u):=
 ⟨h.os,h.tape,h.output,by simpa using h.size,λk b c=>(Below.heap_setCell _ _ _ _ (by omega)).trans (h.block k b c)⟩
theorem Kr{K:Nat->Prop}{g:Nat}(c:K g){w:World}:∀(b:List Value) (o:Nat) {E:World},Off K w E->Off K w (E.setCells g o b)
 |[],o,E,h=>h
 |v::b,o,E,h=>Kr c b (o+1) (h.setCell (a:=⟨g,o,none⟩) c v)
theorem XA(w:World)(q:Int)(n:ByteArray)(t:TypeId):∀j u,(flat [(q,n)])[j]? =some u->(w.alloc (.cells #[.int .i64 q,.string n] t)).cell? ((⟨w.heap.size,0,none⟩:Addr).add j)=some u:=by
 intro j u hj
 match j,hj with
 |0,hj=>simp[flat,encR]at hj;subst hj;simp[Addr.add]
 |1,hj=>simp[flat,encR]at hj;subst hj;simp[Addr.add]
 |j+2,hj=>simp[flat,encR]at hj
theorem vR{P:Program}{W:Array Oper}{o:Oper}{a:Act}{K:Act->World->Prop}{Q:Exit->Act->World->Prop}{E:Prop}
  (I:o.guard=none) (s x:Operand) (t:TypeId) (L:o.op=Op.call {callee:=Callee.builtin Builtin.append,args:=#[s,x],argTypes:=#[t,t]})
  (T:Nat) (e:TypeId) (i:TypeInfo) (z:Value) (b k:Nat) (r:P.underlying t=some (.slice e)) (B:P.info? e=some i) (F:i.zero=some z) (U:i.size=b) (V:i.bytes=k) (A:z.cells.size=b) (C:0<b)
  (v:Value) (n:Nat) (l:List Value) (O:a.eval s=v) (M:w.ownsRow T e b v n l)
  (h:Addr) (m c:Nat) (f:List Value) (S:a.eval x=.slice (some h) m c) (J:f.length=m*b) (H:∀j u,f[j]? =some u->w.cell? (h.add j)=some u) (y:∀u∈f,u.oneCell'=true)
  (p:n+m<=maxLen) (q:(n+m)*k<=140737488355328) (G:T<=w.heap.size)
  (D:∀d g,g.ownsRow T e b d (n+m) (l++f)->w.grownBy g v.ownBlock->(d.ownBlock=v.ownBlock\/d.ownBlock=some w.heap.size)->K (a.put o.dst d) g):
  if Region.wanted o (yielded W a.tmps)=true then Oper.wp P o a w K Q else E:=by
 have R:Region.wanted o (yielded W a.tmps)=true:=by simp[Region.wanted,I]
 rw[if_pos R];obtain⟨d,g,N,X,Y,_,Z⟩:=run_append_own_at (P:=P) w T t o.type e i z b k r B F U V A C v n l M h m c f J H y p q G;unfold Oper.wp;simp[execOp,L,resolve,invoke,builtin,O,S,N,Result.andThen];exact D d g X Y Z
theorem Qw{i:Nat}(h:E.heap[b]? =w.heap[b]?):E.cell? ⟨b,i,none⟩=w.cell? ⟨b,i,none⟩:=by unfold World.cell?;rw[h]
def own(z:Nat)(v:Value)(k:Nat):Prop:=k=z\/v.ownBlock=some k
structure Lnk(Q:Nat->Option Value)(w:World)(T o B sb:Nat)(v:Value)(ls:List LR):Prop where
 inv:Inv ls
 c:w.cell? ⟨sb,o,none⟩=some v
 f:w.frozen? ⟨sb,o,none⟩=false
 row:w.ownsRow B T 2 v ls.length (flat ls)
 hs:B<=sb
 nv:∀k,v.ownBlock=some k->k≠sb
 rs:∀i,i≠o->w.cell? ⟨sb,i,none⟩=Q i
 rf:∀i,w.frozen? ⟨sb,i,none⟩=false
section
variable {Q : Nat -> Option Value}
variable {w w' w2 : World} {T o B sb : Nat} {v v' : Value} {ls ls' : List LR}
theorem Lnk.lt(h:Lnk Q w T o B sb v ls){k:Nat}(a:own sb v k):k<w.heap.size:=by
 rcases a with rfl|a;exact World.block_lt_of_cell? w _ h.c;exact (h.row.lt k a).2
theorem Lnk.ge(h:Lnk Q w T o B sb v ls){k:Nat}(a:own sb v k):B<=k:=by
 rcases a with rfl|a;exact h.hs;exact (h.row.lt k a).1
theorem Lnk.le(h:Lnk Q w T o B sb v ls):B<=w.heap.size:=by have:=h.hs;have:=h.lt (k:=sb) (.inl rfl);omega
theorem Lnk.off{K:Nat->Prop}(h:Lnk Q w T o B sb v ls)(a:Off K w w')(c:∀k,own sb v k->¬K k):Lnk Q w' T o B sb v ls:=
 have b:=c sb (.inl rfl)
 ⟨h.inv,a.cell h.c b,(a.frozen (p:=⟨sb,o,none⟩) (h.lt (.inl rfl)) b).trans h.f,a.row h.row (λk e=>c k (.inr e)),h.hs,h.nv,λi d=>(Qw (a.block sb (h.lt (.inl rfl)) b)).trans (h.rs i d),λi=>(a.frozen (p:=⟨sb,i,none⟩) (h.lt (.inl rfl)) b).trans (h.rf i)⟩
theorem Lnk.below(h:Lnk Q w T o B sb v ls)(a:Below w.heap.size w w'):Lnk Q w' T o B sb v ls:=h.off (Off.of_below (K:=λ_=>False) a) (λ_ _=>id)
theorem Lnk.shape(h:Lnk Q w T o B sb v ls):∃a c,v=.slice a ls.length c:=Ku h.row
theorem Lnk.put(h:Lnk Q w T o B sb v ls)(a:Off (λk=>v.ownBlock=some k) w w2)(j:w2.ownsRow B T 2 v' ls'.length (flat ls'))(l:∀k,v'.ownBlock=some k->v.ownBlock=some k\/w.heap.size<=k)(m:Inv ls'):Lnk Q (w2.setCell ⟨sb,o,none⟩ v') T o B sb v' ls':=by
 have d:=h.lt (k:=sb) (.inl rfl);have b:¬v.ownBlock=some sb:=λe=>h.nv sb e rfl;have g:∀k,v'.ownBlock=some k->k≠sb:=λk c=>by
  rcases l k c with e|e;exact h.nv k e;.omega
 have n:Off (λk=>k=sb) w2 (w2.setCell ⟨sb,o,none⟩ v'):=(Off.refl _ _).setCell (K:=λk=>k=sb) rfl _;refine⟨m,?_,?_,n.row j (λk c=>g k c),h.hs,g,λi f=>?_,λi=>?_⟩;exact World.cell?_setCell_same _ _ _ (a.cell h.c b);rw [World.frozen?_setCell];exact(a.frozen (p:=⟨sb,o,none⟩) d b).trans h.f;rw [World.cell?_setCell_other _ _ _ _ (λe'=>by injection e' with _ e' _;exact f e'.symm)];exact(Qw (a.block sb d b)).trans (h.rs i f)
 rw [World.frozen?_setCell];exact(a.frozen (p:=⟨sb,i,none⟩) d b).trans (h.rf i)
theorem Lnk.rows{n b:Nat}{a:Option Addr}(h:Lnk Q w T o B sb (.slice a n b) ls)(j:0<ls.length):∃g c,a=some ⟨g,0,none⟩/\n=ls.length/\B<=g/\g<w.heap.size/\g≠sb/\w.heap[g]? =some (.cells c T (0,0))/\ls.length<=b/\b<=maxLen/\c.size=b*2/\Cells w g 0 ls:=by
 have hrow:=h.row;rcases h.row.2 with⟨_,e⟩|⟨g,i,c,e,f,d,h3,h4,h5,_⟩;.omega
 injection e with e1 e2 e3;subst e1;subst e2;subst e3;exact⟨g,c,rfl,rfl,f,(Array.getElem?_eq_some_iff.1 d).1,h.nv g rfl,d,h3,h4,h5,QB hrow⟩
end
def Turn(Q:Nat->Option Value)(w E:World)(T o B z:Nat)(v:Value)(G:List LR):Prop:=∃a,Lnk Q E T o B z a G/\Off (own z v) w E/\∀k,a.ownBlock=some k->v.ownBlock=some k\/w.heap.size<=k
variable {Q : Nat -> Option Value}
variable {w:World}{T o B z:Nat}{v:Value}{G:List LR}
theorem Turn.same(h:Lnk Q w T o B z v G):Turn Q w w T o B z v G:=⟨v,h,Off.refl _ _,λk a=>.inl a⟩
variable {E:World}
theorem Turn.below(h:Lnk Q w T o B z v G)(a:Below w.heap.size w E):Turn Q w E T o B z v G:=⟨v,h.below a,Off.of_below a,λk b=>.inl b⟩
theorem Turn.more{b:World}(h:Turn Q w E T o B z v G)(a:Below E.heap.size E b):Turn Q w b T o B z v G:=by
 obtain⟨f,c,d,e⟩:=h;exact⟨f,c.below a,d.trans (Off.of_below a),e⟩
theorem X3(n:Int)(w:World):Cs 122 #[.int .i64 n] w (.bool (qN n)):=by
 by_cases a:n=0
 .subst a;go_enter Tryz.func122,Tryz.ntmps122
  go_wp2;go_ret;exact⟨rfl,rfl⟩
 go_enter Tryz.func122,Tryz.ntmps122
 go_wp2;go_ret;exact⟨by by_cases b:n=1<;>simp[qN,a,b],rfl⟩
theorem QD(h:Lnk Q w 212 502 B z v G):Cs 97 #[.pointer (some ⟨z,502,none⟩)] w (.int .i64 (G.length:Int)):=by
 obtain⟨a,c,rfl⟩:=h.shape;have b:=h.c;clear h;generalize G.length=m at*;go_enter Tryz.func97,Tryz.ntmps97
 go_wp2;go_ret;exact⟨rfl,rfl⟩
theorem X5(h:Lnk Q w 212 502 B z v G)(i:Int):Cs 129 #[.pointer (some ⟨z,502,none⟩),.int .i64 i] w (.bool (qa G i)):=by
 obtain⟨a,c,rfl⟩:=h.shape;have d:=h.c;have e:Hid (qa G i=decide (0<=i/\i<(G.length:Int))):=rfl;clear h;generalize G.length=m at*;by_cases b:0<=i
 .go_enter Tryz.func129,Tryz.ntmps129
  go_wp2;go_ret;exact⟨by rw[e.out];simp[b],rfl⟩
 go_enter Tryz.func129,Tryz.ntmps129
 go_wp2;go_ret;exact⟨by rw[e.out];simp;omega,rfl⟩
theorem vS{d:ByteArray}(h:d.size=0):d={data:=#[]}:=by
 obtain⟨⟨l⟩⟩:=d
 cases l with
 |nil=>rfl
 |cons b l=>exact absurd h (by show l.length+1≠0;omega)
theorem Z5:(Tryz.prog.info? 5).map (λi=>(i.zero,i.size,i.bytes))=some (some (.int .u8 0),1,1):=by kernel_rfl
theorem Jc(s:ByteArray)(w:World)(z:s.size<=200):Cl 149 #[.string s] w (.string s):=by
 by_cases f:s.size=0
 .obtain rfl:=vS f;go_enter Tryz.func149,Tryz.ntmps149
  go_wp2;go_ret;exact⟨rfl,Below.refl _ _⟩
 obtain ⟨l,c,B,d,F⟩:=info_parts Z5;have u:(Tryz.prog.info? 5).map (·.size)=some 1:=by rw[c];simp[d]
 have r:Tryz.prog.cellsOf 5=1:=by simp[Program.cellsOf,c,d]
 -- the row that make lays,by a name of its own
 obtain⟨M,a⟩:∃M,M=madeCells (Value.int .u8 0).cells (((s.size:Nat):Int).toNat*l.size):=⟨_,rfl⟩;have Q:M.size=s.size:=by rw[a,size_madeCells,d];simp
 have o:∀W:World,(Instr.makeSlice 37 (.int .i64 (s.size:Int)) (.int .i64 (s.size:Int))).run Tryz.prog W=.ok (.slice (some ⟨W.heap.size,0,none⟩) s.size s.size) (W.alloc (.cells M 5)):=λW=>by
  have h:=run_make (P:=Tryz.prog) W 37 5 l (.int .u8 0) Tryz.underlying37 c B .i64 .i64 (s.size:Int) (s.size:Int) (by omega) (by omega) (by rw[F];omega) (by omega);rw[<-a]at h;simpa using h
 clear a;have t:=Lib.run_copy_row_string (P:=Tryz.prog) (w.alloc (.cells M 5)) 37 9 3 5 w.heap.size 0 s.size s.size s M 5 Tryz.underlying37 u (heap_alloc_new w _) (Nat.le_refl _) (by omega);obtain⟨Y,b⟩:∃Y,Y=(M.toList.take 0++Lib.byteCells s.data.toList++M.toList.drop (0+s.size)).toArray:=⟨_,rfl⟩;rw[<-b]at t;have g:Y.toList=Lib.byteCells s.data.toList:=by
  rw[b,List.toList_toArray,List.take_zero,List.nil_append,List.drop_of_length_le (by rw[Array.length_toList];omega),List.append_nil]
 have i:((w.alloc (.cells M 5)).setRow w.heap.size Y).heap[w.heap.size]? =some (.cells Y 5 (0,0)):=setRow_heap _ _ M _ 5 (0,0) (heap_alloc_new w _);have v:s.data.toList≠ []:=λe=>f (by rw[Lib.size_eq,e];rfl);have U:Y.size=s.size:=by rw[<-Array.length_toList,g,Lib.byteCells_length,<-Lib.size_eq]
 have m:=Lib.run_unsafeString_row (P:=Tryz.prog) ((w.alloc (.cells M 5)).setRow w.heap.size Y) 80 3 9 5 Tryz.underlying80 r w.heap.size Y.size (by unfold World.shape?;rw[i]) s.data.toList v (by rw[<-Lib.size_eq];omega) (by rw[<-Lib.size_eq];omega)
  (λj x y=>Lib.cells_of_row i Y.size j _ (by rw[List.take_of_length_le (by rw[Array.length_toList];exact Nat.le_refl _),g];simp[Lib.byteCells,y]))
 rw[<-Lib.size_eq]at m;clear b;go_enter Tryz.func149,Tryz.ntmps149
 go_wp2;go_ret;have n:Below w.heap.size w (w.alloc (.cells M 5)):=(Below.refl _ w).alloc (Nat.le_refl _) _;have q:Below w.heap.size (w.alloc (.cells M 5)) ((w.alloc (.cells M 5)).setRow w.heap.size Y):=⟨rfl,rfl,rfl,by simp,λk V=>setRow_other _ _ _ _ (by omega)⟩;exact⟨rfl,Lib.below_freeze (n.trans q) (p:=⟨w.heap.size,0,none⟩) (Nat.le_refl _) _⟩
theorem Jb(s:ByteArray)(w:World)(a:s.size<=200):Cl 123 #[.string s] w (.string s):=by
 have b:=Jc s w a;clear a;go_enter Tryz.func123,Tryz.ntmps123
 go_wp2_with (go_at_call 149;refine b.mono ?_;rintro e E ⟨rfl,c⟩);go_ret;exact⟨rfl,c⟩
variable {g:Nat}
theorem zro(h:Lnk Q w 212 502 B g v G)(d:Int)(b:ByteArray)(l:b.size<=140737488351232)(i:qN d=false):Cs 98 #[.pointer (some ⟨g,502,none⟩),.int .i64 d,.string b] w (.iface 133 (.int .i64 1)):=by
 obtain⟨a,c,rfl⟩:=h.shape;have k:=h.c;clear h;generalize G.length=m at*;generalize n:b.size=z at*;go_enter Tryz.func98,Tryz.ntmps98
 go_wp2_with (go_at_call 122;refine(X3 d _).mono ?_;rintro e j ⟨rfl,f⟩;rw[i,f];clear f j);go_ret;exact⟨rfl,rfl⟩
theorem zrm(h:Lnk Q w 212 502 B g v G)(d:Int)(b:ByteArray)(n:b.size<=140737488351232)(i:qN d=true)(l:40<=(G.length:Int)):Cs 98 #[.pointer (some ⟨g,502,none⟩),.int .i64 d,.string b] w (.iface 133 (.int .i64 4)):=by
 obtain⟨a,c,rfl⟩:=h.shape;have k:=h.c;clear h;generalize G.length=m at*;generalize p:b.size=z at*;go_enter Tryz.func98,Tryz.ntmps98
 go_wp2_with (go_at_call 122;refine(X3 d _).mono ?_;rintro e j ⟨rfl,f⟩;rw[i,f];clear f j);go_ret;exact⟨rfl,rfl⟩
theorem zrn(h:Lnk Q w 212 502 B g v G)(d:Int)(b:ByteArray)(p:b.size<=140737488351232)(i:qN d=true)(l:(G.length:Int)<40)(n:200<(b.size:Int)):Cs 98 #[.pointer (some ⟨g,502,none⟩),.int .i64 d,.string b] w (.iface 133 (.int .i64 4)):=by
 obtain⟨a,c,rfl⟩:=h.shape;have k:=h.c;clear h;generalize G.length=m at*;generalize q:b.size=z at*;go_enter Tryz.func98,Tryz.ntmps98
 go_wp2_with (go_at_call 122;refine(X3 d _).mono ?_;rintro e j ⟨rfl,f⟩;rw[i,f];clear f j);go_ret;exact⟨rfl,rfl⟩
theorem zrq(h:Lnk Q w 212 502 B z v G)(d:Int)(b:ByteArray)(hb:b.size<=140737488351232)(P:qN d=true)(j:G.length<40)(l:b.size<=200):Calls Tryz.prog 98 #[.pointer (some ⟨z,502,none⟩),.int .i64 d,.string b] w λe E=>e=.returned .nilIface/\Turn Q w E 212 502 B z v (G++[(d,b)]):=by
 obtain⟨a,c,rfl⟩:=h.shape;have W:=h.c;have a0:=h.lt (k:=z) (.inl rfl);have g1:(G.length:Int)<40:=by omega
 have g2:¬(200:Int)<(b.size:Int):=by omega
 have C:Hid (Inv (G++[(d,b)])):=h.inv.add P j l;have D:Hid ((G++[(d,b)]).length=G.length+1):=by show(G++[(d,b)]).length=G.length+1;simp
 have o:Hid (flat (G++[(d,b)])=flat G++flat [(d,b)]):=xL _ _;have A:=Jb b w.drew l;have r:Hid (Lnk Q w 212 502 B z (.slice a G.length c) G):=h;have q:=zC j;clear h j l;obtain⟨S,J,N,O,R⟩:=info_parts wX;go_enter Tryz.func98,Tryz.ntmps98
 go_wp2_with (go_at_call 122;refine(X3 d _).mono ?_;rintro e f ⟨rfl,U⟩;rw[P,U];clear U f);go_region_law (first|(refine vR rfl (.tmp 27) (.tmp 32) 91 rfl B 212 S _ 2 24 Tryz.underlying91 J N O R rfl (by decide) (.slice a G.length c) G.length (flat G) (by simp[Act.eval,Act.put]) L ⟨f.heap.size,0,none⟩ 1 1 (flat [(d,b)]) (by simp[Act.eval,Act.put]) rfl (XA f _ _ _) (λu M=>wV u M) (by have:=q.out;unfold maxLen;omega) (by have:=q.out;omega) g.le ?_;intro v' T ho3 I hl3;obtain⟨t,s,rfl⟩:=wh ho3 (by omega);have n:=Off.of_grown (K:=λk=>(Value.slice a G.length c).ownBlock=some k) I (λk e=>e);have Z:=n.cell g.c (λe=>g.nv z e rfl);have df:=(n.frozen (p:=⟨z,502,none⟩) (g.lt (.inl rfl)) (λe=>g.nv z e rfl)).trans g.f)|(go_simp;go_wp2_with (go_at_call 123;refine A.mono ?_;rintro e f ⟨rfl,H⟩;have m:Below w.heap.size w f:=(Below.refl _ w).drew.trans H;have x:=r.out.below m;have X:=x.c;have i:Below f.heap.size f (f.alloc (.cells #[.int .i64 d,.string b] 212)):=(Below.refl _ _).alloc (Nat.le_refl _) _;have g:=x.below i;have Y:=g.c;have L:=g.row)))
 all_goals (try go_wp2_with fail)
 all_goals go_ret
 all_goals
  have V:Off (λk=>(Value.slice a G.length c).ownBlock=some k) w T:=((Off.of_below m).trans (Off.of_below i)).trans n
  have F:∀k,(Value.slice (some ⟨t,0,none⟩) (G.length+1) s).ownBlock=some k->(Value.slice a G.length c).ownBlock=some k\/w.heap.size<=k:=λk y=>by
   rcases hl3 with e|e
   .exact .inl (e.symm.trans y)
   .right
    have e2:k=(f.alloc (.cells #[.int .i64 d,.string b] 212)).heap.size:=Option.some.inj (y.symm.trans e)
    have:=m.size
    have:=i.size
    omega
  exact⟨rfl,_,r.out.put V (v':=.slice (some ⟨t,0,none⟩) (G.length+1) s) (by rw[D.out,o.out];exact ho3) F C.out,(V.mono (λk _ e=>.inr e)).setCell (.inl rfl) _,F⟩
theorem Vh(h:Lnk Q w 212 502 B z v G)(d:Int)(b:ByteArray)(g:b.size<=140737488351232):Calls Tryz.prog 98 #[.pointer (some ⟨z,502,none⟩),.int .i64 d,.string b] w λe E=>e=.returned (zN (kJ G d b))/\Turn Q w E 212 502 B z v (Zu G d b):=by
 rcases zrl G d b with⟨e,f⟩|⟨e,f,a⟩|⟨e,f,a,c⟩;rw [fQ (by rw[e];decide),e,qj (by decide)];exact(zro h d b g f).mono λe E ⟨a,c⟩=>⟨a,by rw[c];exact Turn.same h⟩;rw [fQ (by rw[e];decide),e,qj (by decide)];rcases a with a|⟨a,c⟩;exact (zrm h d b g f (by omega)).mono λe E ⟨a,c⟩=>⟨a,by rw[c];exact Turn.same h⟩;exact (zrn h d b g f (by omega) (by omega)).mono λe E ⟨a,c⟩=>⟨a,by rw[c];exact Turn.same h⟩;rw [Vg e,e,jm];exact zrq h d b g f a c
theorem zu6(w:World):(zeroValue 212).run Tryz.prog w=.ok (.agg #[.int .i64 0,.string ⟨#[]⟩]) w:=by kernel_rfl
theorem zc6(W:World)(k:TypeId)(g o c:Nat)(f:(W.cell? ⟨g,o,none⟩).isSome=true)(h:(W.cell? ⟨g,o+1,none⟩).isSome=true)(d:W.frozen? ⟨g,o,none⟩=false)(e:W.frozen? ⟨g,o+1,none⟩=false):
  (Builtin.clear_ #[91] k #[.slice (some ⟨g,o,none⟩) 1 c]).run Tryz.prog W=.ok (.tuple #[]) (W.setCells g o [.int .i64 0,.string ⟨#[]⟩]):=by
 have b:=run_storeCells_cells (P:=Tryz.prog) g o [.int .i64 0,.string ⟨#[]⟩] 0 W (λj a=>by
   match j,a with
   |0,_=>exact f
   |1,_=>exact h
   |j+2,a=>simp at a;omega) (λj a=>by
   match j,a with
   |0,_=>exact d
   |1,_=>exact e
   |j+2,a=>simp at a;omega) (by intro v hv;simp at hv;rcases hv with rfl|rfl<;>rfl)
 simp only[Nat.add_zero]at b;have i:(Builtin.zeroCells (Value.agg #[.int .i64 0,.string ⟨#[]⟩]).cells 1).toList=[.int .i64 0,.string ⟨#[]⟩]:=by kernel_rfl
 simp[Builtin.clear_,run_underlying Tryz.underlying91,zu6,i,b]
def moved(J:List LR)(p:Nat):List Value:=flat (J.drop (p+1))
theorem zkd{J:List LR}{p:Nat}:(moved J p).length=(J.length-(p+1))*2:=by rw[moved,jT,List.length_drop]
theorem KR{g:Nat}{e:TypeId}:∀(c:List Value) (o:Nat) (w:World) (a:Array Value),w.heap[g]? =some (.cells a e (0,0))->∃b,(w.setCells g o c).heap[g]? =some (.cells b e (0,0))/\b.size=a.size
 |[],o,w,a,h=>⟨a,h,rfl⟩
 |v::c,o,w,a,h=>by
  have i:∃b,(w.setCell ⟨g,o,none⟩ v).heap[g]? =some (.cells b e (0,0))/\b.size=a.size:=by
   simp only[World.setCell,Array.getElem?_modify,h]
   simp
  obtain⟨d,j,k⟩:=i
  obtain⟨f,l,m⟩:=KR c (o+1) (w.setCell ⟨g,o,none⟩ v) d j
  exact⟨f,l,m.trans k⟩
theorem zlx{n a:Nat}{e:TypeId}{b:Array Value}{K:List Value}(f:B<=g)(c:w.heap[g]? =some (.cells b e (0,0)))(m:n<=a)(l:a<=maxLen)(p:b.size=a*2)(k:K.length=n*2)
  (h:∀j u,K[j]? =some u->w.cell? ⟨g,j,none⟩=some u):w.ownsRow B e 2 (.slice (some ⟨g,0,none⟩) n a) n K:=by
 refine⟨k,.inr ⟨g,a,b,rfl,f,c,m,l,p,?_⟩⟩;refine List.ext_getElem? λj=>?_;by_cases i:j<n*2;rw [List.getElem?_take_of_lt i];have d:K[j]? =some K[j]:=List.getElem?_eq_getElem (by omega);have:=h j _ d;rw[d];simpa[World.cell?,c]using this;rw [List.getElem?_eq_none (by simp;omega),List.getElem?_eq_none (by omega)]
theorem zdp(g n b p B:Nat)(v:Array Value)(J:List LR)(w:World)(hB:B<=g)(Q:w.heap[g]? =some (.cells v 212 (0,0)))(aa:n<=b)(L:b<=maxLen)(N:v.size=b*2)(V:J.length=n)(H:Cells w g 0 J)(hp:p<n):
  Calls Tryz.prog 130 #[.slice (some ⟨g,0,none⟩) n b,.int .i64 (p:Int),.int .i64 ((p:Int)+1)] w λe E=>e=.returned (.slice (some ⟨g,0,none⟩) (n-1) b)/\E.ownsRow B 212 2 (.slice (some ⟨g,0,none⟩) (n-1) b) (n-1) (flat (qB J p))/\Off (λk=>k=g) w E:=by
 have hM:b<=9223372036854775807:=by unfold maxLen at L;omega
 have a9:p<=b:=by omega
 have ab:(0:Int)<=(p:Int)+1:=by omega
 have ac:(p:Int)+1<=(n:Int):=by omega
 have ad:((p:Int)+1).toNat=p+1:=by omega
 have ae:(p:Int)+1<=(b:Int):=by omega
 have af:((p:Int)==(p:Int)+1)=false:=by simp<;>omega
 obtain⟨m,M⟩:∃m,n-(p+1)=m:=⟨_,rfl⟩;have W:Hid (n=p+m+1):=by show n=p+m+1;omega
 have e2:n-(p+m)=1:=by omega
 have q0:(0:Int)<=(p:Int)+(m:Int):=by omega
 have q1:(p:Int)+(m:Int)<=(n:Int):=by omega
 have q2:((p:Int)+(m:Int)).toNat=p+m:=by omega
 have q3:(n:Int)<=(b:Int):=by omega
 have q4:¬b=p+m:=by omega
 obtain⟨i0,a0,a5,a6,a7⟩:=info_parts wX;obtain⟨a,i⟩:∃a,a=moved J p:=⟨_,rfl⟩;have q:a.length=m*2:=by rw[i,zkd,V,M]
 have I:∀(t:Nat) (u:Value),a[t]? =some u->(flat J)[(p+1)*2+t]? =some u:=by
  intro t u hu;have e:flat J=flat (J.take (p+1))++flat (J.drop (p+1)):=by rw[<-xL,List.take_append_drop]
  rw[e,List.getElem?_append_right (by rw[jT,List.length_take];omega),jT,List.length_take,show(p+1)*2+t-min (p+1) J.length*2=t by omega];rw[i]at hu;exact hu
 have f:∀(t:Nat) (u:Value),(flat J)[t]? =some u->w.cell? ⟨g,t,none⟩=some u:=λt u hu=>by
  have:=QQ H t u hu;rw[Addr.add_lit,Nat.zero_add]at this;exact this
 have P:∀t,w.frozen? ⟨g,t,none⟩=false:=λt=>by simp[World.frozen?,Q]
 have F:∀t,t<n*2->∃u,(flat J)[t]? =some u:=λt l=>⟨_,List.getElem?_eq_getElem (by rw[jT];omega)⟩;obtain⟨A,hA,a4⟩:∃A:Addr,(if b=p+1 then some (⟨g,0,none⟩:Addr)else some ⟨g,(p+1)*2,none⟩)=some A/\Hid (∀t u,a[t]? =some u->w.drew.cell? (A.add t)=some u):=by
  by_cases h:b=p+1;refine ⟨⟨g,0,none⟩,by simp[h],λt u hu=>?_⟩;have h0:a.length=0:=by rw[q];omega
  rw[List.length_eq_zero_iff.1 h0]at hu;simp at hu;refine ⟨⟨g,(p+1)*2,none⟩,by simp[h],λt u hu=>?_⟩;rw[Addr.add_lit];exact f _ u (I t u hu)
 have s1:=zC q;have s2:Hid (∀u∈a,u.oneCell'=true):=by
  intro u hu;rw[i]at hu;exact wV u hu
 have o:Hid (∀t,t<a.length->(w.drew.cell? ⟨g,0+p*2+t,none⟩).isSome=true/\w.drew.frozen? ⟨g,0+p*2+t,none⟩=false):=by
  intro t l;rw[q]at l;rw[Nat.zero_add];obtain⟨u,hu⟩:=F (p*2+t) (by omega);exact⟨by show(w.cell? _).isSome=true;rw[f _ u hu];rfl,P _⟩
 obtain⟨c,d⟩:∃c,c=w.drew.setCells g (0+p*2) a:=⟨_,rfl⟩;have G:∀t u,(flat (qB J p))[t]? =some u->c.cell? ⟨g,t,none⟩=some u:=by
  intro t u hu;rw[qB,xL]at hu;have a3:(flat (J.take p)).length=p*2:=by rw[jT,List.length_take];omega
  by_cases l:t<p*2;rw [List.getElem?_append_left (by omega)]at hu;rw[d,World.cell?_setCells_out g _ _ _ _ (λ_ _=>by left;show t<_;omega)];show w.cell? _=_;refine f t u ?_;have e:flat J=flat (J.take p)++flat (J.drop p):=by rw[<-xL,List.take_append_drop]
  rw[e,List.getElem?_append_left (by omega)];exact hu;rw [List.getElem?_append_right (by omega),a3]at hu;have O:a[t-p*2]? =some u:=by rw[i];exact hu
  have hlt:=(List.getElem?_eq_some_iff.1 O).1;have:=World.cell?_setCells_in g a (0+p*2) w.drew (λj U=>(o.out j U).1) (t-p*2) hlt;rw[show 0+p*2+(t-p*2)=t by omega]at this;rw[d,this,<-O,List.getElem?_eq_getElem hlt]
 have y:∀t,t<n*2->(c.cell? ⟨g,t,none⟩).isSome=true:=by
  intro t l;by_cases h1:t<0+p*2\/0+p*2+a.length<=t;rw [d,World.cell?_setCells_out g _ _ _ _ (λ_ _=>h1)];obtain⟨u,hu⟩:=F t l;show(w.cell? _).isSome=true;rw[f t u hu];rfl;have hlt:t-p*2<a.length:=by omega
  have:=World.cell?_setCells_in g a (0+p*2) w.drew (λj U=>(o.out j U).1) (t-p*2) hlt;rw[show 0+p*2+(t-p*2)=t by omega]at this;rw[d,this];rfl
 have x:∀t,c.frozen? ⟨g,t,none⟩=false:=λt=>by rw[d,World.frozen?_setCells];exact P t
 have a8:∀z,(Builtin.clear_ #[91] z #[.slice (some ⟨g,(p+m)*2,none⟩) 1 (b-(p+m))]).run Tryz.prog c=.ok (.tuple #[]) (c.setCells g ((p+m)*2) [.int .i64 0,.string ⟨#[]⟩]):=
  λz=>zc6 c z g _ _ (y _ (by omega)) (y _ (by omega)) (x _) (x _)
 have S:Hid (∃D,(c.setCells g ((p+m)*2) [.int .i64 0,.string ⟨#[]⟩]).heap[g]? =some (.cells D 212 (0,0))/\D.size=b*2):=by
  obtain⟨c1,a1,Z⟩:=KR a (0+p*2) w.drew v Q;rw[<-d]at a1;obtain⟨C,r,s⟩:=KR [.int .i64 0,.string ⟨#[]⟩] ((p+m)*2) c c1 a1;exact⟨C,r,by rw[s,Z,N]⟩
 have X:Hid (Off (λk=>k=g) w (c.setCells g ((p+m)*2) [.int .i64 0,.string ⟨#[]⟩])):=by
  rw[d];show Off (λk=>k=g) w _;exact Kr (K:=λk=>k=g) rfl _ _ (Kr (K:=λk=>k=g) rfl _ _ (Off.refl _ w).drew)
 have R:Hid (∀t u,(flat (qB J p))[t]? =some u->(c.setCells g ((p+m)*2) [.int .i64 0,.string ⟨#[]⟩]).cell? ⟨g,t,none⟩=some u):=by
  intro t u hu;have hlt:=(List.getElem?_eq_some_iff.1 hu).1;rw[jT,qB,List.length_append,List.length_take,List.length_drop]at hlt;rw[World.cell?_setCells_out g _ _ _ _ (λ_ _=>by left;show t<_;omega)];exact G t u hu
 have Y:Hid (c=w.drew.setCells g (0+p*2) a):=d;have T:=zC V;clear d G y x f F P I i q Q H V N a5 a7;go_enter Tryz.func130,Tryz.ntmps130
 go_wp2_with fail;go_region_law (refine step_append_room rfl (.tmp 22) (.tmp 25) 91 rfl 212 i0 2 Tryz.underlying91 a0 a6 g 0 p b (by simp[Act.eval,Act.put]) A m (b-(p+1)) a (by simp[Act.eval,Act.put,M]) s1.out a4.out s2.out (by omega) o.out ?_;rw[<-Y.out])
 go_wp2;go_ret;have e3:p+m=n-1:=by have:=W.out;omega
 obtain⟨C,r,s⟩:=S.out;refine⟨by rw[e3];rfl,zlx hB r (by omega) L s ?_ R.out,X.out⟩;rw[jT,qB,List.length_append,List.length_take,List.length_drop,T.out];omega
theorem Yk(h:Lnk Q w 212 502 B z v G)(i:Int)(b:qa G i=false):Cs 101 #[.pointer (some ⟨z,502,none⟩),.int .i64 i] w (.tuple #[.int .i64 0,.string ⟨#[]⟩,.iface 133 (.int .i64 1)]):=by
 go_enter Tryz.func101,Tryz.ntmps101
 go_wp2_with (go_at_call 129;refine(X5 h i).mono ?_;rintro e c ⟨rfl,a⟩;rw[b,a];clear a c);go_ret3
 exact⟨rfl,rfl⟩
theorem KM(h:Lnk Q w 212 502 B z v G)(p:Nat)(l:p<G.length)(i:Int)(V:i=(p:Int)):Calls Tryz.prog 101 #[.pointer (some ⟨z,502,none⟩),.int .i64 i] w λe E=>e=.returned (.tuple #[.int .i64 (at' G p).1,.string (at' G p).2,.nilIface])/\Turn Q w E 212 502 B z v (qB G p):=by
 obtain⟨a,b,rfl⟩:=h.shape;obtain⟨g,M,rfl,_,N,P,U,F,A,o,y,r⟩:=h.rows (by omega);have hq:qa G i=true:=by rw[V];exact Q3 l
 have hon:=X5 h i;rw[hq]at hon;subst V;have a2:=h.lt (k:=z) (.inl rfl);have c0:=h.c;obtain⟨x0,x1⟩:=r p l;rw[Nat.zero_add]at x0 x1;have O:=h.inv.few;have J:Hid (Inv (qB G p)):=h.inv.cut p;have HL:Hid (Lnk Q w 212 502 B z (.slice (some ⟨g,0,none⟩) G.length b) G):=h;have HN:Hid ((qB G p).length=G.length-1):=zdg l;have HDEL:∀c,Below w.heap.size w c->Calls Tryz.prog 130 #[.slice (some ⟨g,0,none⟩) G.length b,.int .i64 (p:Int),.int .i64 ((p:Int)+1)] c λe E=>e=.returned (.slice (some ⟨g,0,none⟩) (G.length-1) b)/\E.ownsRow B 212 2 (.slice (some ⟨g,0,none⟩) (G.length-1) b) (G.length-1) (flat (qB G p))/\Off (λk=>k=g) c E:=λc x=>
  zdp g G.length b p B M G c N ((x.block g P).trans F) A o y rfl (r.below P x) l
 have a0:(p:Int)<(G.length:Int):=by omega
 have a1:(p:Int)<=40:=by omega
 clear hq h r F y o A l O;generalize(at' G p).1=d at*;generalize(at' G p).2=f at*;generalize G.length=n at*;go_enter Tryz.func101,Tryz.ntmps101
 go_upto_region 4 with(go_at_call 129;refine hon.mono ?_;rintro e c ⟨rfl,D⟩;rw[D];clear D c)
 have ba:Below w.heap.size w (w.alloc (.cells #[.int .i64 d,.string f] 212)):=(Below.refl _ _).alloc (Nat.le_refl _) _;have z0:(w.alloc (.cells #[.int .i64 d,.string f] 212)).cell? ⟨w.heap.size,0,none⟩=some (.int .i64 d):=by simp
 have z1:(w.alloc (.cells #[.int .i64 d,.string f] 212)).cell? ⟨w.heap.size,1,none⟩=some (.string f):=by simp
 have hYg:w.heap.size≠g:=by omega
 have hlt:w.heap.size<(w.alloc (.cells #[.int .i64 d,.string f] 212)).heap.size:=by simp
 have HY:Hid (w.heap.size≠z):=by show w.heap.size≠z;omega
 generalize u:w.heap.size=Y at z0 z1 hYg hlt HY |-;have X:Hid (w.heap.size=Y):=u;clear u;generalize w.alloc (.cells #[.int .i64 d,.string f] 212)=W at z0 z1 ba hlt |-;have q:=HL.out.below ba;have R:=q.c;clear x0 x1 c0;go_wp2_with (go_at_call 130;refine(HDEL W ba).mono ?_;rintro e m ⟨rfl,C,j⟩;have S:=j.cell q.c (λe=>U e.symm);have T:=(j.frozen (p:=⟨z,502,none⟩) (q.lt (.inl rfl)) (λe=>U e.symm)).trans q.f;have H:=j.cell z0 hYg;have I:=j.cell z1 hYg)
 have K:(m.setCell ⟨z,502,none⟩ (.slice (some ⟨g,0,none⟩) (n-1) b)).cell? ⟨Y,0,none⟩=some (.int .i64 d):=by
  rw[World.cell?_setCell_other _ _ _ _ (by intro e;injection e with e;exact HY.out e.symm)];exact H
 have L:(m.setCell ⟨z,502,none⟩ (.slice (some ⟨g,0,none⟩) (n-1) b)).cell? ⟨Y,1,none⟩=some (.string f):=by
  rw[World.cell?_setCell_other _ _ _ _ (by intro e;injection e with e;exact HY.out e.symm)];exact I
 have t:Off (λk=>(Value.slice (some ⟨g,0,none⟩) n b).ownBlock=some k) w m:=(Off.of_below ba).trans (j.mono (λk _ e=>by rw[e];rfl));have FIN:Hid (Turn Q w (m.setCell ⟨z,502,none⟩ (.slice (some ⟨g,0,none⟩) (n-1) b)) 212 502 B z (.slice (some ⟨g,0,none⟩) n b) (qB G p)):=
  (show Turn Q w _ 212 502 B z _ _ from⟨_,HL.out.put t (by rw[HN.out];exact C) (λk s=>.inl s) J.out,(t.mono (λk _ e=>.inr e)).setCell (.inl rfl) _,λk s=>.inl s⟩)
 clear S T H I C j t R z0 z1;generalize m.setCell ⟨z,502,none⟩ (.slice (some ⟨g,0,none⟩) (n-1) b)=Z at K L FIN |-;go_quiet (fail)
 go_wp2_with fail;go_ret3
 exact⟨rfl,FIN.out.more (by repeat (first|exact Below.refl _ _|exact below_drewN (Below.refl _ _) _|refine Below.drew ?_))⟩
theorem zhe(h:Lnk Q w 212 502 B z v G)(i:Int):Calls Tryz.prog 101 #[.pointer (some ⟨z,502,none⟩),.int .i64 i] w λe E=>e=.returned (.tuple #[.int .i64 (kz G i).1,.string (kz G i).2,zN (xU G i)])/\Turn Q w E 212 502 B z v (yI G i):=by
 cases a:qa G i with
 |false=>
  rw[KL a,KI a,KJ a,qj (by decide)];exact(Yk h i a).mono λe E ⟨c,d⟩=>⟨c,by rw[d];exact Turn.same h⟩
 |true=>
  obtain⟨p,e,f⟩:=Zi a;rw[XT a,XQ a,XR a,jm];have b:i.toNat=p:=by omega
  rw[b];exact KM h p f i e
theorem zj8(h:Lnk Q w 212 502 B z v G)(i:Int):Calls Tryz.prog 103 #[.pointer (some ⟨z,502,none⟩),.int .i64 i] w λe E=>e=.returned (zN (xU G i))/\Turn Q w E 212 502 B z v (yI G i):=by
 have hg:=zhe h i;generalize(kz G i).1=d at hg;generalize(kz G i).2=f at hg;generalize zN (xU G i)=b at hg |-;go_enter Tryz.func103,Tryz.ntmps103
 go_wp2_with (go_at_call 101;refine hg.mono ?_;rintro e c ⟨rfl,a⟩);go_ret;exact⟨rfl,a⟩
theorem zty(h:Lnk Q w 212 502 B z v G)(i:Int)(b:qa G i=false):Cs 104 #[.pointer (some ⟨z,502,none⟩),.int .i64 i] w (.iface 133 (.int .i64 1)):=by
 go_enter Tryz.func104,Tryz.ntmps104
 go_wp2_with (go_at_call 129;refine(X5 h i).mono ?_;rintro e c ⟨rfl,a⟩;rw[b,a];clear a c);go_ret;exact⟨rfl,rfl⟩
theorem ztz(h:Lnk Q w 212 502 B z v G)(p:Nat)(b:p<G.length)(i:Int)(d:i=(p:Int)):Calls Tryz.prog 104 #[.pointer (some ⟨z,502,none⟩),.int .i64 i] w λe E=>e=.returned (zN (xk G (p:Int)))/\Turn Q w E 212 502 B z v (vg G (p:Int)):=by
 obtain⟨a,l,rfl⟩:=h.shape;obtain⟨g,H,rfl,_,J,K,L,x,F,y,t,c⟩:=h.rows (by omega);have hq:qa G i=true:=by rw[d];exact Q3 b
 have hon:=X5 h i;rw[hq]at hon;subst d;have D:=h.c;obtain⟨o,A⟩:=c p b;rw[Nat.zero_add]at o A;have u:=h.inv.few;have P:=(h.inv.ok _ (at_mem b)).2;have hsend:=Vh (h.below ((Below.refl _ w).drew)) (at' G p).1 (at' G p).2 (by omega);rw[(iG h.inv b).1,(iG h.inv b).2];have M:(p:Int)<(G.length:Int):=by omega
 have N:(p:Int)<=40:=by omega
 have C:Hid (Lnk Q w 212 502 B z (.slice (some ⟨g,0,none⟩) G.length l) G):=h;clear hq h c x t y F b u P;generalize kJ G (at' G p).1 (at' G p).2=f at*;generalize Zu G (at' G p).1 (at' G p).2=s at*;generalize zN f=I at*;generalize(at' G p).1=O at*;generalize(at' G p).2=R at*;generalize G.length=n at*;go_enter Tryz.func104,Tryz.ntmps104
 go_wp2_with (go_at_call 129;refine hon.mono ?_;rintro e k ⟨rfl,j⟩;rw[j];clear j k);go_region_with (go_at_call 98;refine hsend.mono ?_;rintro e k ⟨rfl,U⟩)
 all_goals (try go_wp2_with fail)
 all_goals go_ret
 all_goals exact⟨rfl,by
  obtain⟨V,m,q,r⟩:=U;exact⟨V,m,((Off.refl _ w).drew).trans q,r⟩⟩
theorem ztx(h:Lnk Q w 212 502 B z v G)(i:Int):Calls Tryz.prog 104 #[.pointer (some ⟨z,502,none⟩),.int .i64 i] w λe E=>e=.returned (zN (xk G i))/\Turn Q w E 212 502 B z v (vg G i):=by
 cases a:qa G i with
 |false=>
  rw[Vz (by rw[JS a];decide),JS a,qj (by decide)];exact(zty h i a).mono λe E ⟨b,c⟩=>⟨b,by rw[c];exact Turn.same h⟩
 |true=>
  obtain⟨p,rfl,d⟩:=Zi a;exact ztz h p d (p:Int) rfl
structure LBox(w:World)(b:Nat)(q:Int)(n:ByteArray):Prop where
 lt:b<w.heap.size
 c0:w.cell? ⟨b,0,none⟩=some (.int .i64 q)
 c1:w.cell? ⟨b,1,none⟩=some (.string n)
 f0:w.frozen? ⟨b,0,none⟩=false
 f1:w.frozen? ⟨b,1,none⟩=false
theorem LBox.new(w:World)(q:Int)(n:ByteArray)(t:TypeId):LBox (w.alloc (.cells #[.int .i64 q,.string n] t)) w.heap.size q n:=by
 constructor<;>simp
theorem LBox.off{K:Nat->Prop}{b:Nat}{q:Int}{n:ByteArray}(h:LBox w b q n)(a:Off K w E)(c:¬K b):LBox E b q n:=
 ⟨Nat.lt_of_lt_of_le h.lt a.size,a.cell h.c0 c,a.cell h.c1 c,(a.frozen (p:=⟨b,0,none⟩) h.lt c).trans h.f0,(a.frozen (p:=⟨b,1,none⟩) h.lt c).trans h.f1⟩
theorem LBox.below{b:Nat}{q:Int}{n:ByteArray}(h:LBox w b q n)(a:Below w.heap.size w E):LBox E b q n:=h.off (Off.of_below (K:=λ_=>False) a) id
def Zv(a j:Nat):Nat:=if a=j+1 then 0 else(j+1)*2
theorem zqx(g b a j:Nat)(h:j<=a)(w:World):(Instr.slice 50 (.slice (some ⟨g,0,none⟩) b a) none (some (.int .i64 (j:Int))) none).run Tryz.prog w=.ok (.slice (some ⟨g,0,none⟩) j a) w:=by
 have c:(j:Int)<=(a:Int):=by omega
 have e:=Tryz.underlying50;go_simp
theorem zq1(g b a j:Nat)(h:j+1<=b)(w:World):(Instr.slice 50 (.slice (some ⟨g,0,none⟩) b a) (some (.int .i64 ((j:Int)+1))) none none).run Tryz.prog w=.ok (.slice (some ⟨g,Zv a j,none⟩) (b-(j+1)) (a-(j+1))) w:=by
 have i:(j:Int)+1<=(b:Int):=by omega
 have e:=Tryz.underlying50;have f:((j:Int)+1).toNat=j+1:=by omega
 unfold Zv;by_cases d:a=j+1;.rw [if_pos d];go_simp;exact λc=>absurd c (by omega)
 rw [if_neg d];go_simp;exact λc=>absurd c (by omega)
variable {D:Nat}
theorem zp6(h:Lnk Q w 60 2 B D v G)(i:Int)(d:i<0):Cl 25 #[.pointer (some ⟨D,0,none⟩),.int .i64 i] w (.tuple #[.agg #[.int .i64 0,.string ⟨#[]⟩],.int .i64 1]):=by
 obtain⟨a,c,rfl⟩:=h.shape;have b:=(h.below ((Below.refl _ _).alloc (Nat.le_refl _) (.cells #[.int .i64 0,.string ⟨#[]⟩] 60))).c;clear h;generalize G.length=n at*;go_enter Tryz.func25,Tryz.ntmps25
 go_wp2_with fail;(try simp only[Exit.inBlock,Exit.then]);refine bodyPost_ret (v:=.tuple #[.agg #[.int .i64 0,.string ⟨#[]⟩],.int .i64 1]) ?_ rfl ⟨rfl,?_⟩;.rw [results_cell_tmp rfl];go_simp
 repeat (first|exact Below.refl _ _|(refine Below.setCell ?_ (by simp<;>omega) _)|(refine Below.alloc ?_ (by simp<;>omega) _))
theorem zqt(h:Lnk Q w 60 2 B D v G)(i:Int)(d:i<0):Cs 26 #[.pointer (some ⟨D,0,none⟩),.int .i64 i] w (.int .i64 1):=by
 obtain⟨a,c,rfl⟩:=h.shape;have b:=h.c;clear h;generalize G.length=n at*;go_enter Tryz.func26,Tryz.ntmps26
 go_wp2_with fail;go_ret;exact⟨rfl,rfl⟩
theorem zp5(h:Lnk Q w 60 2 B D v G)(i:Int)(b:0<=i/\(G.length:Int)<=i):Cl 25 #[.pointer (some ⟨D,0,none⟩),.int .i64 i] w (.tuple #[.agg #[.int .i64 0,.string ⟨#[]⟩],.int .i64 1]):=by
 obtain⟨b,f⟩:=b;obtain⟨a,d,rfl⟩:=h.shape;have c:=(h.below ((Below.refl _ _).alloc (Nat.le_refl _) (.cells #[.int .i64 0,.string ⟨#[]⟩] 60))).c;clear h;generalize G.length=n at*;go_enter Tryz.func25,Tryz.ntmps25
 go_wp2_with fail;(try simp only[Exit.inBlock,Exit.then]);refine bodyPost_ret (v:=.tuple #[.agg #[.int .i64 0,.string ⟨#[]⟩],.int .i64 1]) ?_ rfl ⟨rfl,?_⟩;.rw [results_cell_tmp rfl];go_simp
 repeat (first|exact Below.refl _ _|(refine Below.setCell ?_ (by simp<;>omega) _)|(refine Below.alloc ?_ (by simp<;>omega) _))
theorem zqs(h:Lnk Q w 60 2 B D v G)(i:Int)(b:0<=i/\(G.length:Int)<=i):Cs 26 #[.pointer (some ⟨D,0,none⟩),.int .i64 i] w (.int .i64 1):=by
 obtain⟨b,f⟩:=b;obtain⟨a,d,rfl⟩:=h.shape;have c:=h.c;clear h;generalize G.length=n at*;go_enter Tryz.func26,Tryz.ntmps26
 go_wp2_with fail;go_ret;exact⟨rfl,rfl⟩
theorem zp7(h:Lnk Q w 60 2 B D v G)(p:Nat)(hp:p<G.length)(i:Int)(hi:i=(p:Int)):Calls Tryz.prog 25 #[.pointer (some ⟨D,0,none⟩),.int .i64 i] w λe w'=>e=.returned (.tuple #[.agg #[.int .i64 (at' G p).1,.string (at' G p).2],.int .i64 0])/\Turn Q w w' 60 2 B D v (qB G p):=by
 obtain⟨a,d,rfl⟩:=h.shape;obtain⟨g,ah,rfl,_,ai,F,am,ad,ap,hm,ac,z⟩:=h.rows (by omega);subst hi;have ao:=h.lt (k:=D) (.inl rfl);obtain⟨x0,x1⟩:=z p hp;rw[Nat.zero_add]at x0 x1;have al:=h.inv.few;have J:Hid (∀j u,(flat G)[j]? =some u->w.cell? ⟨g,j,none⟩=some u):=λj u b=>by
  have:=QQ z j u b;rw[Addr.add_lit,Nat.zero_add]at this;exact this
 have r:Hid (Lnk Q w 60 2 B D (.slice (some ⟨g,0,none⟩) G.length d) G):=h;have aq:(p:Int)<(G.length:Int):=by omega
 have ar:(p:Int)<=40:=by omega
 have ae:=h.le;obtain⟨i0,X,a6,a7,a8⟩:=info_parts XY;have HI:Hid (Inv (qB G p)):=h.inv.cut p;have HG:Hid (at' G p=((at' G p).1,(at' G p).2)):=rfl;have l:Below w.heap.size w (w.alloc (.cells #[.int .i64 0,.string ⟨#[]⟩] 60)):=(Below.refl _ _).alloc (Nat.le_refl _) _;have c1:=(h.below l).c;have x0:=(l.cell (p:=⟨g,p*2,none⟩) F).trans x0;have x1:=(l.cell (p:=⟨g,p*2+1,none⟩) F).trans x1;have N:=LBox.new w 0 ⟨#[]⟩ 60
 clear h z ad ac hm;generalize(at' G p).1=n at*;generalize(at' G p).2=q at*;go_enter Tryz.func25,Tryz.ntmps25
 go_upto_region 4 with fail
 have P:Below (w.alloc (.cells #[.int .i64 0,.string ⟨#[]⟩] 60)).heap.size (w.alloc (.cells #[.int .i64 0,.string ⟨#[]⟩] 60)) ((w.alloc (.cells #[.int .i64 0,.string ⟨#[]⟩] 60)).alloc (.cells #[.int .i64 n,.string q] 60)):=(Below.refl _ _).alloc (Nat.le_refl _) _;have hB2:=l.trans (P.mono l.size);have hX2:=N.below P;have hY2:LBox ((w.alloc (.cells #[.int .i64 0,.string ⟨#[]⟩] 60)).alloc (.cells #[.int .i64 n,.string q] 60)) (w.heap.size+1) n q:=by
  have e:(w.alloc (.cells #[.int .i64 0,.string ⟨#[]⟩] 60)).heap.size=w.heap.size+1:=by simp
  rw[<-e];exact LBox.new _ _ _ _
 have aa:w.heap.size≠w.heap.size+1:=by omega
 have HYn:Hid (w.heap.size<=w.heap.size+1):=Nat.le_succ _;clear x0 x1 c1 N P l;generalize w.heap.size+1=Y at hY2 aa HYn |-;generalize(w.alloc (.cells #[.int .i64 0,.string ⟨#[]⟩] 60)).alloc (.cells #[.int .i64 n,.string q] 60)=W at hB2 hX2 hY2 |-;have ag:=zqx g G.length d p (by omega);have au:=zq1 g G.length d p (by omega);have c2:=(r.out.below hB2).c;have a5:W.ownsRow w.heap.size 60 2 (.slice none 0 0) 0 []:=World.ownsRow_nil _ _ _ _
 have R:∀i u,(flat (G.take p))[i]? =some u->W.cell? ((⟨g,0,none⟩:Addr).add i)=some u:=λi u b=>by
  rw[Addr.add_lit,Nat.zero_add];exact(hB2.cell (p:=⟨g,i,none⟩) F).trans (J.out i u (zgf p i u b))
 have a1:(flat (G.take p)).length=p*2:=by rw[jT,List.length_take];omega
 have Z:=hB2.size;go_upto_region 6 with(at_builtin;refine wpList_append_own_at _ rfl (.tmp 27) (.tmp 33) 50 rfl w.heap.size 60 i0 _ 2 24 Tryz.underlying50 X a6 a7 a8 rfl (by decide) _ _ [] rfl a5 ⟨g,0,none⟩ p d (flat (G.take p)) rfl a1 R (λu b=>wV u b) (by unfold maxLen;omega) (by omega) Z ?_;intro v3 I ho3 T _ hl3;rw[Nat.zero_add,List.nil_append]at ho3)
 have o:Below W.heap.size W I:=(Below.refl _ W).grown T (Nat.le_refl _) (λk e=>by cases e);have V:=hX2.below o;have O:=hY2.below o;have x:=hB2.trans (o.mono hB2.size);obtain⟨s,t,rfl⟩:=Ku ho3;have c3:=(r.out.below x).c;have S:∀i u,(flat (G.drop (p+1)))[i]? =some u->I.cell? ((⟨g,Zv d p,none⟩:Addr).add i)=some u:=λi u b=>by
  have hi:i<(flat (G.drop (p+1))).length:=(List.getElem?_eq_some_iff.1 b).1;rw[jT,List.length_drop]at hi;have:Zv d p=(p+1)*2:=by unfold Zv;rw[if_neg];omega
  rw[this,Addr.add_lit];exact(x.cell (p:=⟨g,(p+1)*2+i,none⟩) F).trans (J.out _ u (zgd (by omega) i u b))
 have af:(flat (G.drop (p+1))).length=(G.length-(p+1))*2:=by rw[jT,List.length_drop]
 have a0:=x.size;have a9:Hid (Value.ownBlock (.slice s p t)=none\/∃k,Value.ownBlock (.slice s p t)=some k/\W.heap.size<=k):=by
  rcases hl3 with e|e;exact .inl e;exact .inr ⟨_,e,Nat.le_refl _⟩
 have aj:=hX2.lt;have ak:=hY2.lt;clear a5 R a1 T hl3 c2 ag Z hX2 hY2;go_upto_region 7 with(at_builtin;refine wpList_append_own_at _ rfl (.tmp 36) (.tmp 43) 50 rfl w.heap.size 60 i0 _ 2 24 Tryz.underlying50 X a6 a7 a8 rfl (by decide) _ _ (flat (G.take p)) rfl ho3 ⟨g,Zv d p,none⟩ (G.length-(p+1)) (d-(p+1)) (flat (G.drop (p+1))) rfl af S (λu b=>wV u b) (by unfold maxLen;omega) (by omega) a0 ?_;intro v4 m ho4 A _ hl4;have y:=x.grown A a0 (λk e=>(ho3.lt k e).1);have U:=r.out.below y;have d4:=U.c;have f4:=U.f;obtain⟨c,f,rfl⟩:=Ku ho4)
 have C:∀k,(Value.slice s p t).ownBlock=some k->W.heap.size<=k:=λk hk=>by
  rcases a9.out with e|⟨k',e,an⟩;rw [e]at hk;cases hk;rw [e]at hk;injection hk with hk;omega
 have H:=Off.of_grown (K:=λk=>(Value.slice s p t).ownBlock=some k) A (λk e=>e);have E:Off (λk=>k=D) m (m.setCell ⟨D,2,none⟩ (.slice c (p+(G.length-(p+1))) f)):=(Off.refl _ _).setCell (K:=λk=>k=D) rfl _;have hX5:=(V.off H (λe=>by have:=C _ e;omega)).off E (by omega);have hY5:=(O.off H (λe=>by have:=C _ e;omega)).off E (by have:=HYn.out;omega);have a2:∀k,(Value.slice c (p+(G.length-(p+1))) f).ownBlock=some k->w.heap.size<=k:=λk hk=>(ho4.lt k hk).1
 have eL:(qB G p).length=p+(G.length-(p+1)):=by rw[qB,List.length_append,List.length_take,List.length_drop];omega
 have M:Lnk Q (m.setCell ⟨D,2,none⟩ (.slice c (p+(G.length-(p+1))) f)) 60 2 B D (.slice c (p+(G.length-(p+1))) f) (qB G p):=
  r.out.put (Off.of_below y) (by rw[eL];unfold qB;rw[xL];exact jE ho4 ae) (λk hk=>.inr (a2 k hk)) HI.out
 have ab:∀k,(Value.slice c (p+(G.length-(p+1))) f).ownBlock=some k->k≠w.heap.size:=λk hk=>by
  rcases hl4 with e|e;have:=C k (e.symm.trans hk);omega;have e2:k=I.heap.size:=Option.some.inj (hk.symm.trans e);have:=V.lt;omega
 have FIN:Hid (Off (own D (.slice (some ⟨g,0,none⟩) G.length d)) w (m.setCell ⟨D,2,none⟩ (.slice c (p+(G.length-(p+1))) f))):=(Off.of_below y).setCell (.inl rfl) _;have HP:=zC M;clear d4 f4 U A hl4 E H ho4 y M V O c3 S ho3;generalize m.setCell ⟨D,2,none⟩ (.slice c (p+(G.length-(p+1))) f)=L at hX5 hY5 FIN HP |-;obtain⟨xl,av,aw,ax,ay⟩:=hX5;obtain⟨yl,az,b0,b1,b2⟩:=hY5;go_wp2_with fail;(try simp only[Exit.inBlock,Exit.then])
 refine bodyPost_ret (v:=.tuple #[.agg #[.int .i64 n,.string q],.int .i64 0]) ?_ rfl ⟨rfl,?_⟩;.rw [results_cell_tmp rfl];go_simp
 have o6:Off (λk=>k=w.heap.size) L ((L.setCell ⟨w.heap.size,0,none⟩ (.int .i64 n)).setCell ⟨w.heap.size,1,none⟩ (.string q)):=((Off.refl _ _).setCell (K:=λk=>k=w.heap.size) rfl _).setCell (K:=λk=>k=w.heap.size) rfl _;refine⟨_,HP.out.off o6 (λk hk e=>?_),bM (bM FIN.out (Nat.le_refl _) _) (Nat.le_refl _) _,λk hk=>.inr (a2 k hk)⟩;rcases hk with hk|hk;.omega
 exact ab k hk e
theorem bU{i:Int}(h:qa G i=false):i<0\/(0<=i/\(G.length:Int)<=i):=by
 have h:=of_decide_eq_false h;omega
theorem zp4(h:Lnk Q w 60 2 B D v G)(i:Int):Calls Tryz.prog 25 #[.pointer (some ⟨D,0,none⟩),.int .i64 i] w λe E=>e=.returned (.tuple #[.agg #[.int .i64 (kz G i).1,.string (kz G i).2],.int .i64 (xU G i)])/\Turn Q w E 60 2 B D v (yI G i):=by
 cases a:qa G i with
 |false=>
  rw[KL a,KI a,KJ a];rcases bU a with a|a;exact (zp6 h i a).mono λe E ⟨b,c⟩=>⟨b,Turn.below h c⟩;exact (zp5 h i a).mono λe E ⟨b,c⟩=>⟨b,Turn.below h c⟩
 |true=>
  obtain⟨p,e,f⟩:=Zi a;rw[XT a,XQ a,XR a];have d:i.toNat=p:=by omega
  rw[d];exact zp7 h p f i e
theorem zqr(h:Lnk Q w 60 2 B D v G)(p:Nat)(g:p<G.length)(i:Int)(b:i=(p:Int))(f:40<=(G.length:Int)):Cs 26 #[.pointer (some ⟨D,0,none⟩),.int .i64 i] w (.int .i64 4):=by
 obtain⟨a,d,rfl⟩:=h.shape;have c:=h.c;subst b;have j:(p:Int)<(G.length:Int):=by omega
 clear h;generalize G.length=n at*;go_enter Tryz.func26,Tryz.ntmps26
 go_wp2_with fail;go_ret;exact⟨rfl,rfl⟩
theorem zqu(h:Lnk Q w 60 2 B D v G)(p:Nat)(n:p<G.length)(i:Int)(I:i=(p:Int))(z:G.length<40):Calls Tryz.prog 26 #[.pointer (some ⟨D,0,none⟩),.int .i64 i] w λe E=>e=.returned (.int .i64 0)/\Turn Q w E 60 2 B D v (G++[at' G p]):=by
 obtain⟨a,f,rfl⟩:=h.shape;obtain⟨g,a0,rfl,_,a2,a4,a5,H,a8,L,A,m⟩:=h.rows (by omega);subst I;have a7:=h.lt (k:=D) (.inl rfl);obtain⟨W,X⟩:=m p n;rw[Nat.zero_add]at W X;have a3:=h.inv.few;have Y:Hid (∀j u,(flat G)[j]? =some u->w.cell? ⟨g,j,none⟩=some u):=λj u q=>by
  have:=QQ m j u q;rw[Addr.add_lit,Nat.zero_add]at this;exact this
 have V:Hid (Lnk Q w 60 2 B D (.slice (some ⟨g,0,none⟩) G.length f) G):=h;have a9:(p:Int)<(G.length:Int):=by omega
 have aa:(p:Int)<=40:=by omega
 have a6:=h.le;obtain⟨S,J,N,O,R⟩:=info_parts XY;have Z:=h.c;have a1:(G.length:Int)<40:=by omega
 have HI:Hid (Inv (G++[((at' G p).1,(at' G p).2)])):=h.inv.add (h.inv.ok _ (at_mem n)).1 z (h.inv.ok _ (at_mem n)).2;have s:at' G p=((at' G p).1,(at' G p).2):=rfl;rw[s];clear s;generalize(at' G p).1=c at*;generalize(at' G p).2=d at*;have o:Hid ((G++[(c,d)]).length=G.length+1):=by show(G++[(c,d)]).length=G.length+1;simp
 have U:Hid (flat (G++[(c,d)])=flat G++flat [(c,d)]):=xL _ _;have l:Below w.heap.size w (w.drew.alloc (.cells #[.int .i64 c,.string d] 60)):=(Below.refl w.heap.size w).drew.alloc (Nat.le_refl _) _;have b:=h.below l;have c2:=b.c;have M:=b.row;clear h m H A L;go_enter Tryz.func26,Tryz.ntmps26
 go_wp2_with fail;go_region_law (refine vR rfl (.tmp 26) (.tmp 34) 50 rfl B 60 S _ 2 24 Tryz.underlying50 J N O R rfl (by decide) (.slice (some ⟨g,0,none⟩) G.length f) G.length (flat G) (by simp[Act.eval,Act.put]) M ⟨w.heap.size,0,none⟩ 1 1 (flat [(c,d)]) (by simp[Act.eval,Act.put]) rfl (XA w.drew _ _ _) (λu q=>wV u q) (by unfold maxLen;omega) (by omega) b.le ?_;intro v' T ho3 C hl3;obtain⟨x,t,rfl⟩:=wh ho3 (by omega);have r:=Off.of_grown (K:=λk=>(Value.slice (some ⟨g,0,none⟩) G.length f).ownBlock=some k) C (λk e=>e);have d2:=r.cell b.c (λe=>b.nv D e rfl);have df:=(r.frozen (p:=⟨D,2,none⟩) (b.lt (.inl rfl)) (λe=>b.nv D e rfl)).trans b.f)
 all_goals (try go_wp2_with fail)
 all_goals go_ret
 all_goals
  have P:Off (λk=>(Value.slice (some ⟨g,0,none⟩) G.length f).ownBlock=some k) w T:=(Off.of_below l).trans r
  have F:∀k,(Value.slice (some ⟨x,0,none⟩) (G.length+1) t).ownBlock=some k->(Value.slice (some ⟨g,0,none⟩) G.length f).ownBlock=some k\/w.heap.size<=k:=λk y=>by
   rcases hl3 with e|e
   .exact .inl (e.symm.trans y)
   .right
    have e2:k=(w.drew.alloc (.cells #[.int .i64 c,.string d] 60)).heap.size:=Option.some.inj (y.symm.trans e)
    have:=l.size
    omega
  exact⟨rfl,_,V.out.put P (v':=.slice (some ⟨x,0,none⟩) (G.length+1) t) (by rw[o.out,U.out];exact ho3) F HI.out,(P.mono (λk _ e=>.inr e)).setCell (.inl rfl) _,F⟩
theorem zqq(h:Lnk Q w 60 2 B D v G)(i:Int):Calls Tryz.prog 26 #[.pointer (some ⟨D,0,none⟩),.int .i64 i] w λe E=>e=.returned (.int .i64 (xk G i))/\Turn Q w E 60 2 B D v (vg G i):=by
 cases hq:qa G i with
 |false=>
  rw[Vz (by rw[JS hq];decide),JS hq];rcases bU hq with hq|hq;exact (zqt h i hq).mono λe E ⟨a,b⟩=>⟨a,by rw[b];exact Turn.same h⟩;exact (zqs h i hq).mono λe E ⟨a,b⟩=>⟨a,by rw[b];exact Turn.same h⟩
 |true=>
  obtain⟨p,rfl,d⟩:=Zi hq;by_cases c:40<=G.length;have e:xk G (p:Int)=4:=by unfold xk;rw[if_pos hq,if_pos c]
  rw[Vz (by rw[e];decide),e];exact(zqr h p d _ rfl (by omega)).mono λe E ⟨a,b⟩=>⟨a,by rw[b];exact Turn.same h⟩;have e:xk G (p:Int)=0:=by unfold xk;rw[if_pos hq,if_neg c]
  have f:vg G (p:Int)=G++[at' G p]:=by unfold vg;rw[if_pos e,Int.toNat_natCast]
  rw[f,e];exact zqu h p d _ rfl (by omega)
theorem Ki(w:World):Calls Tryz.prog 46 #[] w λe E=>e=.returned (.pointer (some ⟨w.heap.size,0,none⟩))/\E=w.alloc (.cells #[.slice none 0 0] 93):=by
 have a:∀W:World,(zeroValue 93).run Tryz.prog W=.ok (.agg #[.slice none 0 0]) W:=λW=>by kernel_rfl
 go_enter Tryz.func46,Tryz.ntmps46
 go_wp2;go_ret;exact⟨rfl,rfl⟩
end Go.Proofs.YtdokgalidhmbbaaGreatDoor.Lk
namespace Go.Proofs.YtdokgalidhmbbaaGreatDoor.Ez
open Go.RowKit Go.Lib Go.Sort
open Sx (zP)
variable {pz : Nat} {Qz : Nat -> Option Value}
theorem Vf(X:World)(o q r:Nat)(h:q<=r)(d:r<=60):(Instr.sliceAt 96 (.pointer (some ⟨o,pz,none⟩)) (some (.int .i64 (q:Int))) (some (.int .i64 (r:Int))) none).run Tryz.prog X=.ok (.slice (some ⟨o,jc pz q,none⟩) (r-q) (60-q)) X:=by
 have a:Tryz.prog.arrayLen 96=60:=by kernel_rfl
 have c:(sizeOf (Tryz.prog.elem 96)).run Tryz.prog X=.ok 1 X:=by kernel_rfl
 rw[run_sliceAt_array_lh X 96 ⟨o,pz,none⟩ (by kernel_rfl) .i64 .i64 (q:Int) (r:Int) (by omega) (by omega) (by rw[a];omega),c];simp only[Result.andThen,slicedAt,a,jc,Addr.add_lit];by_cases e:60=q;subst e;simp<;>omega
 have b:¬60=(q:Int).toNat:=by omega
 rw[if_neg b,if_neg e];simp<;>omega
variable {w:World}{o q r:Nat}
theorem zdf{X:World}{B:Nat}{C A:Value}{e:En}(h:EP pz Qz w B o C A e)(c:Below w.heap.size w X)(j:q<=r)(f:r<=e.d.size):(convert 37 9 (.slice (some ⟨o,jc pz q,none⟩) (r-q) (60-q))).run Tryz.prog X=.ok (.string (e.d.extract q r)) X:=by
 rw[<-zr4 (a:=q) f];refine run_convert_bytes_arg _ 37 5 Tryz.underlying37 Tryz.underlying5 o (jc pz q) _ _ _ (by simp) (λi d=>?_) 9 Tryz.underlying9;have g:=h.inv.d60;have b:jc pz q+i=pz+(q+i):=by unfold jc;rw[if_neg (by omega)];omega
 rw[b,(c.cell (p:=⟨o,pz+(q+i),none⟩) h.lt).trans (h.out (q+i) (by omega))];simp[d]
theorem pf_a{T E p P:Nat}{l:Int}{s:ByteArray}(Y:l<(P:Int))(N:l=(E:Int))(z:E<=60)(A:T<=E)(G:p<=E)(H:q=max p T)(J:r=min E (q+20))(B:o<w.heap.size)
  (U:w.cell? ⟨o,pz+60,none⟩=some (.int .i64 (P:Int))) (Q:w.cell? ⟨o,pz+121,none⟩=some (.int .i64 l)) (K:∀i,i<60->w.cell? ⟨o,pz+61+i,none⟩=some (.bool (decide (i<T))))
  (C:∀X,Below w.heap.size w X->(convert 37 9 (.slice (some ⟨o,jc pz q,none⟩) (r-q) (60-q))).run Tryz.prog X=.ok (.string s) X)
  (n:∀X,(Instr.sliceAt 96 (.pointer (some ⟨o,pz,none⟩)) (some (.int .i64 (q:Int))) (some (.int .i64 (r:Int))) none).run Tryz.prog X=.ok (.slice (some ⟨o,jc pz q,none⟩) (r-q) (60-q)) X):
  Cl 150 #[.pointer (some ⟨o,pz,none⟩),.int .i64 (p:Int)] w (.agg #[.int .i64 (q:Int),.string s]):=by
 have hb0:Below w.heap.size w (w.alloc (.cells #[.int .i64 0,.string {data:=#[]}] 146)):=(Below.refl _ _).alloc (Nat.le_refl _) _;have k60:=(hb0.cell (p:=⟨o,pz+60,none⟩) B).trans U;have k121:=(hb0.cell (p:=⟨o,pz+121,none⟩) B).trans Q;have j:Hid (q=max p T/\p<=E/\T<=E):=⟨H,G,A⟩;have a:Hid (r=min E (q+20)/\q<=E/\E<=60):=⟨J,by omega,z⟩;have x:=zC C;have y:=zC n;have HT0:Hid (∀i,i<60->(w.alloc (.cells #[.int .i64 0,.string {data:=#[]}] 146)).cell? ⟨o,pz+61+i,none⟩=some (.bool (decide (i<T)))):=λi O=>(hb0.cell (p:=⟨o,pz+61+i,none⟩) B).trans (K i O)
 have z0:(w.alloc (.cells #[.int .i64 0,.string {data:=#[]}] 146)).cell? ⟨w.heap.size,0,none⟩=some (.int .i64 0):=by simp
 have z1:(w.alloc (.cells #[.int .i64 0,.string {data:=#[]}] 146)).cell? ⟨w.heap.size,1,none⟩=some (.string {data:=#[]}):=by simp
 have zf:∀i,(w.alloc (.cells #[.int .i64 0,.string {data:=#[]}] 146)).frozen? ⟨w.heap.size,i,none⟩=false:=λi=>by simp
 clear H G A J z U Q K C n;subst N;go_enter Tryz.func150,Tryz.ntmps150
 go_wp2_with fail;generalize w.alloc (.cells #[.int .i64 0,.string {data:=#[]}] 146)=W at*;go_quiet (fail)
 have HB0:Hid (Below w.heap.size w (W.drewN nq)):=below_drewN hb0 nq;have HT:Hid (∀i,i<60->(W.drewN nq).cell? ⟨o,pz+61+i,none⟩=some (.bool (decide (i<T)))):=HT0;have y0:(W.drewN nq).cell? ⟨w.heap.size,0,none⟩=some (.int .i64 0):=z0;have y1:(W.drewN nq).cell? ⟨w.heap.size,1,none⟩=some (.string {data:=#[]}):=z1;have yf:∀i,(W.drewN nq).frozen? ⟨w.heap.size,i,none⟩=false:=zf;clear HT0 z0 z1 zf hb0 k60 k121
 generalize W.drewN nq=b at*;go_wp2_with fail;go_loopg [1] (q-p) (λgk R h=>∃k:Nat,gk+k=q/\p<=k/\R=.int .i64 k/\Hid (b=h))
 case atStart=>exact⟨p,by have:=j.out;omega,Nat.le_refl _,rfl,rfl⟩
 case round=>
  obtain⟨k,d,Z,rfl,HW⟩:=hrel;have c:Hid (gk+k=q):=d;clear d;obtain rfl:=HW.out;clear HW;have u:Below w.heap.size w b:=HB0.out;by_cases g:k<q
  .have m:(k:Int)<(E:Int):=by have:=j.out;omega
   have V:(k:Int)<60:=by have:=a.out;omega
   have F:b.cell? ⟨o,pz+61+k,none⟩=some (.bool true):=by
    have:=HT.out k (by have:=a.out;omega);rw[this,decide_eq_true (by have:=j.out;omega)]
   go_wp2_with fail;go_roundg (q-(k+1))
   case measure=>have:=c.out;omega
   case rel=>exact⟨k+1,by have:=c.out;omega,by omega,by go_num,rfl⟩
  obtain rfl:q=k:=by have:=c.out;omega
  by_cases m:(q:Int)<(E:Int)
  .have V:(q:Int)<60:=by have:=a.out;omega
   have F:b.cell? ⟨o,pz+61+q,none⟩=some (.bool false):=by
    have:=HT.out q (by have:=a.out;omega);rw[this,decide_eq_false (by have:=j.out;omega)]
   by_cases M:(q:Int)+20<(E:Int)
   .go_wp2_with fail;go_loopg [6] (r-q) (λgk t h=>∃k:Nat,gk+k=r/\q<=k/\t=.int .i64 k/\Hid (b=h))
    case atStart=>exact⟨q,by have:=a.out;omega,Nat.le_refl _,rfl,rfl⟩
    case round=>
     obtain⟨k,d,I,rfl,HW⟩:=hrel;have c:Hid (gk+k=r):=d;clear d;obtain rfl:=HW.out;clear HW;by_cases g:k<r
     .have F:b.cell? ⟨o,pz+61+k,none⟩=some (.bool false):=by
       have:=HT.out k (by have:=a.out;omega);rw[this,decide_eq_false (by have:=j.out;omega)]
      have m:(k:Int)<(q:Int)+20:=by have:=a.out;omega
      have L:(k:Int)<60:=by have:=a.out;omega
      go_wp2_with fail;go_roundg (r-(k+1))
      case measure=>have:=c.out;omega
      case rel=>exact⟨k+1,by have:=c.out;omega,by omega,by go_num,rfl⟩
     obtain rfl:r=k:=by have:=c.out;omega
     have m:¬(r:Int)<(q:Int)+20:=by have:=a.out;omega
     have n:=y.out;have f:=zC u;have D:=x.out b f.out;go_wp2_with fail;refine bodyPost_ret (v:=.agg #[.int .i64 (q:Int),.string s]) ?_ rfl ⟨rfl,?_⟩;.rw [ZO rfl];go_simp
     exact ((f.out.setCell (p:=⟨w.heap.size,0,none⟩) (Nat.le_refl _) _).setCell (p:=⟨w.heap.size,1,none⟩) (Nat.le_refl _) _)
   go_wp2_with fail;go_loopg [6] (r-q) (λgk t h=>∃k:Nat,gk+k=r/\q<=k/\t=.int .i64 k/\Hid (b=h))
   case atStart=>exact⟨q,by have:=a.out;omega,Nat.le_refl _,rfl,rfl⟩
   case round=>
    obtain⟨k,d,I,rfl,HW⟩:=hrel;have c:Hid (gk+k=r):=d;clear d;obtain rfl:=HW.out;clear HW;by_cases g:k<r
    .have F:b.cell? ⟨o,pz+61+k,none⟩=some (.bool false):=by
      have:=HT.out k (by have:=a.out;omega);rw[this,decide_eq_false (by have:=j.out;omega)]
     have m:(k:Int)<(E:Int):=by have:=a.out;omega
     have L:(k:Int)<60:=by have:=a.out;omega
     go_wp2_with fail;go_roundg (r-(k+1))
     case measure=>have:=c.out;omega
     case rel=>exact⟨k+1,by have:=c.out;omega,by omega,by go_num,rfl⟩
    obtain rfl:r=k:=by have:=c.out;omega
    have m:¬(r:Int)<(E:Int):=by have:=a.out;omega
    have n:=y.out;have f:=zC u;have D:=x.out b f.out;go_wp2_with fail;refine bodyPost_ret (v:=.agg #[.int .i64 (q:Int),.string s]) ?_ rfl ⟨rfl,?_⟩;.rw [ZO rfl];go_simp
    exact ((f.out.setCell (p:=⟨w.heap.size,0,none⟩) (Nat.le_refl _) _).setCell (p:=⟨w.heap.size,1,none⟩) (Nat.le_refl _) _)
  have M:¬(q:Int)+20<(E:Int):=by omega
  have V:(q:Int)<=60:=by have:=a.out;omega
  go_wp2_with fail;go_loopg [6] (r-q) (λgk t h=>∃k:Nat,gk+k=r/\q<=k/\t=.int .i64 k/\Hid (b=h))
  case atStart=>exact⟨q,by have:=a.out;omega,Nat.le_refl _,rfl,rfl⟩
  case round=>
   obtain⟨k,d,I,rfl,HW⟩:=hrel;have c:Hid (gk+k=r):=d;clear d;obtain rfl:=HW.out;clear HW;by_cases g:k<r
   .exfalso
    have:=a.out
    omega
   obtain rfl:r=k:=by have:=c.out;omega
   have m:¬(r:Int)<(E:Int):=by have:=a.out;omega
   have n:=y.out;have f:=zC u;have D:=x.out b f.out;go_wp2_with fail;refine bodyPost_ret (v:=.agg #[.int .i64 (q:Int),.string s]) ?_ rfl ⟨rfl,?_⟩;.rw [ZO rfl];go_simp
   exact ((f.out.setCell (p:=⟨w.heap.size,0,none⟩) (Nat.le_refl _) _).setCell (p:=⟨w.heap.size,1,none⟩) (Nat.le_refl _) _)
theorem pf_b{T E p u:Nat}{l:Int}{s:ByteArray}(Y:¬l<(u:Int))(N:E=u)(z:E<=60)(A:T<=E)(G:p<=E)(H:q=max p T)(J:r=min E (q+20))(F:o<w.heap.size)
  (U:w.cell? ⟨o,pz+60,none⟩=some (.int .i64 (u:Int))) (Q:w.cell? ⟨o,pz+121,none⟩=some (.int .i64 l)) (K:∀i,i<60->w.cell? ⟨o,pz+61+i,none⟩=some (.bool (decide (i<T))))
  (C:∀X,Below w.heap.size w X->(convert 37 9 (.slice (some ⟨o,jc pz q,none⟩) (r-q) (60-q))).run Tryz.prog X=.ok (.string s) X)
  (n:∀X,(Instr.sliceAt 96 (.pointer (some ⟨o,pz,none⟩)) (some (.int .i64 (q:Int))) (some (.int .i64 (r:Int))) none).run Tryz.prog X=.ok (.slice (some ⟨o,jc pz q,none⟩) (r-q) (60-q)) X):
  Cl 150 #[.pointer (some ⟨o,pz,none⟩),.int .i64 (p:Int)] w (.agg #[.int .i64 (q:Int),.string s]):=by
 have hb0:Below w.heap.size w (w.alloc (.cells #[.int .i64 0,.string {data:=#[]}] 146)):=(Below.refl _ _).alloc (Nat.le_refl _) _;have k60:=(hb0.cell (p:=⟨o,pz+60,none⟩) F).trans U;have k121:=(hb0.cell (p:=⟨o,pz+121,none⟩) F).trans Q;have j:Hid (q=max p T/\p<=E/\T<=E):=⟨H,G,A⟩;have a:Hid (r=min E (q+20)/\q<=E/\E<=60):=⟨J,by omega,z⟩;have y:=zC C;have B:=zC n;have HT0:Hid (∀i,i<60->(w.alloc (.cells #[.int .i64 0,.string {data:=#[]}] 146)).cell? ⟨o,pz+61+i,none⟩=some (.bool (decide (i<T)))):=λi O=>(hb0.cell (p:=⟨o,pz+61+i,none⟩) F).trans (K i O)
 have z0:(w.alloc (.cells #[.int .i64 0,.string {data:=#[]}] 146)).cell? ⟨w.heap.size,0,none⟩=some (.int .i64 0):=by simp
 have z1:(w.alloc (.cells #[.int .i64 0,.string {data:=#[]}] 146)).cell? ⟨w.heap.size,1,none⟩=some (.string {data:=#[]}):=by simp
 have zf:∀i,(w.alloc (.cells #[.int .i64 0,.string {data:=#[]}] 146)).frozen? ⟨w.heap.size,i,none⟩=false:=λi=>by simp
 clear H G A J z U Q K C n;subst N;go_enter Tryz.func150,Tryz.ntmps150
 go_wp2_with fail;generalize w.alloc (.cells #[.int .i64 0,.string {data:=#[]}] 146)=W at*;go_quiet (fail)
 have HB0:Hid (Below w.heap.size w (W.drewN nq)):=below_drewN hb0 nq;have HT:Hid (∀i,i<60->(W.drewN nq).cell? ⟨o,pz+61+i,none⟩=some (.bool (decide (i<T)))):=HT0;have y0:(W.drewN nq).cell? ⟨w.heap.size,0,none⟩=some (.int .i64 0):=z0;have y1:(W.drewN nq).cell? ⟨w.heap.size,1,none⟩=some (.string {data:=#[]}):=z1;have yf:∀i,(W.drewN nq).frozen? ⟨w.heap.size,i,none⟩=false:=zf;clear HT0 z0 z1 zf hb0 k60 k121
 generalize W.drewN nq=b at*;go_wp2_with fail;go_loopg [1] (q-p) (λgk R h=>∃k:Nat,gk+k=q/\p<=k/\R=.int .i64 k/\Hid (b=h))
 case atStart=>exact⟨p,by have:=j.out;omega,Nat.le_refl _,rfl,rfl⟩
 case round=>
  obtain⟨k,d,Z,rfl,HW⟩:=hrel;have c:Hid (gk+k=q):=d;clear d;obtain rfl:=HW.out;clear HW;have x:Below w.heap.size w b:=HB0.out;by_cases g:k<q
  .have m:(k:Int)<(E:Int):=by have:=j.out;omega
   have V:(k:Int)<60:=by have:=a.out;omega
   have P:b.cell? ⟨o,pz+61+k,none⟩=some (.bool true):=by
    have:=HT.out k (by have:=a.out;omega);rw[this,decide_eq_true (by have:=j.out;omega)]
   go_wp2_with fail;go_roundg (q-(k+1))
   case measure=>have:=c.out;omega
   case rel=>exact⟨k+1,by have:=c.out;omega,by omega,by go_num,rfl⟩
  obtain rfl:q=k:=by have:=c.out;omega
  by_cases m:(q:Int)<(E:Int)
  .have V:(q:Int)<60:=by have:=a.out;omega
   have P:b.cell? ⟨o,pz+61+q,none⟩=some (.bool false):=by
    have:=HT.out q (by have:=a.out;omega);rw[this,decide_eq_false (by have:=j.out;omega)]
   by_cases M:(q:Int)+20<(E:Int)
   .go_wp2_with fail;go_loopg [6] (r-q) (λgk t h=>∃k:Nat,gk+k=r/\q<=k/\t=.int .i64 k/\Hid (b=h))
    case atStart=>exact⟨q,by have:=a.out;omega,Nat.le_refl _,rfl,rfl⟩
    case round=>
     obtain⟨k,d,I,rfl,HW⟩:=hrel;have c:Hid (gk+k=r):=d;clear d;obtain rfl:=HW.out;clear HW;by_cases g:k<r
     .have P:b.cell? ⟨o,pz+61+k,none⟩=some (.bool false):=by
       have:=HT.out k (by have:=a.out;omega);rw[this,decide_eq_false (by have:=j.out;omega)]
      have m:(k:Int)<(q:Int)+20:=by have:=a.out;omega
      have L:(k:Int)<60:=by have:=a.out;omega
      go_wp2_with fail;go_roundg (r-(k+1))
      case measure=>have:=c.out;omega
      case rel=>exact⟨k+1,by have:=c.out;omega,by omega,by go_num,rfl⟩
     obtain rfl:r=k:=by have:=c.out;omega
     have m:¬(r:Int)<(q:Int)+20:=by have:=a.out;omega
     have n:=B.out;have f:=zC x;have D:=y.out b f.out;go_wp2_with fail;refine bodyPost_ret (v:=.agg #[.int .i64 (q:Int),.string s]) ?_ rfl ⟨rfl,?_⟩;.rw [ZO rfl];go_simp
     exact ((f.out.setCell (p:=⟨w.heap.size,0,none⟩) (Nat.le_refl _) _).setCell (p:=⟨w.heap.size,1,none⟩) (Nat.le_refl _) _)
   go_wp2_with fail;go_loopg [6] (r-q) (λgk t h=>∃k:Nat,gk+k=r/\q<=k/\t=.int .i64 k/\Hid (b=h))
   case atStart=>exact⟨q,by have:=a.out;omega,Nat.le_refl _,rfl,rfl⟩
   case round=>
    obtain⟨k,d,I,rfl,HW⟩:=hrel;have c:Hid (gk+k=r):=d;clear d;obtain rfl:=HW.out;clear HW;by_cases g:k<r
    .have P:b.cell? ⟨o,pz+61+k,none⟩=some (.bool false):=by
      have:=HT.out k (by have:=a.out;omega);rw[this,decide_eq_false (by have:=j.out;omega)]
     have m:(k:Int)<(E:Int):=by have:=a.out;omega
     have L:(k:Int)<60:=by have:=a.out;omega
     go_wp2_with fail;go_roundg (r-(k+1))
     case measure=>have:=c.out;omega
     case rel=>exact⟨k+1,by have:=c.out;omega,by omega,by go_num,rfl⟩
    obtain rfl:r=k:=by have:=c.out;omega
    have m:¬(r:Int)<(E:Int):=by have:=a.out;omega
    have n:=B.out;have f:=zC x;have D:=y.out b f.out;go_wp2_with fail;refine bodyPost_ret (v:=.agg #[.int .i64 (q:Int),.string s]) ?_ rfl ⟨rfl,?_⟩;.rw [ZO rfl];go_simp
    exact ((f.out.setCell (p:=⟨w.heap.size,0,none⟩) (Nat.le_refl _) _).setCell (p:=⟨w.heap.size,1,none⟩) (Nat.le_refl _) _)
  have M:¬(q:Int)+20<(E:Int):=by omega
  have V:(q:Int)<=60:=by have:=a.out;omega
  go_wp2_with fail;go_loopg [6] (r-q) (λgk t h=>∃k:Nat,gk+k=r/\q<=k/\t=.int .i64 k/\Hid (b=h))
  case atStart=>exact⟨q,by have:=a.out;omega,Nat.le_refl _,rfl,rfl⟩
  case round=>
   obtain⟨k,d,I,rfl,HW⟩:=hrel;have c:Hid (gk+k=r):=d;clear d;obtain rfl:=HW.out;clear HW;by_cases g:k<r
   .exfalso
    have:=a.out
    omega
   obtain rfl:r=k:=by have:=c.out;omega
   have m:¬(r:Int)<(E:Int):=by have:=a.out;omega
   have n:=B.out;have f:=zC x;have D:=y.out b f.out;go_wp2_with fail;refine bodyPost_ret (v:=.agg #[.int .i64 (q:Int),.string s]) ?_ rfl ⟨rfl,?_⟩;.rw [ZO rfl];go_simp
   exact ((f.out.setCell (p:=⟨w.heap.size,0,none⟩) (Nat.le_refl _) _).setCell (p:=⟨w.heap.size,1,none⟩) (Nat.le_refl _) _)
theorem zmx{B:Nat}{C A:Value}{e:En}(h:EP pz Qz w B o C A e)(p:Nat)(d:p<=en e):
  Cl 150 #[.pointer (some ⟨o,pz,none⟩),.int .i64 (p:Int)] w (.agg #[.int .i64 ((max p e.t:Nat):Int),.string (e.d.extract (max p e.t) (min (en e) (max p e.t+20)))]):=by
 have a:=h.inv.en60;have g:=h.inv.t1;have k:=ky e;have l:=h.inv.l0;have b:∀X,Below w.heap.size w X->(convert 37 9 (.slice (some ⟨o,jc pz (max p e.t),none⟩) (min (en e) (max p e.t+20)-max p e.t) (60-max p e.t))).run Tryz.prog X=.ok (.string (e.d.extract (max p e.t) (min (en e) (max p e.t+20)))) X:=λX j=>zdf h j (by omega) (by omega);have f:=λX=>Vf (pz:=pz) X o (max p e.t) (min (en e) (max p e.t+20)) (by omega) (by omega)
 by_cases c:e.l<(e.d.size:Int);exact pf_a c (by unfold en;omega) a g d rfl rfl h.lt (h.cl 60 (by omega)) (h.cl 121 (by omega)) h.told b f;exact pf_b c (by unfold en;omega) a g d rfl rfl h.lt (h.cl 60 (by omega)) (h.cl 121 (by omega)) h.told b f
end Go.Proofs.YtdokgalidhmbbaaGreatDoor.Ez
namespace Go.Proofs.YtdokgalidhmbbaaGreatDoor.Ez
open Go.RowKit Go.Lib Go.Sort
open Sx (zP)
variable {pz : Nat} {Qz : Nat -> Option Value}
theorem zm5{w:World}{B Q:Nat}{C A:Value}{e:En}(h:EP pz Qz w B Q C A e):
  Calls Tryz.prog 124 #[.pointer (some ⟨Q,pz,none⟩)] w λU E=>∃v,U=.returned v/\E.ownsRow w.heap.size 146 2 v (pieces e).length (zz (pieces e))/\Below w.heap.size w E:=by
 obtain⟨i0,a4,a5,a6,a7⟩:=info_parts Yp;have P:=zC h;clear h;go_enter Tryz.func124,Tryz.ntmps124
 go_wp2_with fail;go_loopg [3,4,6] 3 (λgk s3 s4 s6 R=>∃(k m:Nat) (r:Option Addr) (c:Nat) (l:List (Nat×ByteArray)),gk+k=3/\m<=en e/\Hid (l++z8 e.d (en e) (3-k) (max m e.t)=pieces e)/\l.length<=k/\s3=.slice r l.length c/\s4=.int .i64 m/\s6=.int .i64 k/\R.ownsRow w.heap.size 146 2 (.slice r l.length c) l.length (zz l)/\Below w.heap.size w R)
 case atStart=>exact⟨0,0,none,0,[],rfl,Nat.zero_le _,(by show[]++z8 e.d (en e) 3 (max 0 e.t)=_;rw[Nat.zero_max];rfl),Nat.le_refl _,rfl,rfl,rfl,World.ownsRow_nil _ _ _ _,Below.refl _ _⟩
 case round=>
  obtain⟨k,m,r,c,l,J,N,hP,aa,rfl,rfl,rfl,q,f⟩:=hrel;have F:Hid (gk+k=3):=J;have D:Hid (m<=en e):=N;clear J N;by_cases g:(k:Int)<3
  .have hcall:=zmx (P.out.below f) m D.out;have a0:=P.out.inv.en60;have a3:=ky e;obtain⟨a,H⟩:∃a,max m e.t=a:=⟨_,rfl⟩;have a2:a<=en e:=by have:=D.out;have:=P.out.inv.t1;omega
   rw[H]at hcall hP;have T:Hid (e.t<=a):=by show _<=_;omega
   clear H;by_cases g2:a<en e
   .obtain ⟨s,x⟩:∃s,e.d.extract a (min (en e) (a+20))=s:=⟨_,rfl⟩;have O:s.size=min (en e) (a+20)-a:=by rw[<-x,ByteArray.size_extract];omega
    have ab:s.toList.isEmpty=false:=toList_some (by omega);have S:Hid ((l++[(a,s)])++z8 e.d (en e) (3-(k+1)) (max (a+s.size) e.t)=pieces e):=by
     show _=_;rw[<-hP.out,List.append_assoc,show 3-k=(3-(k+1))+1 by omega,O,show max (a+(min (en e) (a+20)-a)) e.t=min (en e) (a+20) by have:=T.out;omega];simp only[z8,if_pos g2,x];rfl
    rw[x]at hcall;have W:Hid (a+s.size<=en e):=by show _<=_;omega
    have ac:s.size<=20:=by omega
    have a8:a<=60:=by omega
    clear x O hP a2 a0 a3;go_wp2_with fail;refine hcall.mono ?_;rintro U d ⟨rfl,j⟩;clear hcall;have i:=f.trans (j.mono f.size);have n:=own_below q j;have L:some d.heap.size≠(Value.slice r l.length c).ownBlock:=λe=>by have:=(n.lt _ e.symm).2;omega
    have t:=n.alloc (.cells #[.int .i64 (a:Int),.string s] 146);have p:=i.alloc i.size (.cells #[.int .i64 (a:Int),.string s] 146);have M:=t.alloc (.cells #[.int .i64 (a:Int),.string s] 146);have G:=p.alloc p.size (.cells #[.int .i64 (a:Int),.string s] 146);have cs:=VD (d.alloc (.cells #[.int .i64 (a:Int),.string s] 146)) a s;rw[World.size_alloc]at cs;have K:=G.size;have q0:∀X,d.alloc (.cells #[.int .i64 (a:Int),.string s] 146)=X->X.cell? ⟨d.heap.size,0,none⟩=some (.int .i64 (a:Int))/\X.cell? ⟨d.heap.size,1,none⟩=some (.string s):=by rintro X rfl;simp
    clear f j q n t i p;go_wp2_with (at_builtin;refine wpList_append_own_at _ rfl (.tmp 14) (.tmp 16) 144 rfl w.heap.size 146 i0 _ 2 24 Tryz.underlying144 a4 a5 a6 a7 rfl (by decide) _ _ (zz l) rfl M ⟨d.heap.size+1,0,none⟩ 1 1 (zz [(a,s)]) rfl rfl cs (λu hu=>VE u hu) (by unfold maxLen;omega) (by omega) K ?_;intro v3 ad ho12 V _ a9;obtain⟨Y,Z,rfl⟩:=qL ho12;have d0:=cell_kept (b:=d.heap.size) (o:=0) (v:=.int .i64 (a:Int)) (by simp) V (by simp;omega) L;have d1:=cell_kept (b:=d.heap.size) (o:=1) (v:=.string s) (by simp) V (by simp;omega) L)
    have a1:=G.grown V K (λk e=>(M.lt k e).1);have z:(l++[(a,s)]).length=l.length+1:=by simp
    go_roundg (3-(k+1))
    case measure=>have:=F.out;omega
    case rel=>exact⟨k+1,a+s.size,Y,Z,l++[(a,s)],by have:=F.out;omega,W.out,S,by rw[z];omega,by rw[z],by go_num,by go_num,by rw[z,VC];exact ho12,a1⟩
   have I:e.d.extract a (min (en e) (a+20))={data:=#[]}:=zf9 (by omega);have y:Hid (pieces e=l):=by
    show _=_;rw[<-hP.out,show a=en e by omega,VG,List.append_nil]
   rw[I]at hcall;clear I hP;go_wp2_with fail;refine hcall.mono ?_;rintro U d ⟨rfl,j⟩;clear hcall;have i:=f.trans (j.mono f.size);have n:=own_below q j;have t:=n.alloc (.cells #[.int .i64 (a:Int),.string {data:=#[]}] 146);have p:=i.alloc i.size (.cells #[.int .i64 (a:Int),.string {data:=#[]}] 146);clear f j q n i;go_wp2_with fail;go_ret;exact⟨_,rfl,by rw[y.out];exact t,p⟩
  have y:Hid (pieces e=l):=by
   have h3:k=3:=by have:=F.out;omega
   show _=_;rw[<-hP.out,h3];simp[z8]
  clear hP;go_wp2_with fail;go_ret;exact⟨_,rfl,by rw[y.out];exact q,f⟩
end Go.Proofs.YtdokgalidhmbbaaGreatDoor.Ez
namespace Go.Proofs.YtdokgalidhmbbaaGreatDoor.Ez
open Go.RowKit Go.Lib Go.Sort
open Sx (zP)
variable {pz : Nat} {Qz : Nat -> Option Value}
variable {w:World}{B o:Nat}{e:En}
theorem zgm{vl vc:Value}(h:EP pz Qz w B o vl vc e)(u:e.cm=[]){r:Value}{V:Nat}{a:List (Nat×ByteArray)}(x:a=pieces e)(Q:w.ownsRow V 146 2 r a.length (zz a)):
  Calls Tryz.prog 126 #[.pointer (some ⟨o,pz,none⟩),r] w λJ w'=>∃v i,J=.returned v/\FOwn w' w.heap.size v i (qO e)/\Below w.heap.size w w':=by
 obtain⟨i0,R,a0,a1,a2⟩:=info_parts QU;have t:=zC h;have A:=zC Q;have W:a.length<=3:=by rw[x];exact yO _ _ _ _
 have a3:=zC W;have a4:Hid (∀p∈a,p.1<=60/\p.2.size<=20):=by
  show∀p∈a,_;intro p hp;rw[x]at hp;have:=Zk e.d (en e) (ky e) 3 e.t p hp;have:=h.inv.en60;omega
 have c250:=h.cl 250 (by omega);rw[vw]at c250;obtain⟨aj,cc,Z⟩:=qL h.cm;rw[Z]at c250;obtain⟨E,I,U⟩:=qL Q;have HVV:Hid (r=.slice E a.length I):=U;rw[U];have HF:Hid ([]++[(4,[e.c.lim],nilB)]++a.map qK=qO e):=by
  show _=_;rw[x];unfold qO;rw[if_pos u];rfl
 rw[u]at c250;simp only[List.length_nil]at c250;clear u;clear h Q x Z U W;go_enter Tryz.func126,Tryz.ntmps126
 have HX:Hid (FOwn w w.heap.size (.slice none 0 0) [] []):=FOwn.nil _ _;have b:Hid (Below w.heap.size w w):=Below.refl _ _;have HL:=λX (hX:Below w.heap.size w X)=>aD (t.out.below hX);have ae:=t.out.inv.c.l1;have af:=t.out.inv.c.l2;have ag:=t.out.inv.c.w1;have O:fF (4,[e.c.lim],nilB)=0:=KN (by omega) (by omega);have HGC:=zC O;clear ae af ag O;generalize e.c.lim=z at HL HGC HF;go_wp2_with (first|(go_at_call 154;refine(HL _ b.out).mono ?_;rintro J wy ⟨rfl,ad⟩;obtain rfl:=ad.symm)|(at_builtin;refine wpList_append_own_at _ rfl (.tmp 23) (.tmp 30) 139 rfl w.heap.size 141 i0 _ 3 48 Tryz.underlying139 R a0 a1 a2 rfl (by decide) _ _ (jA [] []) rfl ((HX.out.own.alloc _).alloc _) ⟨w.heap.size+1,0,none⟩ 1 1 [Value.int .i64 4,.slice (some ⟨w.heap.size,0,none⟩) 1 1,.string {data:=#[]}] rfl rfl (by have:=wR (w.alloc (.cells #[.int .i64 z] 3)) 4 (.slice (some ⟨w.heap.size,0,none⟩) 1 1) {data:=#[]} 141;rw[World.size_alloc]at this;exact this) (wW 4 _ 1 1 {data:=#[]}) (by unfold maxLen;simp) (by simp) (by have:=b.out.size;simp;omega) ?_;intro v5 w5 ho5 P aa hl5;clear aa;obtain⟨C,G,rfl⟩:=qL ho5))
 have Y:OwnI ((w.alloc (.cells #[.int .i64 z] 3)).alloc (.cells #[.int .i64 4,.slice (some ⟨w.heap.size,0,none⟩) 1 1,.string {data:=#[]}] 141)) w.heap.size (.slice (some ⟨w.heap.size,0,none⟩) 1 1) [z]:=(World.ownsRow_lit (base:=w.heap.size) (e:=3) (size:=1) w #[.int .i64 z] 1 b.out.size (by unfold maxLen;omega) rfl).alloc _;have j:Below w.heap.size w ((w.alloc (.cells #[.int .i64 z] 3)).alloc (.cells #[.int .i64 4,.slice (some ⟨w.heap.size,0,none⟩) 1 1,.string {data:=#[]}] 141)):=((Below.refl _ _).alloc (Nat.le_refl _) _).alloc (by simp) _
 have HX5:Hid (FOwn w5 w.heap.size (.slice C 1 G) ([]++[.slice (some ⟨w.heap.size,0,none⟩) 1 1]) ([]++[(4,[z],nilB)])):=(HX.out.below j).app (f:=(4,[z],nilB)) Y HGC.out ho5 P;have a6:Below w.heap.size w w5:=(b.out.trans (j.mono b.out.size)).grown P (by have:=b.out.size;simp;omega) (λk e=>(HX.out.own.lt k e).1);clear Y j ho5 P hl5 HX HL HGC b;generalize hU:([]++[Value.slice (some ⟨w.heap.size,0,none⟩) 1 1])=ai at HX5
 clear hU;generalize K:a.length=m at HVV |-;have l:Hid (a.length=m):=K;clear K;go_loopg [5,34] m (λgk s5 ah wr=>∃(k:Nat) (F:Option Addr) (c:Nat) (i:List Value),gk+k=m/\ah=.int .i64 k/\s5=.slice F (1+k) c/\Hid (FOwn wr w.heap.size (.slice F (1+k) c) i (([]++[(4,[z],nilB)])++(a.take k).map qK))/\Hid (Below w.heap.size w wr))
 case atStart=>exact⟨0,C,G,ai,rfl,rfl,rfl,(by show FOwn _ _ _ _ _;rw[List.take_zero,List.map_nil,List.append_nil];exact HX5.out),a6⟩
 case round=>
  obtain⟨k,F,c,i,S,rfl,rfl,HX,b⟩:=hrel;have y:Hid (gk+k=m):=S;clear S;have a8:=a3.out;rw[l.out]at a8;by_cases g:(k:Int)<(m:Int)
  .have q:k<a.length:=by have:=l.out;omega
   obtain⟨d,n,hv1,N⟩:∃d n,r=.slice (some ⟨d,0,none⟩) m n/\d<w.heap.size:=by
    rcases A.out.2 with⟨_,u⟩|⟨d,n,ak,h1,h2,h3,_⟩;.omega
    exact ⟨d,n,by rw[h1,l.out],(Array.getElem?_eq_some_iff.1 h3).1⟩
   have ac:Value.slice E m I=.slice (some ⟨d,0,none⟩) m n:=HVV.out.symm.trans hv1;injection ac with e1 e2 e3;subst e1 e3;have hvv:=A.out;rw[hv1,l.out]at hvv;have y0:=hvv.cellAt (k*2) (by omega);have y1:=hvv.cellAt (k*2+1) (by omega);rw[(wm a k q).1]at y0;rw[(wm a k q).2]at y1;have z0:=(b.out.cell (p:=⟨d,k*2,none⟩) N).trans y0;have z1:=(b.out.cell (p:=⟨d,k*2+1,none⟩) N).trans y1;have HN:Hid (([]++[(4,[z],nilB)])++(a.take (k+1)).map qK=(([]++[(4,[z],nilB)])++(a.take k).map qK)++[qK a[k]]):=by
    show _=_;rw[List.take_succ_eq_append_getElem q,List.map_append,List.append_assoc];rfl
   have hpe:=a4.out a[k] (List.getElem_mem q);have HGP:Hid (fF (qK a[k])=0):=KP (by omega) (by omega);have T:(([]++[(4,[z],nilB)])++(a.take k).map qK).length=1+k:=by simp;omega
   have HLK:=zC T;clear hvv hv1 y0 y1 T;generalize a[k]=pp at*;clear q;obtain⟨p,s⟩:=pp;simp only at z0 z1;generalize([]++[(4,[z],nilB)])++(a.take k).map qK=L at*;have hox:=HX.out.own;rw[HLK.out]at hox;have am:=b.out.size;clear hpe;go_wp2_with (at_builtin;refine wpList_append_own_at _ rfl (.tmp 38) (.tmp 45) 139 rfl w.heap.size 141 i0 _ 3 48 Tryz.underlying139 R a0 a1 a2 rfl (by decide) _ _ (jA i L) rfl (((hox.alloc _).alloc _).alloc _) ⟨wr.heap.size+1+1,0,none⟩ 1 1 [Value.int .i64 3,.slice (some ⟨wr.heap.size+1,0,none⟩) 1 1,.string s] rfl rfl (by have:=wR ((wr.alloc (.cells #[.int .i64 (p:Int),.string s] 146)).alloc (.cells #[.int .i64 (p:Int)] 3)) 3 (.slice (some ⟨wr.heap.size+1,0,none⟩) 1 1) s 141;rw[World.size_alloc,World.size_alloc]at this;exact this) (wW 3 _ 1 1 s) (by unfold maxLen;omega) (by omega) (by simp;omega) ?_;intro v7 w7 ho7 M ab al;clear ab;obtain⟨D,H,rfl⟩:=qL ho7)
   have a9:OwnI (((wr.alloc (.cells #[.int .i64 (p:Int),.string s] 146)).alloc (.cells #[.int .i64 (p:Int)] 3)).alloc (.cells #[.int .i64 3,.slice (some ⟨wr.heap.size+1,0,none⟩) 1 1,.string s] 141)) w.heap.size (.slice (some ⟨wr.heap.size+1,0,none⟩) 1 1) [(p:Int)]:=by
    have:=(World.ownsRow_lit (base:=w.heap.size) (e:=3) (size:=1) (wr.alloc (.cells #[.int .i64 (p:Int),.string s] 146)) #[.int .i64 (p:Int)] 1 (by simp;omega) (by unfold maxLen;omega) rfl).alloc (.cells #[.int .i64 3,.slice (some ⟨wr.heap.size+1,0,none⟩) 1 1,.string s] 141);rw[World.size_alloc]at this;exact this
   have j:Below wr.heap.size wr (((wr.alloc (.cells #[.int .i64 (p:Int),.string s] 146)).alloc (.cells #[.int .i64 (p:Int)] 3)).alloc (.cells #[.int .i64 3,.slice (some ⟨wr.heap.size+1,0,none⟩) 1 1,.string s] 141)):=(((Below.refl _ _).alloc (Nat.le_refl _) _).alloc (by simp) _).alloc (by simp;omega) _;have a5:Hid (FOwn w7 w.heap.size (.slice D (1+k+1) H) (i++[.slice (some ⟨wr.heap.size+1,0,none⟩) 1 1]) (L++[qK (p,s)])):=(HX.out.below j).app (f:=qK (p,s)) a9 HGP.out (by rw[HLK.out];exact ho7) M
   have a7:Below w.heap.size w w7:=(b.out.trans (j.mono b.out.size)).grown M (by simp;omega) (λk e=>(hox.lt k e).1);go_roundg (m-(k+1))
   case measure=>have:=y.out;omega
   case rel=>exact⟨k+1,D,H,_,by have:=y.out;omega,by go_num,by rw[Nat.add_assoc],(by show FOwn _ _ _ _ _;rw[HN.out,<-Nat.add_assoc];exact a5.out),a7⟩
  have HE:Hid (([]++[(4,[z],nilB)])++(a.take k).map qK=qO e):=by
   show _=_;rw[List.take_of_length_le (by have:=l.out;have:=y.out;omega)];exact HF.out
  go_wp2_with fail;go_ret;exact⟨_,rfl,⟨i,by rw[<-HE.out];exact HX.out⟩,b.out⟩
theorem zgn{vl A:Value}(h:EP pz Qz w B o vl A e)(r:e.cm≠ []){F:Value}{T:Nat}{a:List (Nat×ByteArray)}(Q:a=pieces e)(K:w.ownsRow T 146 2 F a.length (zz a)):
  Calls Tryz.prog 126 #[.pointer (some ⟨o,pz,none⟩),F] w λD w'=>∃v q,D=.returned v/\FOwn w' w.heap.size v q (qO e)/\Below w.heap.size w w':=by
 obtain⟨S,J,N,O,R⟩:=info_parts QU;have P:=zC h;have W:=zC K;have a7:a.length<=3:=by rw[Q];exact yO _ _ _ _
 have aa:=zC a7;have ab:Hid (∀p∈a,p.1<=60/\p.2.size<=20):=by
  show∀p∈a,_;intro p hp;rw[Q]at hp;have:=Zk e.d (en e) (ky e) 3 e.t p hp;have:=h.inv.en60;omega
 have c250:=h.cl 250 (by omega);rw[vw]at c250;obtain⟨aw,cc,hvc⟩:=qL h.cm;rw[hvc]at c250;obtain⟨a0,cv,M⟩:=qL K;have HVV:Hid (F=.slice a0 a.length cv):=M;rw[M];have HF:Hid ([(2,zK e.cm,nilB)]++[(4,[e.c.lim],nilB)]++a.map qK=qO e):=by
  show _=_;rw[Q];unfold qO;rw[if_neg r];rfl
 have ay:e.cm.length≠0:=λe'=>r (List.eq_nil_of_length_eq_zero e');have ae:=((x9 e.cm).1 h.inv.cm).1;have HNU:=λX (E:Below w.heap.size w X)=>zfx A e.cm X (h.below E).crow ae r;have HGA:Hid (fF (2,zK e.cm,nilB)=0):=Yl h.inv.cm r;rw[hvc]at HNU;generalize hN:e.cm.length=nc at*;have gc:(0:Int)<(nc:Int):=by omega
 generalize zK e.cm=b at*;clear r hN;clear h K Q hvc M a7;go_enter Tryz.func126,Tryz.ntmps126
 go_wp2_with fail;refine(HNU _ (Below.refl _ _)).mono ?_;rintro D U ⟨v1,rfl,ho1,G⟩;obtain⟨j,l,hv1⟩:=qL ho1;subst hv1;have a8:OwnI (U.alloc (.cells #[.int .i64 2,.slice j b.length l,.string {data:=#[]}] 141)) w.heap.size (.slice j b.length l) b:=ho1.alloc _;have a2:=wR U 2 (.slice j b.length l) {data:=#[]} 141;have b1:=G.size;clear HNU ho1;go_wp2_with (at_builtin;refine wpList_append_own_at _ rfl (.tmp 14) (.tmp 21) 139 rfl w.heap.size 141 S _ 3 48 Tryz.underlying139 J N O R rfl (by decide) _ _ (jA [] []) rfl (World.ownsRow_nil _ _ _ _) ⟨U.heap.size,0,none⟩ 1 1 [Value.int .i64 2,.slice j b.length l,.string {data:=#[]}] rfl rfl a2 (wW 2 j b.length l {data:=#[]}) (by unfold maxLen;simp) (by simp) (by simp;omega) ?_;intro vx d hox I al hlx;clear al;obtain⟨ad,cx,rfl⟩:=qL hox;have HX:Hid (FOwn d w.heap.size (.slice ad 1 cx) [.slice j b.length l] [(2,b,nilB)]):=(FOwn.nil (U.alloc (.cells #[.int .i64 2,.slice j b.length l,.string {data:=#[]}] 141)) w.heap.size).app (f:=(2,b,nilB)) a8 HGA.out hox I;have i:Hid (Below w.heap.size w d):=(G.alloc G.size _).grown I (by simp;omega) (λk e=>by cases e);clear a8 a2 hox I hlx)
 have HL:=λX (E:Below w.heap.size w X)=>aD (P.out.below E);have ap:=P.out.inv.c.l1;have aq:=P.out.inv.c.l2;have ar:=P.out.inv.c.w1;have a5:fF (4,[e.c.lim],nilB)=0:=KN (by omega) (by omega);have HGC:=zC a5;clear ap aq ar a5;generalize e.c.lim=z at HL HGC HF;go_wp2_with (first|(go_at_call 154;refine(HL _ i.out).mono ?_;rintro D wy ⟨rfl,an⟩;obtain rfl:=an.symm)|(at_builtin;refine wpList_append_own_at _ rfl (.tmp 23) (.tmp 30) 139 rfl w.heap.size 141 S _ 3 48 Tryz.underlying139 J N O R rfl (by decide) _ _ (jA [.slice j b.length l] [(2,b,nilB)]) rfl ((HX.out.own.alloc _).alloc _) ⟨d.heap.size+1,0,none⟩ 1 1 [Value.int .i64 4,.slice (some ⟨d.heap.size,0,none⟩) 1 1,.string {data:=#[]}] rfl rfl (by have:=wR (d.alloc (.cells #[.int .i64 z] 3)) 4 (.slice (some ⟨d.heap.size,0,none⟩) 1 1) {data:=#[]} 141;rw[World.size_alloc]at this;exact this) (wW 4 _ 1 1 {data:=#[]}) (by unfold maxLen;simp) (by simp) (by have:=i.out.size;simp;omega) ?_;intro v5 w5 ho5 H aj hl5;clear aj;obtain⟨Y,c5,rfl⟩:=qL ho5))
 have a9:OwnI ((d.alloc (.cells #[.int .i64 z] 3)).alloc (.cells #[.int .i64 4,.slice (some ⟨d.heap.size,0,none⟩) 1 1,.string {data:=#[]}] 141)) w.heap.size (.slice (some ⟨d.heap.size,0,none⟩) 1 1) [z]:=(World.ownsRow_lit (base:=w.heap.size) (e:=3) (size:=1) d #[.int .i64 z] 1 i.out.size (by unfold maxLen;omega) rfl).alloc _;have t:Below d.heap.size d ((d.alloc (.cells #[.int .i64 z] 3)).alloc (.cells #[.int .i64 4,.slice (some ⟨d.heap.size,0,none⟩) 1 1,.string {data:=#[]}] 141)):=((Below.refl _ _).alloc (Nat.le_refl _) _).alloc (by simp) _
 have HX5:Hid (FOwn w5 w.heap.size (.slice Y 2 c5) ([.slice j b.length l]++[.slice (some ⟨d.heap.size,0,none⟩) 1 1]) ([(2,b,nilB)]++[(4,[z],nilB)])):=(HX.out.below t).app (f:=(4,[z],nilB)) a9 HGC.out ho5 H;have af:Below w.heap.size w w5:=(i.out.trans (t.mono i.out.size)).grown H (by have:=i.out.size;simp;omega) (λk e=>(HX.out.own.lt k e).1);clear a9 t ho5 H hl5 HX HL HGC i;generalize hU:([.slice j b.length l]++[Value.slice (some ⟨d.heap.size,0,none⟩) 1 1])=av at HX5
 clear hU;generalize hM:a.length=m at HVV |-;have u:Hid (a.length=m):=hM;clear hM;go_loopg [5,34] m (λgk s5 au wr=>∃(k:Nat) (C:Option Addr) (c:Nat) (q:List Value),gk+k=m/\au=.int .i64 k/\s5=.slice C (2+k) c/\Hid (FOwn wr w.heap.size (.slice C (2+k) c) q (([(2,b,nilB)]++[(4,[z],nilB)])++(a.take k).map qK))/\Hid (Below w.heap.size w wr))
 case atStart=>exact⟨0,Y,c5,av,rfl,rfl,rfl,(by show FOwn _ _ _ _ _;rw[List.take_zero,List.map_nil,List.append_nil];exact HX5.out),af⟩
 case round=>
  obtain⟨k,C,c,q,hk,rfl,rfl,HX,i⟩:=hrel;have V:Hid (gk+k=m):=hk;clear hk;have ah:=aa.out;rw[u.out]at ah;by_cases g:(k:Int)<(m:Int)
  .have y:k<a.length:=by have:=u.out;omega
   obtain⟨n,x,hv1,a4⟩:∃n x,F=.slice (some ⟨n,0,none⟩) m x/\n<w.heap.size:=by
    rcases W.out.2 with⟨_,r⟩|⟨n,x,ax,h1,h2,h3,_⟩;.omega
    exact ⟨n,x,by rw[h1,u.out],(Array.getElem?_eq_some_iff.1 h3).1⟩
   have am:Value.slice a0 m cv=.slice (some ⟨n,0,none⟩) m x:=HVV.out.symm.trans hv1;injection am with e1 e2 e3;subst e1 e3;have hvv:=W.out;rw[hv1,u.out]at hvv;have y0:=hvv.cellAt (k*2) (by omega);have y1:=hvv.cellAt (k*2+1) (by omega);rw[(wm a k y).1]at y0;rw[(wm a k y).2]at y1;have z0:=(i.out.cell (p:=⟨n,k*2,none⟩) a4).trans y0;have z1:=(i.out.cell (p:=⟨n,k*2+1,none⟩) a4).trans y1;have HN:Hid (([(2,b,nilB)]++[(4,[z],nilB)])++(a.take (k+1)).map qK=(([(2,b,nilB)]++[(4,[z],nilB)])++(a.take k).map qK)++[qK a[k]]):=by
    show _=_;rw[List.take_succ_eq_append_getElem y,List.map_append,List.append_assoc];rfl
   have hpe:=ab.out a[k] (List.getElem_mem y);have HGP:Hid (fF (qK a[k])=0):=KP (by omega) (by omega);have a6:(([(2,b,nilB)]++[(4,[z],nilB)])++(a.take k).map qK).length=2+k:=by simp;omega
   have HLK:=zC a6;clear hvv hv1 y0 y1 a6;generalize a[k]=pp at*;clear y;obtain⟨p,s⟩:=pp;simp only at z0 z1;generalize([(2,b,nilB)]++[(4,[z],nilB)])++(a.take k).map qK=L at*;have hox:=HX.out.own;rw[HLK.out]at hox;have b0:=i.out.size;clear hpe;go_wp2_with (at_builtin;refine wpList_append_own_at _ rfl (.tmp 38) (.tmp 45) 139 rfl w.heap.size 141 S _ 3 48 Tryz.underlying139 J N O R rfl (by decide) _ _ (jA q L) rfl (((hox.alloc _).alloc _).alloc _) ⟨wr.heap.size+1+1,0,none⟩ 1 1 [Value.int .i64 3,.slice (some ⟨wr.heap.size+1,0,none⟩) 1 1,.string s] rfl rfl (by have:=wR ((wr.alloc (.cells #[.int .i64 (p:Int),.string s] 146)).alloc (.cells #[.int .i64 (p:Int)] 3)) 3 (.slice (some ⟨wr.heap.size+1,0,none⟩) 1 1) s 141;rw[World.size_alloc,World.size_alloc]at this;exact this) (wW 3 _ 1 1 s) (by unfold maxLen;omega) (by omega) (by simp;omega) ?_;intro v7 w7 ho7 a3 ak az;clear ak;obtain⟨Z,c7,rfl⟩:=qL ho7)
   have ai:OwnI (((wr.alloc (.cells #[.int .i64 (p:Int),.string s] 146)).alloc (.cells #[.int .i64 (p:Int)] 3)).alloc (.cells #[.int .i64 3,.slice (some ⟨wr.heap.size+1,0,none⟩) 1 1,.string s] 141)) w.heap.size (.slice (some ⟨wr.heap.size+1,0,none⟩) 1 1) [(p:Int)]:=by
    have:=(World.ownsRow_lit (base:=w.heap.size) (e:=3) (size:=1) (wr.alloc (.cells #[.int .i64 (p:Int),.string s] 146)) #[.int .i64 (p:Int)] 1 (by simp;omega) (by unfold maxLen;omega) rfl).alloc (.cells #[.int .i64 3,.slice (some ⟨wr.heap.size+1,0,none⟩) 1 1,.string s] 141);rw[World.size_alloc]at this;exact this
   have t:Below wr.heap.size wr (((wr.alloc (.cells #[.int .i64 (p:Int),.string s] 146)).alloc (.cells #[.int .i64 (p:Int)] 3)).alloc (.cells #[.int .i64 3,.slice (some ⟨wr.heap.size+1,0,none⟩) 1 1,.string s] 141)):=(((Below.refl _ _).alloc (Nat.le_refl _) _).alloc (by simp) _).alloc (by simp;omega) _;have ac:Hid (FOwn w7 w.heap.size (.slice Z (2+k+1) c7) (q++[.slice (some ⟨wr.heap.size+1,0,none⟩) 1 1]) (L++[qK (p,s)])):=(HX.out.below t).app (f:=qK (p,s)) ai HGP.out (by rw[HLK.out];exact ho7) a3
   have ag:Below w.heap.size w w7:=(i.out.trans (t.mono i.out.size)).grown a3 (by simp;omega) (λk e=>(hox.lt k e).1);go_roundg (m-(k+1))
   case measure=>have:=V.out;omega
   case rel=>exact⟨k+1,Z,c7,_,by have:=V.out;omega,by go_num,by rw[Nat.add_assoc],(by show FOwn _ _ _ _ _;rw[HN.out,<-Nat.add_assoc];exact ac.out),ag⟩
  have HE:Hid (([(2,b,nilB)]++[(4,[z],nilB)])++(a.take k).map qK=qO e):=by
   show _=_;rw[List.take_of_length_le (by have:=u.out;have:=V.out;omega)];exact HF.out
  go_wp2_with fail;go_ret;exact⟨_,rfl,⟨q,by rw[<-HE.out];exact HX.out⟩,i.out⟩
theorem zgl{C A:Value}(h:EP pz Qz w B o C A e){c:Value}{d:Nat}(b:w.ownsRow d 146 2 c (pieces e).length (zz (pieces e))):
  Calls Tryz.prog 126 #[.pointer (some ⟨o,pz,none⟩),c] w λf E=>∃v g,f=.returned v/\FOwn E w.heap.size v g (qO e)/\Below w.heap.size w E:=by
 by_cases a:e.cm=[];exact zgm h a rfl b;exact zgn h a rfl b
end Go.Proofs.YtdokgalidhmbbaaGreatDoor.Ez
