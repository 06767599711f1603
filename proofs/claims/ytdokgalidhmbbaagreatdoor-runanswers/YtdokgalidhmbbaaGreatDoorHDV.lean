/- What the law RunAnswers needs. -/
import Derived.Test.YtdokgalidhmbbaaGreatDoorHEA
import Derived.Test.YtdokgalidhmbbaaGreatDoorHH
import Derived.Test.YtdokgalidhmbbaaGreatDoorHD
set_option linter.unusedVariables false
set_option linter.unusedSimpArgs false
set_option maxRecDepth 100000
set_option maxHeartbeats 8000000
namespace Go.Proofs.YtdokgalidhmbbaaGreatDoor
open Go.RowKit Go.Lib Go.Sort
variable {w:World}
theorem Zz{W:Array Oper}{g:List Oper}{o:Oper}{a:Act}{Q:Exit->Act->World->Prop}(m:o.guard=none)(s x:Operand)
  (q:o.op=.call {callee:=.builtin .append,args:=#[s,x],argTypes:=#[88,88]}) (T:Nat) (v:Value) (n:Nat) (f:List Value) (t:a.eval s=v) (r:w.ownsRow T 143 2 v n f)
  (B:Nat) (e d:Int) (y:a.eval x=.slice (some ⟨B,0,none⟩) 1 1) (i:w.cell? ⟨B,0,none⟩=some (.int .i64 e)) (c:w.cell? ⟨B,1,none⟩=some (.int .i64 d)) (z:n+1<=1000000) (k:T<=w.heap.size)
  (h:∀b E,E.ownsRow T 143 2 b (n+1) (f++flat [(e,d)])->w.grownBy E v.ownBlock->wpList Tryz.prog W Q g (a.put o.dst b) E):wpList Tryz.prog W Q (o::g) a w:=by
 obtain⟨V,p,F,P,U⟩:=info_parts wX;refine wpList_append_own _ m s x 88 q T 143 V _ 2 16 Tryz.underlying88 p F P U rfl (by decide) v n f t r ⟨B,0,none⟩ 1 1 (flat [(e,d)]) y (jT _) ?_ (λu hu=>wV u hu) (by unfold maxLen;omega) (by omega) k ?_;intro j u hu;match j,hu with
 |0,hu=>simp[flat,encR]at hu;subst hu;rw[Addr.add_lit];exact i
 |1,hu=>simp[flat,encR]at hu;subst hu;rw[Addr.add_lit];exact c
 |j+2,hu=>simp[flat,encR]at hu
 intro b E c l _;exact h b E c l
structure XB(w:World)(X:Nat)(xl xh:Int):Prop where
 c0:w.cell? ⟨X,0,none⟩=some (.int .i64 xl)
 c1:w.cell? ⟨X,1,none⟩=some (.int .i64 xh)
 f0:w.frozen? ⟨X,0,none⟩=false
 f1:w.frozen? ⟨X,1,none⟩=false
 lt:X<w.heap.size
variable {X:Nat}
theorem XB.below{E:World}{c b:Int}(h:XB w X c b)(a:Below w.heap.size w E):XB E X c b:=
 ⟨(a.cell (p:=⟨X,0,none⟩) h.lt).trans h.c0,(a.cell (p:=⟨X,1,none⟩) h.lt).trans h.c1,(a.frozen (p:=⟨X,0,none⟩) h.lt).trans h.f0,(a.frozen (p:=⟨X,1,none⟩) h.lt).trans h.f1,Nat.lt_of_lt_of_le h.lt a.size⟩
theorem XB.grown{E:World}{T n:Nat}{d c:Int}{v:Value}{K:List Value}(h:XB w X d c)(a:w.grownBy E v.ownBlock)(f:w.ownsRow T 143 2 v n K)(g:X<T):XB E X d c:=by
 have b:some X≠v.ownBlock:=λe=>by have:=(f.lt X e.symm).1;omega
 exact⟨(a.cell_far ⟨X,0,none⟩ h.lt b).trans h.c0,(a.cell_far ⟨X,1,none⟩ h.lt b).trans h.c1,(a.frozen_far ⟨X,0,none⟩ h.lt b).trans h.f0,(a.frozen_far ⟨X,1,none⟩ h.lt b).trans h.f1,Nat.lt_of_lt_of_le h.lt a.size⟩
theorem XB.set{e d:Int}(h:XB w X e d)(a b:Int):XB (w.setCell ⟨X,0,none⟩ (.int .i64 a)) X a d/\XB (w.setCell ⟨X,1,none⟩ (.int .i64 b)) X e b:=by
 have c:∀(X o:Nat) (q:Addr) (u:Value),(w.setCell ⟨X,o,none⟩ u).frozen? q=w.frozen? q:=λX o q u=>by rw[setCell_eq,frozen?_mapBlock]
 exact⟨⟨World.cell?_setCell_same _ _ _ h.c0,(World.cell?_setCell_other _ _ _ _ (by simp)).trans h.c1,(c _ _ _ _).trans h.f0,(c _ _ _ _).trans h.f1,by simpa using h.lt⟩,⟨(World.cell?_setCell_other _ _ _ _ (by simp)).trans h.c0,World.cell?_setCell_same _ _ _ h.c1,(c _ _ _ _).trans h.f0,(c _ _ _ _).trans h.f1,by simpa using h.lt⟩⟩
theorem zux(x r:R)(p:Bool)(a:List R)(h:x.2+1<r.1):qR x p (r::a)=r::qR x p a:=by rw[qR,if_pos h]
theorem iN(x r:R)(a:List R)(h:¬x.2+1<r.1)(b:r.2<x.1-1):qR x true (r::a)=r::qR x true a/\qR x false (r::a)=x::r::qR x true a:=by
 constructor<;>rw[qR,if_neg h,if_pos b]<;>rfl
theorem zuy(x r:R)(p:Bool)(a:List R)(h:¬x.2+1<r.1)(b:¬r.2<x.1-1):qR x p (r::a)=qR (if r.1<x.1 then r.1 else x.1,if x.2<r.2 then r.2 else x.2) p a:=by
 rw[qR,if_neg h,if_neg b]
theorem zrj(E:Option Addr)(Q a5:Nat)(J:List R)(x u:Int)(w:World)(Z:J.length=Q)(hl:Q<=1000)(hz:J=[]\/∃b U,E=some ⟨b,U,none⟩/\b<w.heap.size/\Cells w b U J)
  (X:∀r,r∈J->0<=r.1/\r.1<=r.2/\r.2<=1073741823) (hx:0<=x/\x<=u/\u<=1073741823):
  Calls Tryz.prog 64 #[.slice E Q a5,.agg #[.int .i64 x,.int .i64 u]] w λe w'=>∃v,e=.returned v/\w'.ownsRow w.heap.size 143 2 v (qR (x,u) false J).length (flat (qR (x,u) false J))/\Below w.heap.size w w':=by
 have HL:=zC Z;have HZ:=zC hz;have HG:=zC X;clear Z hz X;go_enter Tryz.func64,Tryz.ntmps64
 go_wp2_with fail
 go_loopw [5,6,7] (λo p i wr=>∃(k:Nat) (l:List R) (g f:Int) (n:Bool),k<=Q/\i=.int .i64 k/\p=.bool n/\l.length<=k+n.toNat/\(0<=g/\g<=f/\f<=1073741823)/\Hid (qR (x,u) false J=l++qR (g,f) n (J.drop k))
   /\wr.ownsRow (w.heap.size+1) 143 2 o l.length (flat l)/\XB wr w.heap.size g f/\Below w.heap.size w wr) (λ_ _ i _=>Q-(intOf i).toNat)
 case atStart=>exact⟨0,[],x,u,false,Nat.zero_le _,rfl,rfl,by simp,hx,rfl,World.ownsRow_nil _ _ _ _,⟨by simp,by simp,by simp,by simp,by simp⟩,(Below.refl _ _).alloc (Nat.le_refl _) _⟩
 case round=>
  obtain⟨k,l,g,f,n,hk,rfl,rfl,a0,G,y,F,s,m⟩:=hrel;have a8:=s.lt;have a1:n.toNat<=1:=by cases n<;>simp
  have ab:w.heap.size+1<=wr.heap.size:=a8;by_cases aa:k<Q
  .have g1:(k:Int)<(Q:Int):=by omega
   have hkl:k<J.length:=by have:=HL.out;omega
   obtain⟨b,U,rfl,W,M⟩:∃b U,E=some ⟨b,U,none⟩/\b<w.heap.size/\Cells w b U J:=by
    rcases HZ.out with h|h;rw [h]at hkl;simp at hkl;exact h
   have c0:=(M.below W m k hkl).1;have c1:=(M.below W m k hkl).2;have bd:=HG.out _ (at_mem hkl);have HD:Hid (J.drop k=at' J k::J.drop (k+1)):=drop_at hkl;clear M hkl;generalize at' J k=r at c0 c1 bd HD;obtain⟨d,c⟩:=r;simp only at c0 c1 bd;have a2:=(Below.refl wr.heap.size wr).alloc (Nat.le_refl _) (.cells #[.int .i64 d,.int .i64 c] 143);have A:=F.alloc (.cells #[.int .i64 d,.int .i64 c] 143);have z:=s.below a2
   have y0:=z.c0;have y1:=z.c1;have z0:=z.f0;have z1:=z.f1;have q:=m.alloc m.size (.cells #[.int .i64 d,.int .i64 c] 143);have S:=(Below.refl _ (wr.alloc (.cells #[.int .i64 d,.int .i64 c] 143))).alloc (Nat.le_refl _) (.cells #[.int .i64 d,.int .i64 c] 143);have a3:=(Below.refl _ (wr.alloc (.cells #[.int .i64 d,.int .i64 c] 143))).alloc (Nat.le_refl _) (.cells #[.int .i64 g,.int .i64 f] 143);by_cases I:f+1<d
   .have HF:Hid (qR (x,u) false J=(l++[(d,c)])++qR (g,f) n (J.drop (k+1))):=by
     show _=_;rw[y.out,HD.out,zux _ _ _ _ I,List.append_assoc];rfl
    clear y;go_wp2_with (at_builtin;refine Zz rfl (.tmp 25) (.tmp 27) rfl (w.heap.size+1) _ _ _ rfl (A.alloc _) (wr.heap.size+1) d c rfl (by simp) (by simp) (by omega) (by simp;omega) ?_;intro N B P t);have D:=(z.below S).grown t (A.alloc _) (Nat.lt_succ_self _);have V:Below w.heap.size w B:=(q.alloc q.size _).grown t ((q.alloc q.size _).size) (λj e=>by have:=(F.lt j e).1;omega);exact⟨⟨k+1,l++[(d,c)],g,f,n,by omega,by go_num,rfl,by simp;omega,G,HF,(by rw[xL,List.length_append];exact P),D,V⟩,by simp[intOf];omega⟩
   by_cases L:c<g-1
   .cases n with
    |true=>
     simp only[Bool.toNat_true]at a0 a1;have HF:Hid (qR (x,u) false J=(l++[(d,c)])++qR (g,f) true (J.drop (k+1))):=by
      show _=_;rw[y.out,HD.out,(iN (g,f) (d,c) _ I L).1,List.append_assoc];rfl
     clear y;go_wp2_with (at_builtin;refine Zz rfl (.tmp 41) (.tmp 43) rfl (w.heap.size+1) _ _ _ rfl (A.alloc _) (wr.heap.size+1) d c rfl (by simp) (by simp) (by omega) (by simp;omega) ?_;intro N B P t);have D:=(z.below S).grown t (A.alloc _) (Nat.lt_succ_self _);have V:Below w.heap.size w B:=(q.alloc q.size _).grown t ((q.alloc q.size _).size) (λj e=>by have:=(F.lt j e).1;omega);exact⟨⟨k+1,l++[(d,c)],g,f,true,by omega,by go_num,rfl,by simp;omega,G,HF,(by rw[xL,List.length_append];exact P),D,V⟩,by simp[intOf];omega⟩
    |false=>
     simp only[Bool.toNat_false]at a0 a1;have HF:Hid (qR (x,u) false J=(l++[(g,f)]++[(d,c)])++qR (g,f) true (J.drop (k+1))):=by
      show _=_;rw[y.out,HD.out,(iN (g,f) (d,c) _ I L).2,List.append_assoc,List.append_assoc];rfl
     have O:Hid (some wr.heap.size≠u5.ownBlock):=λe=>by have:=(F.lt _ e.symm).2;omega
     clear y
     go_wp2_with (first
      |(at_builtin;refine Zz rfl (.tmp 37) (.tmp 39) rfl (w.heap.size+1) _ _ _ rfl (A.alloc _) (wr.heap.size+1) g f rfl (by simp) (by simp) (by omega) (by simp;omega) ?_;intro N B P t;have ad:B.cell? ⟨wr.heap.size,0,none⟩=some (.int .i64 d):=(t.cell_far ⟨wr.heap.size,0,none⟩ (by simp;omega) O.out).trans (by simp);have ae:B.cell? ⟨wr.heap.size,1,none⟩=some (.int .i64 c):=(t.cell_far ⟨wr.heap.size,1,none⟩ (by simp;omega) O.out).trans (by simp);have af:w.heap.size+1<=B.heap.size:=by have:=t.size;simp at this;omega)
      |(at_builtin;refine Zz rfl (.tmp 41) (.tmp 43) rfl (w.heap.size+1) _ _ _ rfl (P.alloc _) B.heap.size d c rfl (by simp) (by simp) (by omega) (by simp;omega) ?_;intro v4 w4 a9 Y))
     have D:=(z.below a3).grown t (A.alloc _) (Nat.lt_succ_self _);have V:Below w.heap.size w B:=(q.alloc q.size _).grown t ((q.alloc q.size _).size) (λj e=>by have:=(F.lt j e).1;omega);have a4:=(Below.refl B.heap.size B).alloc (Nat.le_refl _) (.cells #[.int .i64 d,.int .i64 c] 143);have a7:=(D.below a4).grown Y (P.alloc _) (Nat.lt_succ_self _);have a6:Below w.heap.size w w4:=(V.alloc V.size _).grown Y ((V.alloc V.size _).size) (λj e=>by have:=(P.lt j e).1;omega)
     exact⟨⟨k+1,l++[(g,f)]++[(d,c)],g,f,true,by omega,by go_num,rfl,by simp;omega,G,HF,(by rw[xL,xL,List.length_append,List.length_append];exact a9),a7,a6⟩,by simp[intOf];omega⟩
   have HF:Hid (qR (x,u) false J=l++qR (if d<g then d else g,if f<c then c else f) n (J.drop (k+1))):=by
    show _=_;rw[y.out,HD.out,zuy _ _ _ _ I L]
   clear y;have ac:wr.heap.size≠w.heap.size:=by omega
   have x0:=s.c0;have x1:=s.c1;have x2:=s.f0;have x3:=s.f1;have s2:=(s.set d c).1.c1;have s3:=(s.set d c).1.f1;have K:w.heap.size<w.heap.size+1:=Nat.lt_succ_self _;by_cases T:d<g
   .rw [if_pos T]at HF;by_cases C:f<c;.rw [if_pos C]at HF;go_wp2_with fail;exact⟨⟨k+1,l,d,c,n,by omega,by go_num,rfl,by omega,by omega,HF,(ownsRow_setCell_below (ownsRow_setCell_below F (a:=⟨w.heap.size,0,none⟩) K _) (a:=⟨w.heap.size,1,none⟩) K _).alloc _,(((s.set d c).1.set d c).2).below ((Below.refl _ _).alloc (Nat.le_refl _) _),((m.setCell (p:=⟨w.heap.size,0,none⟩) (Nat.le_refl _) _).setCell (p:=⟨w.heap.size,1,none⟩) (Nat.le_refl _) _).alloc (((m.setCell (p:=⟨w.heap.size,0,none⟩) (Nat.le_refl _) _).setCell (p:=⟨w.heap.size,1,none⟩) (Nat.le_refl _) _).size) _⟩,by simp[intOf];omega⟩
    rw [if_neg C]at HF;go_wp2_with fail;exact⟨⟨k+1,l,d,f,n,by omega,by go_num,rfl,by omega,by omega,HF,(ownsRow_setCell_below F (a:=⟨w.heap.size,0,none⟩) K _).alloc _,((s.set d c).1).below ((Below.refl _ _).alloc (Nat.le_refl _) _),(m.setCell (p:=⟨w.heap.size,0,none⟩) (Nat.le_refl _) _).alloc ((m.setCell (p:=⟨w.heap.size,0,none⟩) (Nat.le_refl _) _).size) _⟩,by simp[intOf];omega⟩
   rw [if_neg T]at HF;by_cases C:f<c;.rw [if_pos C]at HF;go_wp2_with fail;exact⟨⟨k+1,l,g,c,n,by omega,by go_num,rfl,by omega,by omega,HF,(ownsRow_setCell_below F (a:=⟨w.heap.size,1,none⟩) K _).alloc _,((s.set d c).2).below ((Below.refl _ _).alloc (Nat.le_refl _) _),(m.setCell (p:=⟨w.heap.size,1,none⟩) (Nat.le_refl _) _).alloc ((m.setCell (p:=⟨w.heap.size,1,none⟩) (Nat.le_refl _) _).size) _⟩,by simp[intOf];omega⟩
   rw [if_neg C]at HF;go_wp2_with fail;exact⟨⟨k+1,l,g,f,n,by omega,by go_num,rfl,by omega,G,HF,A,z,q⟩,by simp[intOf];omega⟩
  obtain rfl:k=Q:=by omega
  have H:J.drop k=[]:=List.drop_eq_nil_of_le (by have:=HL.out;omega);have y0:=s.c0;have y1:=s.c1;cases n with
  |true=>
   have HF:Hid (qR (x,u) false J=l):=by
    show _=_;rw[y.out,H];simp[qR]
   clear y H;go_wp2_with fail;go_ret;exact⟨_,rfl,by rw[HF.out];exact jE F (by omega),m⟩
  |false=>
   have HF:Hid (qR (x,u) false J=l++[(g,f)]):=by
    show _=_;rw[y.out,H];simp[qR]
   clear y H;go_wp2_with (at_builtin;refine Zz rfl (.tmp 63) (.tmp 65) rfl (w.heap.size+1) _ _ _ rfl (F.alloc _) wr.heap.size g f rfl (by simp) (by simp) (by omega) (by simp;omega) ?_;intro N B P t);go_ret;refine⟨_,rfl,?_,(m.alloc m.size _).grown t ((m.alloc m.size _).size) (λj e=>by have:=(F.lt j e).1;omega)⟩;rw[HF.out];rw[xL,List.length_append];exact jE P (by omega)
theorem zfg(v:Value)(a:List R)(n:Int)(w:World)(h:Row w v a)(k:xC a=0)(l:qC n=true):Calls Tryz.prog 64 #[v,.agg #[.int .i64 n,.int .i64 n]] w λe E=>∃g,e=.returned g/\E.ownsRow w.heap.size 143 2 g (qU a n).length (flat (qU a n))/\Below w.heap.size w E:=by
 obtain⟨m,d,j⟩:=(x9 a).1 k;have f:=(wC n).1 l;obtain⟨i,c,rfl,_,_,h⟩:=h;exact zrj i _ c a n n w rfl (by omega) h (λr b=>⟨(d r b).1,kG j r b,(d r b).2⟩) ⟨f.1,Int.le_refl _,f.2⟩
theorem ze0(b f M L C:Nat)(d:List Int)(w:World)(H:L=2*M)(a8:M<=12)(S:d.length=L)(x:b<w.heap.size)(K:ICells w b f d):
  Calls Tryz.prog 61 #[.slice (some ⟨b,f,none⟩) L C] w λe E=>∃v,e=.returned v/\E.ownsRow w.heap.size 143 2 v (zR d).length (flat (zR d))/\Below w.heap.size w E:=by
 have HLM:=zC H;have t:=zC S;have B:=zC K;have HRL:Hid ((zR d).length=M):=ZQ M d (by omega);obtain⟨m,O,T,W,Y⟩:=info_parts wX;have n:Hid (Tryz.prog.info? 143=some m/\m.zero=some (.agg #[.int .i64 0,.int .i64 0])/\m.size=2/\m.bytes=16):=⟨O,T,W,Y⟩;have a7:L<=24:=by omega
 clear S K H O T W Y;go_enter Tryz.func61,Tryz.ntmps61
 go_wp2_with fail;go_loopw [3,4] (λv i wr=>∃k j:Nat,k<=M/\Hid (j=2*k)/\i=.int .i64 (j:Int)/\wr.ownsRow w.heap.size 143 2 v k (flat ((zR d).take k))/\Below w.heap.size w wr) (λ_ i _=>L-(intOf i).toNat)
 case atStart=>exact⟨0,0,Nat.zero_le _,rfl,rfl,World.ownsRow_nil _ _ _ _,Below.refl _ _⟩
 case round=>
  obtain⟨k,j,hk,r,rfl,hown,s⟩:=hrel;by_cases a1:k<M
  .have R:=r.out;have hL:=HLM.out;have g1:(j:Int)+1<(L:Int):=by omega
   have g0:(j:Int)<(L:Int):=by omega
   have V:=B.out j (by have:=t.out;omega);have o:=B.out (j+1) (by have:=t.out;omega);have z0:=(s.cell (p:=⟨b,f+j,none⟩) x).trans V;have z1:=(s.cell (p:=⟨b,f+(j+1),none⟩) x).trans o;have HN:Hid ((zR d).take (k+1)=(zR d).take k++[(d[j+1]?.getD 0,d[j]?.getD 0)]):=by
    show _=_;rw[take_at (by have:=HRL.out;omega),<-Xz M d (by have:=t.out;omega)];simp[at',a1,vG,R]
   have a6:(0:Int)<=(j:Int):=by omega
   have a0:(0:Int)<=(j:Int)+1:=by omega
   have ad:IntKind.i64.wrap ((j:Int)+1)=(j:Int)+1:=by simp[IntKind.wrap,IntKind.bits,IntKind.signed];omega
   have aa:((j:Int)+1).toNat=j+1:=by omega
   clear V o R hL;generalize d[j]?.getD 0=g at*;generalize d[j+1]?.getD 0=h at*;have P:Hid (k<12):=by show _<_;omega
   have z:wr.drew.cell? ⟨b,f+j,none⟩=some (.int .i64 g):=z0;have A:wr.drew.cell? ⟨b,f+(j+1),none⟩=some (.int .i64 h):=z1;have ownd:wr.drew.ownsRow w.heap.size 143 2 u3 k (flat ((zR d).take k)):=hown;have HO:=zC ownd;have l:Below w.heap.size w wr.drew:=s.drew;have J:b<wr.drew.heap.size:=Nat.lt_of_lt_of_le x l.size;have ac:w.heap.size<=wr.drew.heap.size:=l.size;have ab:w.heap.size<=wr.heap.size:=l.size
   have N:=Qy wr.drew h g;have Z:Hid (∀j u,[Value.int .i64 h,Value.int .i64 g][j]? =some u->(wr.drew.alloc (.cells #[.int .i64 h,.int .i64 g] 143)).cell? ((⟨wr.drew.heap.size,0,none⟩:Addr).add j)=some u):=N;have hng:some b≠u3.ownBlock:=λe=>by have:=(ownd.lt b e.symm).1;omega
   have I:b<(wr.drew.alloc (.cells #[.int .i64 h,.int .i64 g] 143)).heap.size:=by rw[World.size_alloc];omega
   have D:=(World.cell?_alloc_lt wr.drew (.cells #[.int .i64 h,.int .i64 g] 143) ⟨b,f+j,none⟩ J).trans z;have G:=(World.cell?_alloc_lt wr.drew (.cells #[.int .i64 h,.int .i64 g] 143) ⟨b,f+(j+1),none⟩ J).trans A;obtain⟨Q,U,rfl⟩:∃a c,u3=.slice a k c:=by
    rcases hown.2 with⟨e,h0⟩|⟨g',a4,a5,e,_⟩;exact ⟨none,0,by rw[e,h0]⟩;exact ⟨_,_,e⟩
   clear hown ownd N z0 z1;go_wp2_with fail;go_region_held3 (λX=>X.cell? ⟨b,f+j,none⟩=some (.int .i64 g)/\X.cell? ⟨b,f+(j+1),none⟩=some (.int .i64 h)) (first|exact⟨z,A⟩|exact⟨D,G⟩|exact⟨f0,f1⟩) (first|(refine vR rfl (.tmp 12) (.tmp 23) 88 rfl w.heap.size 143 m _ 2 16 Tryz.underlying88 n.out.1 n.out.2.1 n.out.2.2.1 n.out.2.2.2 rfl (by decide) (.slice Q k U) k (flat ((zR d).take k)) (by simp[Act.eval,Act.put]) (HO.out.alloc _) ⟨wr.drew.heap.size,0,none⟩ 1 1 [Value.int .i64 h,Value.int .i64 g] (by simp[Act.eval,Act.put]) rfl Z.out (by intro u hu;simp at hu;rcases hu with rfl|rfl<;>rfl) (by have:=P.out;unfold maxLen;omega) (by have:=P.out;omega) (by simp;omega) ?_;intro v' w4 a2 y;have f0:=kw D y I hng;have f1:=kw G y I hng))
   go_wp2_with fail;exact⟨⟨k+1,j+2,by omega,by show _=_;have:=r.out;omega,by go_num,by rw[HN.out,xL];exact a2,(l.alloc l.size _).grown y (by rw[World.size_alloc];omega) (λq e=>(HO.out.lt q e).1)⟩,by simp[intOf];omega⟩
  obtain rfl:k=M:=by omega
  have g1:¬(j:Int)+1<(L:Int):=by have:=r.out;have:=HLM.out;omega
  have a0:(0:Int)<=(j:Int)+1:=by omega
  have a9:j<=24:=by have:=r.out;omega
  have F:Hid ((zR d).take k=zR d):=by show _=_;rw[<-HRL.out,List.take_length]
  rw[F.out]at hown;have a3:=vY hown (by have:=HRL.out;omega);obtain⟨Q,U,hv,_⟩:=id a3;clear F;rw[HRL.out]at hv;subst hv;go_wp2_with fail;go_ret;exact⟨_,rfl,by rw[HRL.out];exact hown,s⟩
theorem zez(v:Value)(a:List Int)(M:Nat)(w:World)(i:IRow w v a)(hM:a.length=2*M)(n:1<=M)(f:M<=12):
  Calls Tryz.prog 61 #[v] w λe E=>∃d,e=.returned d/\E.ownsRow w.heap.size 143 2 d (zR a).length (flat (zR a))/\Below w.heap.size w E:=by
 obtain⟨m,c,rfl,q,p,k⟩:=i;rcases k with h|⟨b,l,rfl,j,g⟩;subst h;simp at hM;omega;exact ze0 b l M _ c a w hM f rfl j g
end Go.Proofs.YtdokgalidhmbbaaGreatDoor
