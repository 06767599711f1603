/- What the law RunAnswers needs. -/
import Derived.Test.YtdokgalidhmbbaaGreatDoorHQ
import Derived.Deep.RegionLaw
set_option linter.unusedVariables false
set_option linter.unusedSimpArgs false
set_option maxRecDepth 100000
set_option maxHeartbeats 8000000
namespace Go.Proofs.YtdokgalidhmbbaaGreatDoor
open Go.RowKit Go.Lib Go.Sort
def jo(b:Nat)(a:Int)(J:List R)(A:Nat)(l:List Int):Option (List R×Nat):=
 (tk b (l.drop A)).bind λy=>if 0<=jV a y.1 then some (J++pairs a y.1,A+y.2)else none
def gF(a m:Int)(A:Nat)(l:List Int):Option (List R×Nat):=match V.zL (l.drop A)with
 |none=>none
 |some x=>if 12<=m then none else jo (2*m.toNat) (a-x.1) [(a-x.1,a)] (A+x.2.toNat) l
theorem zjh:∀(k:Nat) (M:List Int) (d:Int),M.length<=k->qp M->jV d M<=d:=by
 intro k
 induction k with
 |zero=>
  intro M d e _;obtain rfl:M=[]:=List.eq_nil_of_length_eq_zero (by omega);exact Int.le_refl _
 |succ k g=>
  intro M d e c
  match M,e,c with
  |[],_,_=>exact Int.le_refl _
  |[a],_,_=>exact Int.le_refl _
  |a::b::M,e,c=>
   have:=g M (d-a-2-b) (by simp at e;omega) (λz f=>c z (by simp[f]));have h:=c a (by simp);have D:=c b (by simp);simp only[jV];omega
variable {J:List R}{A:Nat}{l:List Int}
theorem zgw{a:Nat}{b:Int}(c:0<a)(h:V.zL (l.drop A)=none):jo a b J A l=none:=by
 obtain⟨n,rfl⟩:∃n,a=n+1:=⟨a-1,by omega⟩;simp[jo,tk,h]
variable {d:Int}{c:Nat}
theorem zgx{a:Nat}{g:Int}(e:1<a)(h:V.zL (l.drop A)=some (g,(c:Int)))(b:V.zL (l.drop (A+c))=none):jo a d J A l=none:=by
 obtain⟨n,rfl⟩:∃n,a=n+1+1:=⟨a-2,by omega⟩;simp[jo,tk,h,List.drop_drop,b]
variable {a:Int}{b:Nat}
theorem zgz{n:Nat}{g:Int}(h:V.zL (l.drop A)=some (g,(c:Int)))(i:V.zL (l.drop (A+c))=some (d,(b:Int))):
  jo (n+2) a J A l=jo n (a-2-g-d) (J++[(a-2-g-d,a-2-g)]) (A+c+b) l:=by
 unfold jo
 have e:a-g-2-d=a-2-g-d:=by omega
 have f:a-g-2=a-2-g:=by omega
 simp only[tk,h,Int.toNat_natCast,List.drop_drop,i]
 cases tk n (l.drop (A+c+b))with
 |none=>rfl
 |some y=>
  simp only[Option.map_some,Option.bind_some,jV,pairs,e,f,List.append_assoc,List.singleton_append,Nat.add_assoc]
theorem Yg(d:Bytes l)(h:a<0):jo b a J A l=none:=by
 unfold jo
 cases hr:tk b (l.drop A)with
 |none=>rfl
 |some y=>
  obtain⟨M,c⟩:=y;have e:=(yU b _ M c (ji d _) hr).2.1;have:=zjh M.length M a (Nat.le_refl _) e;simp only[Option.bind_some];rw[if_neg (by omega)]
theorem zgy(h:0<=a):jo 0 a J A l=some (J,A):=by
 simp[jo,tk,jV,pairs,h]
theorem zoq(h:V.zL l=none):zt l=none:=by simp[zt,tk,h]
theorem zor(h:V.zL l=some (a,(c:Int)))(b:V.zL (l.drop c)=none):zt l=none:=by simp[zt,tk,h,b]
variable {m:Int}
theorem eD(h:V.zL l=some (a,(c:Int)))(e:V.zL (l.drop c)=some (m,(b:Int))):zt l=gF a m (c+b) l:=by
 unfold zt gF
 simp only[tk,h,Int.toNat_natCast,e,List.drop_drop]
 cases V.zL (l.drop (c+b))with
 |none=>rfl
 |some x=>
  simp only[Option.map_some,Option.bind_some,Nat.add_zero];by_cases d:12<=m;rw [if_pos d,if_pos d];rw [if_neg d,if_neg d];unfold jo;rw[show c+(b+x.2.toNat)=c+b+x.2.toNat by omega];cases tk (2*m.toNat) (l.drop (c+b+x.2.toNat))with
  |none=>rfl
  |some y=>simp
theorem zgt(h:12<=m):gF a m A l=none:=by
 unfold gF
 cases V.zL (l.drop A)with
 |none=>rfl
 |some x=>simp[h]
theorem zgs(h:V.zL (l.drop A)=none):gF a m A l=none:=by simp[gF,h]
theorem zgu{c:Int}(h:V.zL (l.drop A)=some (d,c))(b:¬12<=m):gF a m A l=jo (2*m.toNat) (a-d) [(a-d,a)] (A+c.toNat) l:=by simp[gF,h,b]
theorem zpd(a:List R)(b:R):(flat (a++[b]))[a.length*2]? =some (.int .i64 b.1)/\(flat (a++[b]))[a.length*2+1]? =some (.int .i64 b.2):=by
 have h:=flat_get (a++[b]) a.length (by simp);have e:at' (a++[b]) a.length=b:=by simp[at']
 rw[e]at h;exact h
theorem fC(s:ByteArray)(A:Nat)(a:A<=s.size)(w:World)(b:s.size<=9223372036854775807):
  Cl 116 #[.string (s.extract A s.size)] w (V.vV (V.zL ((V.ints s).drop A))):=by
 have h:=V.ZP (s.extract A s.size) w (by unfold maxLen;simp;omega);rw[qY s A a]at h;exact h
theorem Xy(s:ByteArray)(A:Nat)(a:A<=s.size)(w:World)(b:s.size<=9223372036854775807)(h:V.zL ((V.ints s).drop A)=none):
  Cl 116 #[.string (s.extract A s.size)] w (.tuple #[.int .i64 0,.int .i64 0,.bool false]):=by
 have:=fC s A a w b;rw[h]at this;exact this
theorem Q7(s:ByteArray)(A:Nat)(a:A<=s.size)(w:World)(b:s.size<=9223372036854775807)(g c:Int)(h:V.zL ((V.ints s).drop A)=some (g,c)):
  Cl 116 #[.string (s.extract A s.size)] w (.tuple #[.int .i64 g,.int .i64 c,.bool true]):=by
 have:=fC s A a w b;rw[h]at this;exact this
abbrev Zx(s:ByteArray)(w:World)(e:Ending)(E:World):Prop:=
 ((zt (V.ints s)=none/\e=.returned (.tuple #[.slice none 0 0,.int .i64 0,.bool false]))\/(∃(J:List R) (v:Value) (A:Nat),zt (V.ints s)=some (J,A)/\e=.returned (.tuple #[v,.int .i64 (A:Int),.bool true])/\E.ownsRow w.heap.size 143 2 v J.length (flat J)))/\Below w.heap.size w E
theorem zox(s:ByteArray)(w:World)(b:s.size<=maxLen)(h:V.zL (V.ints s)=none):Calls Tryz.prog 115 #[.string s] w (Zx s w):=by
 have HG:=V.ZP s w b;rw[h]at HG;simp only[V.vV]at HG;have c:=zoq h;go_enter Tryz.func115,Tryz.ntmps115
 go_wp2_with fail;refine HG.mono ?_;rintro e d ⟨rfl,a⟩;go_wp2_with fail;go_ret3
 exact⟨.inl ⟨c,rfl⟩,a⟩
theorem zoy(s:ByteArray)(w:World)(d:s.size<=maxLen)(a:Int)(b:Nat)(j:b<=s.size)(h:V.zL (V.ints s)=some (a,(b:Int)))(c:V.zL ((V.ints s).drop b)=none):Calls Tryz.prog 115 #[.string s] w (Zx s w):=by
 have HG:=V.ZP s w d;unfold maxLen at d;rw[h]at HG;simp only[V.vV]at HG;have g:=λW=>Xy s b j W d c;have l:zt (V.ints s)=none:=zor h c;have m:(b:Int)<=(s.size:Int):=by omega
 clear h c;go_enter Tryz.func115,Tryz.ntmps115
 go_wp2_with fail;refine HG.mono ?_;rintro e n ⟨rfl,f⟩;clear HG;go_wp2_with fail;refine(g _).mono ?_;rintro e p ⟨rfl,k⟩;have i:=f.trans (k.mono f.size);go_wp2_with fail;go_ret3
 exact⟨.inl ⟨l,rfl⟩,i⟩
theorem zo4(s:ByteArray)(w:World)(d:s.size<=maxLen)(a m:Int)(b f:Nat)(k:b<=s.size)(h:V.zL (V.ints s)=some (a,(b:Int)))(c:V.zL ((V.ints s).drop b)=some (m,(f:Int)))(n:12<=m):Calls Tryz.prog 115 #[.string s] w (Zx s w):=by
 have HG:=V.ZP s w d;unfold maxLen at d;rw[h]at HG;simp only[V.vV]at HG;have i:=λW=>Q7 s b k W d m f c;have p:zt (V.ints s)=none:=by
  rw[eD h c];exact zgt n
 have q:(b:Int)<=(s.size:Int):=by omega
 clear h c;go_enter Tryz.func115,Tryz.ntmps115
 go_wp2_with fail;refine HG.mono ?_;rintro e r ⟨rfl,g⟩;clear HG;go_wp2_with fail;refine(i _).mono ?_;rintro e t ⟨rfl,l⟩;have j:=g.trans (l.mono g.size);go_wp2_with fail;go_ret3
 exact⟨.inl ⟨p,rfl⟩,j⟩
theorem zo1(s:ByteArray)(w:World)(x:s.size<=maxLen)(a m:Int)(y U:Nat)(ap:y<=4)(aq:U<=4)(hC:y+U<=s.size)(h:V.zL (V.ints s)=some (a,(y:Int)))(M:V.zL ((V.ints s).drop y)=some (m,(U:Int)))(ha:0<=a/\a<1073741824)(af:0<=m)(hm:m<12):Calls Tryz.prog 115 #[.string s] w (Zx s w):=by
 have HG:=V.ZP s w x;unfold maxLen at x;rw[h]at HG;simp only[V.vV]at HG;have S:=λW=>Q7 s y (by omega) W x m U M;have HP:Hid (zt (V.ints s)=gF a m (y+U) (V.ints s)):=by
  show _=_;exact eD h M
 have g1:(y:Int)<=(s.size:Int):=by omega
 clear h M;go_enter Tryz.func115,Tryz.ntmps115
 go_wp2_with fail;refine HG.mono ?_;rintro e w1 ⟨rfl,T⟩;clear HG;go_wp2_with fail;refine(S _).mono ?_;rintro e w2 ⟨rfl,a6⟩;have a3:=T.trans (a6.mono T.size);clear S;have gm:¬12<=m:=by omega
 go_wp2_with fail
 go_loopw [5,6,10,11] (λhv av ov O wr=>∃(k A:Nat) (J:List R),(k:Int)<=m+1/\O=.int .i64 (k:Int)/\av=.int .i64 (A:Int)/\A<=s.size/\wr.ownsRow w.heap.size 143 2 ov k (flat J)/\Below w.heap.size w wr/\
   ((k=0/\hv=.int .i64 a/\J=[]/\Hid (zt (V.ints s)=gF a m A (V.ints s)))\/(∃(j:Nat) (b q:Int) (n:List R),k=j+1/\n.length=j/\J=n++[(b,q)]/\0<=b/\b<1073741824/\Hid (zt (V.ints s)=jo (2*(m.toNat+1-k)) b J A (V.ints s)))))
  (λ_ _ _ O _=>(m+1-intOf O).toNat)
 case atStart=>exact⟨0,y+U,[],by omega,rfl,by simp,hC,World.ownsRow_nil _ _ _ _,a3,.inl ⟨rfl,rfl,rfl,HP⟩⟩
 case round=>
  obtain⟨k,A,J,hk,rfl,rfl,H,hown,u,a9⟩:=hrel;have gA:(A:Int)<=(s.size:Int):=by omega
  have Q:=u.size;have F:=ji (zu s) A;rcases a9 with⟨rfl,rfl,rfl,hE⟩|⟨j,b,q,n,rfl,D,rfl,ad,ay,hE⟩
  .have g0:(0:Int)<=m:=af
   have ag:∃L c,u10=.slice L 0 c:=by
    rcases hown.2 with⟨e,_⟩|⟨g,a1,al,e,_⟩;exact ⟨_,_,e⟩;exact ⟨_,_,e⟩
   obtain⟨L,cc,rfl⟩:=ag
   cases hg:V.zL ((V.ints s).drop A)with
   |none=>
    have t:Hid (zt (V.ints s)=none):=by show _=_;rw[hE.out];exact zgs hg
    have r:=λW=>Xy s A H W x hg;clear hE hg F;go_wp2_with fail;refine(r _).mono ?_;rintro e z ⟨rfl,l⟩;have i:=u.trans (l.mono Q);go_wp2_with fail;go_ret3
    exact⟨.inl ⟨t.out,rfl⟩,i⟩
   |some p=>
    obtain⟨d,c⟩:=p;obtain⟨f,rfl,a8,hcl,aa,ab⟩:=vW F hg;have I:A+f<=s.size:=by rw[List.length_drop,zg]at hcl;omega
    have r:=λW=>Q7 s A H W x d f hg;have P:Hid (zt (V.ints s)=jo (2*m.toNat) (a-d) [(a-d,a)] (A+f) (V.ints s)):=by
     show _=_;rw[hE.out,zgu hg (by omega)];rfl
    clear hE hg hcl F;by_cases E:a-d<0
    .have t:Hid (zt (V.ints s)=none):=by show _=_;rw[P.out];exact Yg (zu s) E
     clear P;go_wp2_with fail;refine(r _).mono ?_;rintro e z ⟨rfl,l⟩;have i:=u.trans (l.mono Q);go_wp2_with fail;go_ret3
     exact⟨.inl ⟨t.out,rfl⟩,i⟩
    have gl:¬a-d<0:=E;go_wp2_with fail;refine(r _).mono ?_;rintro e z ⟨rfl,l⟩;have i:=u.trans (l.mono Q);have aj:=own_below hown l;clear r;go_wp2_with (at_builtin;refine ZW rfl (.tmp 91) (.tmp 97) rfl w.heap.size _ _ _ rfl (aj.alloc _) _ [(a-d,a)] rfl (Q9 _ (a-d) a) (by simp) (by simp;have:=i.size;omega) ?_;intro v4 K ah B);have v:Below w.heap.size w K:=(i.alloc i.size _).trans B;exact⟨⟨1,A+f,[(a-d,a)],by omega,by go_num,by simp,I,by simpa[flat]using ah,v,.inr ⟨0,a-d,a,[],rfl,rfl,rfl,by omega,by omega,(by
     show _=_;rw[P.out,show 2*(m.toNat+1-1)=2*m.toNat by omega])⟩⟩,by simp[intOf];omega⟩
  have X:n.length*2+2<=(flat (n++[(b,q)])).length:=by rw[jT];simp;omega
  have HO:Hid (wr.ownsRow w.heap.size 143 2 u10 (j+1) (flat (n++[(b,q)]))):=hown;by_cases ae:(j:Int)+1<=m
  .obtain ⟨o,a1,rfl⟩:=ownsRow_succ hown
   have N:o<wr.heap.size:=(hown.lt o rfl).2
   have cl0:=hown.cells (g:=o) rfl (j*2) (.int .i64 b) (by have:=(zpd n (b,q)).1;rw[D]at this;exact this)
   rw[Addr.add_lit,Nat.zero_add]at cl0
   have Y:2*(m.toNat+1-(j+1))=2*(m.toNat+1-(j+1+1))+2:=by omega
   rw[Y]at hE
   have ax:j+1<=11:=by omega
   have a0:Hid (n.length=j):=D
   clear Y D X hk hown
   cases hg:V.zL ((V.ints s).drop A)with
   |none=>
    have t:Hid (zt (V.ints s)=none):=by show _=_;rw[hE.out];exact zgw (by omega) hg
    have r:=λW=>Xy s A H W x hg;clear hE hg F;go_wp2_with fail;refine(r _).mono ?_;rintro e z ⟨rfl,l⟩;have i:=u.trans (l.mono Q);go_wp2_with fail;go_ret3
    exact⟨.inl ⟨t.out,rfl⟩,i⟩
   |some p=>
    obtain⟨g,c⟩:=p
    obtain⟨f,rfl,a8,hcl,aa,ab⟩:=vW F hg
    have I:A+f<=s.size:=by rw[List.length_drop,zg]at hcl;omega
    have r:=λW=>Q7 s A H W x g f hg
    have am:(A:Int)+(f:Int)<=(s.size:Int):=by omega
    cases hg2':V.zL ((V.ints s).drop (A+f))with
    |none=>
     have t:Hid (zt (V.ints s)=none):=by show _=_;rw[hE.out];exact zgx (by omega) hg hg2'
     have C:=λW=>Xy s (A+f) I W x hg2';clear hE hg F hg2' hcl;go_wp2_with fail;refine(r _).mono ?_;rintro e z ⟨rfl,l⟩;have i:=u.trans (l.mono Q);have q0:=(l.cell (p:=⟨o,j*2,none⟩) N).trans cl0;have a5:((A:Int)+(f:Int)).toNat=A+f:=by omega
     go_wp2_with fail;refine(C _).mono ?_;rintro e K ⟨rfl,B⟩;have v:=i.trans (B.mono i.size);go_wp2_with fail;go_ret3
     exact⟨.inl ⟨t.out,rfl⟩,v⟩
    |some p2=>
     obtain⟨d,c2⟩:=p2;obtain⟨G,rfl,ar,hcl2,au,aw⟩:=vW (ji (zu s) _) hg2';have a2:A+f+G<=s.size:=by rw[List.length_drop,zg]at hcl2;omega
     have C:=λW=>Q7 s (A+f) I W x d G hg2';have P:Hid (zt (V.ints s)=jo (2*(m.toNat+1-(j+1+1))) (b-2-g-d) (n++[(b,q)]++[(b-2-g-d,b-2-g)]) (A+f+G) (V.ints s)):=by
      show _=_;rw[hE.out,zgz hg hg2']
     have a5:((A:Int)+(f:Int)).toNat=A+f:=by omega
     clear hE hg F hg2' hcl hcl2;by_cases E:b-2-g-d<0
     .have t:Hid (zt (V.ints s)=none):=by show _=_;rw[P.out];exact Yg (zu s) E
      clear P;go_wp2_with fail;refine(r _).mono ?_;rintro e z ⟨rfl,l⟩;have i:=u.trans (l.mono Q);have q0:=(l.cell (p:=⟨o,j*2,none⟩) N).trans cl0;go_wp2_with fail;refine(C _).mono ?_;rintro e K ⟨rfl,B⟩;have v:=i.trans (B.mono i.size);go_wp2_with fail;go_ret3
      exact⟨.inl ⟨t.out,rfl⟩,v⟩
     have gl:¬b-2-g-d<0:=E;go_wp2_with fail;refine(r _).mono ?_;rintro e z ⟨rfl,l⟩;have i:=u.trans (l.mono Q);have q0:=(l.cell (p:=⟨o,j*2,none⟩) N).trans cl0;go_wp2_with fail;refine(C _).mono ?_;rintro e K ⟨rfl,B⟩;have v:=i.trans (B.mono i.size);have ak:=own_below (own_below HO.out l) B;clear r C;go_wp2_with (at_builtin;refine ZW rfl (.tmp 91) (.tmp 97) rfl w.heap.size _ _ _ rfl (ak.alloc _) _ [(b-2-g-d,b-2-g)] rfl (Q9 _ (b-2-g-d) (b-2-g)) (by simp;omega) (by simp;have:=v.size;omega) ?_;intro v5 w5 ai a7)
     have a4:Below w.heap.size w w5:=(v.alloc v.size _).trans a7;exact⟨⟨j+1+1,A+f+G,n++[(b,q)]++[(b-2-g-d,b-2-g)],by omega,by go_num,by simp,a2,(by rw[xL];exact ai),a4,.inr ⟨j+1,b-2-g-d,b-2-g,n++[(b,q)],rfl,by simp[a0.out],rfl,by omega,by omega,(by
      show _=_;rw[P.out])⟩⟩,by simp[intOf];omega⟩
  have ac:2*(m.toNat+1-(j+1))=0:=by omega
  rw[ac]at hE;have F1:Hid (zt (V.ints s)=some (n++[(b,q)],A)):=by show _=_;rw[hE.out];exact zgy ad
  have Z:=vY HO.out (by simp;omega);have HR:Hid (Row wr u10 (n++[(b,q)])):=Z;obtain⟨L,cc,hv,_⟩:=Z;rw[show(n++[(b,q)]).length=j+1 by simp[D]]at hv;subst hv;have an:¬(j:Int)+1<=m:=ae;clear hE F X;go_wp2_with fail;go_ret3
  exact⟨.inr ⟨n++[(b,q)],_,A,F1.out,rfl,by rw[show(n++[(b,q)]).length=j+1 by simp[D]];exact HO.out⟩,u⟩
theorem eX(s:ByteArray)(w:World)(d:s.size<=maxLen):Calls Tryz.prog 115 #[.string s] w (Zx s w):=by
 cases hg:V.zL (V.ints s)with
 |none=>exact zox s w d hg
 |some p=>
  obtain⟨a,c⟩:=p
  obtain⟨b,rfl,h,hle,f,g⟩:=vW (zu s) hg
  rw[zg]at hle
  cases hg2:V.zL ((V.ints s).drop b)with
  |none=>exact zoy s w d a b hle hg hg2
  |some l=>
   obtain⟨m,n⟩:=l;obtain⟨e,rfl,i,hle2,k,q⟩:=vW (ji (zu s) _) hg2;rw[List.length_drop,zg]at hle2;by_cases j:12<=m;exact zo4 s w d a m b e hle hg hg2 j;exact zo1 s w d a m b e h i (by omega) hg hg2 ⟨f,g⟩ k (by omega)
theorem zew(b f M L C:Nat)(d:List Int)(w:World)(H:L=2*M)(a7:M<=12)(S:d.length=L)(x:b<w.heap.size)(K:ICells w b f d):
  Calls Tryz.prog 61 #[.slice (some ⟨b,f,none⟩) L C] w λe E=>∃v,e=.returned v/\Row E v (zR d)/\Below w.heap.size w E:=by
 have HLM:=zC H;have t:=zC S;have B:=zC K;have HRL:Hid ((zR d).length=M):=ZQ M d (by omega);obtain⟨m,O,T,W,Y⟩:=info_parts wX;have n:Hid (Tryz.prog.info? 143=some m/\m.zero=some (.agg #[.int .i64 0,.int .i64 0])/\m.size=2/\m.bytes=16):=⟨O,T,W,Y⟩;have a6:L<=24:=by omega
 clear S K H O T W Y;go_enter Tryz.func61,Tryz.ntmps61
 go_wp2_with fail;go_loopw [3,4] (λv i wr=>∃k j:Nat,k<=M/\Hid (j=2*k)/\i=.int .i64 (j:Int)/\wr.ownsRow w.heap.size 143 2 v k (flat ((zR d).take k))/\Below w.heap.size w wr) (λ_ i _=>L-(intOf i).toNat)
 case atStart=>exact⟨0,0,Nat.zero_le _,rfl,rfl,World.ownsRow_nil _ _ _ _,Below.refl _ _⟩
 case round=>
  obtain⟨k,j,hk,r,rfl,hown,s⟩:=hrel;by_cases a1:k<M
  .have R:=r.out;have hL:=HLM.out;have g1:(j:Int)+1<(L:Int):=by omega
   have g0:(j:Int)<(L:Int):=by omega
   have V:=B.out j (by have:=t.out;omega);have o:=B.out (j+1) (by have:=t.out;omega);have z0:=(s.cell (p:=⟨b,f+j,none⟩) x).trans V;have z1:=(s.cell (p:=⟨b,f+(j+1),none⟩) x).trans o;have HN:Hid ((zR d).take (k+1)=(zR d).take k++[(d[j+1]?.getD 0,d[j]?.getD 0)]):=by
    show _=_;rw[take_at (by have:=HRL.out;omega),<-Xz M d (by have:=t.out;omega)];simp[at',a1,vG,R]
   have a5:(0:Int)<=(j:Int):=by omega
   have a0:(0:Int)<=(j:Int)+1:=by omega
   have ac:IntKind.i64.wrap ((j:Int)+1)=(j:Int)+1:=by simp[IntKind.wrap,IntKind.bits,IntKind.signed];omega
   have a9:((j:Int)+1).toNat=j+1:=by omega
   clear V o R hL;generalize d[j]?.getD 0=g at*;generalize d[j+1]?.getD 0=h at*;have P:Hid (k<12):=by show _<_;omega
   have z:wr.drew.cell? ⟨b,f+j,none⟩=some (.int .i64 g):=z0;have A:wr.drew.cell? ⟨b,f+(j+1),none⟩=some (.int .i64 h):=z1;have ownd:wr.drew.ownsRow w.heap.size 143 2 u3 k (flat ((zR d).take k)):=hown;have HO:=zC ownd;have l:Below w.heap.size w wr.drew:=s.drew;have J:b<wr.drew.heap.size:=Nat.lt_of_lt_of_le x l.size;have ab:w.heap.size<=wr.drew.heap.size:=l.size;have aa:w.heap.size<=wr.heap.size:=l.size
   have N:=Qy wr.drew h g;have Z:Hid (∀j u,[Value.int .i64 h,Value.int .i64 g][j]? =some u->(wr.drew.alloc (.cells #[.int .i64 h,.int .i64 g] 143)).cell? ((⟨wr.drew.heap.size,0,none⟩:Addr).add j)=some u):=N;have hng:some b≠u3.ownBlock:=λe=>by have:=(ownd.lt b e.symm).1;omega
   have I:b<(wr.drew.alloc (.cells #[.int .i64 h,.int .i64 g] 143)).heap.size:=by rw[World.size_alloc];omega
   have D:=(World.cell?_alloc_lt wr.drew (.cells #[.int .i64 h,.int .i64 g] 143) ⟨b,f+j,none⟩ J).trans z;have G:=(World.cell?_alloc_lt wr.drew (.cells #[.int .i64 h,.int .i64 g] 143) ⟨b,f+(j+1),none⟩ J).trans A;obtain⟨Q,U,rfl⟩:∃a c,u3=.slice a k c:=by
    rcases hown.2 with⟨e,h0⟩|⟨g',a3,a4,e,_⟩;exact ⟨none,0,by rw[e,h0]⟩;exact ⟨_,_,e⟩
   clear hown ownd N z0 z1;go_wp2_with fail;go_region_held3 (λX=>X.cell? ⟨b,f+j,none⟩=some (.int .i64 g)/\X.cell? ⟨b,f+(j+1),none⟩=some (.int .i64 h)) (first|exact⟨z,A⟩|exact⟨D,G⟩|exact⟨f0,f1⟩) (first|(refine vR rfl (.tmp 12) (.tmp 23) 88 rfl w.heap.size 143 m _ 2 16 Tryz.underlying88 n.out.1 n.out.2.1 n.out.2.2.1 n.out.2.2.2 rfl (by decide) (.slice Q k U) k (flat ((zR d).take k)) (by simp[Act.eval,Act.put]) (HO.out.alloc _) ⟨wr.drew.heap.size,0,none⟩ 1 1 [Value.int .i64 h,Value.int .i64 g] (by simp[Act.eval,Act.put]) rfl Z.out (by intro u hu;simp at hu;rcases hu with rfl|rfl<;>rfl) (by have:=P.out;unfold maxLen;omega) (by have:=P.out;omega) (by simp;omega) ?_;intro v' w4 a2 y;have f0:=kw D y I hng;have f1:=kw G y I hng))
   go_wp2_with fail;exact⟨⟨k+1,j+2,by omega,by show _=_;have:=r.out;omega,by go_num,by rw[HN.out,xL];exact a2,(l.alloc l.size _).grown y (by rw[World.size_alloc];omega) (λq e=>(HO.out.lt q e).1)⟩,by simp[intOf];omega⟩
  obtain rfl:k=M:=by omega
  have g1:¬(j:Int)+1<(L:Int):=by have:=r.out;have:=HLM.out;omega
  have a0:(0:Int)<=(j:Int)+1:=by omega
  have a8:j<=24:=by have:=r.out;omega
  have F:Hid ((zR d).take k=zR d):=by show _=_;rw[<-HRL.out,List.take_length]
  rw[F.out]at hown;have hrow:=vY hown (by have:=HRL.out;omega);obtain⟨Q,U,hv,_⟩:=id hrow;clear F;rw[HRL.out]at hv;subst hv;go_wp2_with fail;go_ret;exact⟨_,rfl,hrow,s⟩
theorem YQ(v:Value)(a:List Int)(M:Nat)(w:World)(i:IRow w v a)(hM:a.length=2*M)(n:1<=M)(f:M<=12):
  Calls Tryz.prog 61 #[v] w λe E=>∃d,e=.returned d/\Row E d (zR a)/\Below w.heap.size w E:=by
 obtain⟨m,c,rfl,q,p,k⟩:=i;rcases k with h|⟨b,l,rfl,j,g⟩;subst h;simp at hM;omega;exact zew b l M _ c a w hM f rfl j g
def jl(k:Int):Int:=if k=1 then 0 else if k=2 then -1 else if k=7 then 2 else 1
theorem kT(k:Int)(w:World):Cs 112 #[.int .i64 k] w (.int .i64 (jl k)):=by
 by_cases a:k=1
 .subst a;go_enter Tryz.func112,Tryz.ntmps112
  go_wp2_with fail;go_ret;exact⟨rfl,rfl⟩
 by_cases b:k=2
 .subst b;go_enter Tryz.func112,Tryz.ntmps112
  go_wp2_with fail;go_ret;exact⟨rfl,rfl⟩
 by_cases c:k=7
 .subst c;go_enter Tryz.func112,Tryz.ntmps112
  go_wp2_with fail;go_ret;exact⟨rfl,rfl⟩
 have e:jl k=1:=by simp[jl,a,b,c]
 rw[e];clear e;go_enter Tryz.func112,Tryz.ntmps112
 go_wp2_with fail;go_ret;exact⟨rfl,rfl⟩
def Zy(r:Int):Int:=if r=0 then 0 else 3
theorem zdt(k:Int)(a:Option Addr)(n c:Nat)(d:ByteArray)(M:List Int)(w:World)(f:IRow w (.slice a n c) M)(j:M.length=n)(g:d.size<=maxLen)(h:k<1):
  Cl 87 #[.agg #[.int .i64 k,.slice a n c,.string d]] w (.int .i64 1):=by
 unfold maxLen at g;have i:n<=9223372036854775807:=by obtain⟨_,_,_,h,_⟩:=f;omega
 have b:Below w.heap.size w (w.alloc (.cells #[.int .i64 k,.slice a n c,.string d] 141)):=(Below.refl _ w).alloc (Nat.le_refl _) _;go_enter Tryz.func87,Tryz.ntmps87
 go_wp2_with fail;go_ret;exact⟨rfl,b⟩
theorem zdu(k:Int)(a:Option Addr)(n c:Nat)(d:ByteArray)(M:List Int)(w:World)(f:IRow w (.slice a n c) M)(l:M.length=n)(g:d.size<=maxLen)(h:8<k):
  Cl 87 #[.agg #[.int .i64 k,.slice a n c,.string d]] w (.int .i64 1):=by
 unfold maxLen at g;have j:n<=9223372036854775807:=by obtain⟨_,_,_,h,_⟩:=f;omega
 have b:Below w.heap.size w (w.alloc (.cells #[.int .i64 k,.slice a n c,.string d] 141)):=(Below.refl _ w).alloc (Nat.le_refl _) _;have i:¬k<1:=by omega
 go_enter Tryz.func87,Tryz.ntmps87
 go_wp2_with fail;go_ret;exact⟨rfl,b⟩
theorem zdx(k:Int)(a:Option Addr)(n c:Nat)(d:ByteArray)(M:List Int)(w:World)(g:IRow w (.slice a n c) M)(r:M.length=n)(l:d.size<=maxLen)(f:zw k=true)(b:k≠2)(i:zW k n=false):
  Cl 87 #[.agg #[.int .i64 k,.slice a n c,.string d]] w (.int .i64 3):=by
 unfold maxLen at l;have v:n<=9223372036854775807:=by obtain⟨_,_,_,h,_⟩:=g;omega
 have j:Below w.heap.size w (w.alloc (.cells #[.int .i64 k,.slice a n c,.string d] 141)):=(Below.refl _ w).alloc (Nat.le_refl _) _;have m:=(wF k).1 f;have u:¬8<k:=by omega
 have t:¬k<1:=by omega
 have HC:=kT k;rw[show jl k=((zk k:Nat):Int) by unfold jl zk;simp only[b];repeat' split<;>simp_all]at HC;have p:¬k=2:=b;have hne:¬n=zk k:=by simpa[zW,p]using i
 generalize zk k=q at*;have s:¬(n:Int)=(q:Int):=by omega
 clear f b i m hne g r;go_enter Tryz.func87,Tryz.ntmps87
 go_wp2_with (first|(go_at_call 112;refine(HC _).mono ?_;rintro e x ⟨rfl,rfl⟩));go_ret;exact⟨rfl,j⟩
theorem zdy(a:Option Addr)(n c:Nat)(d:ByteArray)(M:List Int)(w:World)(hR0:IRow w (.slice a n c) M)(hn:M.length=n)(g:d.size<=maxLen)(f:n=0):
  Cl 87 #[.agg #[.int .i64 2,.slice a n c,.string d]] w (.int .i64 3):=by
 unfold maxLen at g;have i:n<=9223372036854775807:=by obtain⟨_,_,_,h,_⟩:=hR0;omega
 have bel:Below w.heap.size w (w.alloc (.cells #[.int .i64 2,.slice a n c,.string d] 141)):=(Below.refl _ w).alloc (Nat.le_refl _) _;have b:=kT 2;subst f;clear hR0 hn;go_enter Tryz.func87,Tryz.ntmps87
 go_wp2_with (first|(go_at_call 112;refine(b _).mono ?_;rintro e j ⟨rfl,rfl⟩));go_ret;exact⟨rfl,bel⟩
theorem zdw(a:Option Addr)(n c:Nat)(d:ByteArray)(M:List Int)(w:World)(b:IRow w (.slice a n c) M)(l:M.length=n)(k:d.size<=maxLen)(i:n≠0)(j:n%2=1):
  Cl 87 #[.agg #[.int .i64 2,.slice a n c,.string d]] w (.int .i64 3):=by
 unfold maxLen at k;have q:n<=9223372036854775807:=by obtain⟨_,_,_,h,_⟩:=b;omega
 have g:Below w.heap.size w (w.alloc (.cells #[.int .i64 2,.slice a n c,.string d] 141)):=(Below.refl _ w).alloc (Nat.le_refl _) _;have f:=kT 2;have p:¬(n:Int)=0:=by omega
 have m:(n:Int).tmod 2=1:=by rw[Int.tmod_eq_emod_of_nonneg (by omega)];omega
 clear b l i j;go_enter Tryz.func87,Tryz.ntmps87
 go_wp2_with (first|(go_at_call 112;refine(f _).mono ?_;rintro e r ⟨rfl,rfl⟩));go_ret;exact⟨rfl,g⟩
theorem zdv(a:Option Addr)(n c:Nat)(d:ByteArray)(M:List Int)(w:World)(b:IRow w (.slice a n c) M)(l:M.length=n)(k:d.size<=maxLen)(i:n≠0)(j:n%2=0)(r:24<n):
  Cl 87 #[.agg #[.int .i64 2,.slice a n c,.string d]] w (.int .i64 3):=by
 unfold maxLen at k;have s:n<=9223372036854775807:=by obtain⟨_,_,_,h,_⟩:=b;omega
 have g:Below w.heap.size w (w.alloc (.cells #[.int .i64 2,.slice a n c,.string d] 141)):=(Below.refl _ w).alloc (Nat.le_refl _) _;have f:=kT 2;have q:¬(n:Int)=0:=by omega
 have p:(n:Int).tmod 2=0:=by rw[Int.tmod_eq_emod_of_nonneg (by omega)];omega
 have m:(24:Int)<(n:Int):=by omega
 clear b l i j;go_enter Tryz.func87,Tryz.ntmps87
 go_wp2_with (first|(go_at_call 112;refine(f _).mono ?_;rintro e t ⟨rfl,rfl⟩));go_ret;exact⟨rfl,g⟩
theorem zd0(k:Int)(a:Option Addr)(n c:Nat)(d:ByteArray)(M:List Int)(w:World)(g:IRow w (.slice a n c) M)(s:M.length=n)(p:d.size<=maxLen)(f:zw k=true)(b:k≠2)(m:k≠3)(i:zW k n=true)(l:d.size≠0):
  Cl 87 #[.agg #[.int .i64 k,.slice a n c,.string d]] w (.int .i64 3):=by
 unfold maxLen at p;have x:n<=9223372036854775807:=by obtain⟨_,_,_,h,_⟩:=g;omega
 have j:Below w.heap.size w (w.alloc (.cells #[.int .i64 k,.slice a n c,.string d] 141)):=(Below.refl _ w).alloc (Nat.le_refl _) _;have q:=(wF k).1 f;have v:¬8<k:=by omega
 have t:¬k<1:=by omega
 have u:¬k=3:=m;have HC:=kT k;rw[show jl k=((zk k:Nat):Int) by unfold jl zk;simp only[b];repeat' split<;>simp_all]at HC;have r:¬k=2:=b;rw[show zk k=n by simp[zW,r]at i;omega]at HC;have y:=x8 l;clear i f b q g s;go_enter Tryz.func87,Tryz.ntmps87
 go_wp2_with (first|(go_at_call 112;refine(HC _).mono ?_;rintro e B ⟨rfl,rfl⟩));go_ret;exact⟨by first|rfl|simp,j⟩
theorem zdz(a:Option Addr)(n c:Nat)(d:ByteArray)(f:List Int)(w:World)(b:IRow w (.slice a n c) f)(m:f.length=n)(l:d.size<=maxLen)(M:Nat)(k:n=2*M)(t:1<=M)(u:M<=12)(j:d.size≠0):
  Cl 87 #[.agg #[.int .i64 2,.slice a n c,.string d]] w (.int .i64 3):=by
 unfold maxLen at l;have v:n<=9223372036854775807:=by obtain⟨_,_,_,h,_⟩:=b;omega
 have i:Below w.heap.size w (w.alloc (.cells #[.int .i64 2,.slice a n c,.string d] 141)):=(Below.refl _ w).alloc (Nat.le_refl _) _;have g:=kT 2;have r:¬(n:Int)=0:=by omega
 have s:((n:Int)==0)=false:=by simp;omega
 have p:¬(24:Int)<(n:Int):=by omega
 have q:(n:Int).tmod 2=0:=by rw[Int.tmod_eq_emod_of_nonneg (by omega)];omega
 have x:=x8 j;clear k b m;go_enter Tryz.func87,Tryz.ntmps87
 go_wp2_with (first|(go_at_call 112;refine(g _).mono ?_;rintro e y ⟨rfl,rfl⟩));go_ret;exact⟨by first|rfl|simp,i⟩
theorem zd2(k:Int)(a:Option Addr)(n c:Nat)(M:List Int)(w:World)(f:IRow w (.slice a n c) M)(u:M.length=n)(r:zw k=true)(d:k≠2)(Q:k≠3)(t:zW k n=true)(U:xA M=true):
  Cl 87 #[.agg #[.int .i64 k,.slice a n c,.string {data:=#[]}]] w (.int .i64 1):=by
 skip
 have S:n<=9223372036854775807:=by obtain⟨_,_,_,h,_⟩:=f;omega
 have bel:Below w.heap.size w (w.alloc (.cells #[.int .i64 k,.slice a n c,.string {data:=#[]}] 141)):=(Below.refl _ w).alloc (Nat.le_refl _) _;have z:=(wF k).1 r;have R:¬8<k:=by omega
 have N:¬k<1:=by omega
 have O:¬k=3:=Q;have HC:=kT k;rw[show jl k=((zk k:Nat):Int) by unfold jl zk;simp only[d];repeat' split<;>simp_all]at HC;have A:¬k=2:=d;rw[show zk k=n by simp[zW,A]at t;omega]at HC;have x:=zC f;have HN:=zC u;clear f u;clear t r d z;go_enter Tryz.func87,Tryz.ntmps87
 go_wp2_with (first|(go_at_call 112;refine(HC _).mono ?_;rintro e W ⟨rfl,rfl⟩));have bx:FBox (w.alloc (.cells #[.int .i64 k,.slice a n c,.string {data:=#[]}] 141)) w.heap.size k (.slice a n c) {data:=#[]}:=FBox.new w k _ _;generalize(w.alloc (.cells #[.int .i64 k,.slice a n c,.string {data:=#[]}] 141))=B at*;have H:=bx.c0;have I:=bx.c1;have J:=bx.c2;go_loopw [5] (λi wr=>∃j:Nat,j<=n/\i=.int .i64 (j:Int)/\wr=B/\Hid (∀q,q<j->V.zH (M[q]?.getD 0)=true)) (λi _=>n-(intOf i).toNat)
 case atStart=>exact⟨0,Nat.zero_le _,rfl,rfl,λq l=>absurd l (Nat.not_lt_zero _)⟩
 case round=>
  obtain⟨j,L,rfl,rfl,p⟩:=hrel;by_cases T:j<n
  .have P:(j:Int)<(n:Int):=by omega
   have hjl:j<M.length:=by have:=HN.out;omega
   obtain⟨b,m,rfl,o,s⟩:∃b m,a=some ⟨b,m,none⟩/\b<w.heap.size/\ICells w b m M:=by
    obtain⟨D,G,F,_,_,hz⟩:=x.out;injection F with e1 _ _;subst e1;rcases hz with h|h;rw [h]at hjl;simp at hjl;exact h
   have X:=s.below o bel j hjl
   generalize v:M[j]?.getD 0=y at*
   have HY:Hid (M[j]?.getD 0=y):=v
   clear v s
   have K:(0:Int)<=(j:Int):=by omega
   cases g:V.zH y with
   |true=>
    have HM:=V.wY y wr;rw[g]at HM;go_wp2_with (first|(go_at_call 66;refine HM.mono ?_;rintro e C ⟨rfl,rfl⟩));refine⟨⟨j+1,by omega,by go_num,by first|rfl|trivial,(show Hid _ from λq l=>?_)⟩,by simp[intOf];omega⟩;by_cases e:q=j;subst e;rw[HY.out];exact g;exact p.out q (by omega)
   |false=>
    have HM:=V.wY y wr;rw[g]at HM;go_wp2_with (first|(go_at_call 66;refine HM.mono ?_;rintro e C ⟨rfl,rfl⟩));go_ret;exact⟨rfl,bel⟩
  obtain rfl:j=n:=by omega
  have P:¬(j:Int)<(j:Int):=by omega
  exfalso;obtain⟨q,l,hq2⟩:=any_ints.1 U;rw[p.out q (by have:=HN.out;omega)]at hq2;cases hq2
theorem zd3(a:Option Addr)(n c:Nat)(d:ByteArray)(M:List Int)(w:World)(f:IRow w (.slice a n c) M)(s:M.length=n)(Q:d.size<=maxLen)(r:n=1)(F:xA M=true):
  Cl 87 #[.agg #[.int .i64 3,.slice a n c,.string d]] w (.int .i64 1):=by
 unfold maxLen at Q;have I:n<=9223372036854775807:=by obtain⟨_,_,_,h,_⟩:=f;omega
 have bel:Below w.heap.size w (w.alloc (.cells #[.int .i64 3,.slice a n c,.string d] 141)):=(Below.refl _ w).alloc (Nat.le_refl _) _;have HC:=kT 3;rw[show jl 3=(n:Int) by rw[r];rfl]at HC;have u:=zC f;have HN:=zC s;clear f s;clear r;go_enter Tryz.func87,Tryz.ntmps87
 go_wp2_with (first|(go_at_call 112;refine(HC _).mono ?_;rintro e K ⟨rfl,rfl⟩));have bx:FBox (w.alloc (.cells #[.int .i64 3,.slice a n c,.string d] 141)) w.heap.size 3 (.slice a n c) d:=FBox.new w 3 _ _;generalize(w.alloc (.cells #[.int .i64 3,.slice a n c,.string d] 141))=v at*;have A:=bx.c0;have C:=bx.c1;have D:=bx.c2;go_loopw [5] (λi wr=>∃j:Nat,j<=n/\i=.int .i64 (j:Int)/\wr=v/\Hid (∀q,q<j->V.zH (M[q]?.getD 0)=true)) (λi _=>n-(intOf i).toNat)
 case atStart=>exact⟨0,Nat.zero_le _,rfl,rfl,λq k=>absurd k (Nat.not_lt_zero _)⟩
 case round=>
  obtain⟨j,H,rfl,rfl,m⟩:=hrel;by_cases J:j<n
  .have B:(j:Int)<(n:Int):=by omega
   have hjl:j<M.length:=by have:=HN.out;omega
   obtain⟨b,l,rfl,P,p⟩:∃b l,a=some ⟨b,l,none⟩/\b<w.heap.size/\ICells w b l M:=by
    obtain⟨o,z,x,_,_,hz⟩:=u.out;injection x with e1 _ _;subst e1;rcases hz with h|h;rw [h]at hjl;simp at hjl;exact h
   have L:=p.below P bel j hjl
   generalize t:M[j]?.getD 0=y at*
   have HY:Hid (M[j]?.getD 0=y):=t
   clear t p
   have G:(0:Int)<=(j:Int):=by omega
   cases g:V.zH y with
   |true=>
    have HM:=V.wY y wr;rw[g]at HM;go_wp2_with (first|(go_at_call 66;refine HM.mono ?_;rintro e U ⟨rfl,rfl⟩));refine⟨⟨j+1,by omega,by go_num,by first|rfl|trivial,(show Hid _ from λq k=>?_)⟩,by simp[intOf];omega⟩;by_cases e:q=j;subst e;rw[HY.out];exact g;exact m.out q (by omega)
   |false=>
    have HM:=V.wY y wr;rw[g]at HM;go_wp2_with (first|(go_at_call 66;refine HM.mono ?_;rintro e U ⟨rfl,rfl⟩));go_ret;exact⟨rfl,bel⟩
  obtain rfl:j=n:=by omega
  have B:¬(j:Int)<(j:Int):=by omega
  exfalso;obtain⟨q,k,hq2⟩:=any_ints.1 F;rw[m.out q (by have:=HN.out;omega)]at hq2;cases hq2
theorem zd1(d:Option Addr)(n c:Nat)(a:List Int)(w:World)(f:IRow w (.slice d n c) a)(r:a.length=n)(M:Nat)(P:n=2*M)(L:1<=M)(N:M<=12)(F:xA a=true):
  Cl 87 #[.agg #[.int .i64 2,.slice d n c,.string {data:=#[]}]] w (.int .i64 1):=by
 skip
 have R:n<=9223372036854775807:=by obtain⟨_,_,_,h,_⟩:=f;omega
 have bel:Below w.heap.size w (w.alloc (.cells #[.int .i64 2,.slice d n c,.string {data:=#[]}] 141)):=(Below.refl _ w).alloc (Nat.le_refl _) _;have t:=kT 2;have J:¬(n:Int)=0:=by omega
 have K:((n:Int)==0)=false:=by simp;omega
 have G:¬(24:Int)<(n:Int):=by omega
 have I:(n:Int).tmod 2=0:=by rw[Int.tmod_eq_emod_of_nonneg (by omega)];omega
 have u:=zC f;have HN:=zC r;clear f r;clear P;go_enter Tryz.func87,Tryz.ntmps87
 go_wp2_with (first|(go_at_call 112;refine(t _).mono ?_;rintro e T ⟨rfl,rfl⟩));have bx:FBox (w.alloc (.cells #[.int .i64 2,.slice d n c,.string {data:=#[]}] 141)) w.heap.size 2 (.slice d n c) {data:=#[]}:=FBox.new w 2 _ _;generalize(w.alloc (.cells #[.int .i64 2,.slice d n c,.string {data:=#[]}] 141))=v at*;have A:=bx.c0;have C:=bx.c1;have D:=bx.c2;go_loopw [5] (λi wr=>∃j:Nat,j<=n/\i=.int .i64 (j:Int)/\wr=v/\Hid (∀q,q<j->V.zH (a[q]?.getD 0)=true)) (λi _=>n-(intOf i).toNat)
 case atStart=>exact⟨0,Nat.zero_le _,rfl,rfl,λq k=>absurd k (Nat.not_lt_zero _)⟩
 case round=>
  obtain⟨j,O,rfl,rfl,m⟩:=hrel;by_cases S:j<n
  .have B:(j:Int)<(n:Int):=by omega
   have hjl:j<a.length:=by have:=HN.out;omega
   obtain⟨b,l,rfl,Q,p⟩:∃b l,d=some ⟨b,l,none⟩/\b<w.heap.size/\ICells w b l a:=by
    obtain⟨o,z,x,_,_,hz⟩:=u.out;injection x with e1 _ _;subst e1;rcases hz with h|h;rw [h]at hjl;simp at hjl;exact h
   have W:=p.below Q bel j hjl
   generalize s:a[j]?.getD 0=y at*
   have HY:Hid (a[j]?.getD 0=y):=s
   clear s p
   have H:(0:Int)<=(j:Int):=by omega
   cases g:V.zH y with
   |true=>
    have HM:=V.wY y wr;rw[g]at HM;go_wp2_with (first|(go_at_call 66;refine HM.mono ?_;rintro e U ⟨rfl,rfl⟩));refine⟨⟨j+1,by omega,by go_num,by first|rfl|trivial,(show Hid _ from λq k=>?_)⟩,by simp[intOf];omega⟩;by_cases e:q=j;subst e;rw[HY.out];exact g;exact m.out q (by omega)
   |false=>
    have HM:=V.wY y wr;rw[g]at HM;go_wp2_with (first|(go_at_call 66;refine HM.mono ?_;rintro e U ⟨rfl,rfl⟩));go_ret;exact⟨rfl,bel⟩
  obtain rfl:j=n:=by omega
  have B:¬(j:Int)<(j:Int):=by omega
  exfalso;obtain⟨q,k,hq2⟩:=any_ints.1 F;rw[m.out q (by have:=HN.out;omega)]at hq2;cases hq2
theorem zd4(a:Option Addr)(n c:Nat)(d:ByteArray)(M:List Int)(w:World)(f:IRow w (.slice a n c) M)(r:M.length=n)(U:d.size<=maxLen)(p:n=1)(P:xA M=false)(I:20<d.size):
  Cl 87 #[.agg #[.int .i64 3,.slice a n c,.string d]] w (.int .i64 4):=by
 unfold maxLen at U;have K:n<=9223372036854775807:=by obtain⟨_,_,_,h,_⟩:=f;omega
 have bel:Below w.heap.size w (w.alloc (.cells #[.int .i64 3,.slice a n c,.string d] 141)):=(Below.refl _ w).alloc (Nat.le_refl _) _;have HC:=kT 3;rw[show jl 3=(n:Int) by rw[p];rfl]at HC;have v:=zC f;have u:=zC r;clear f r;clear p;have G:(20:Int)<(d.size:Int):=by omega
 go_enter Tryz.func87,Tryz.ntmps87
 go_wp2_with (first|(go_at_call 112;refine(HC _).mono ?_;rintro e N ⟨rfl,rfl⟩));have bx:FBox (w.alloc (.cells #[.int .i64 3,.slice a n c,.string d] 141)) w.heap.size 3 (.slice a n c) d:=FBox.new w 3 _ _;generalize(w.alloc (.cells #[.int .i64 3,.slice a n c,.string d] 141))=x at*;have A:=bx.c0;have C:=bx.c1;have D:=bx.c2;go_loopw [5] (λi wr=>∃j:Nat,j<=n/\i=.int .i64 (j:Int)/\wr=x/\Hid (∀q,q<j->V.zH (M[q]?.getD 0)=true)) (λi _=>n-(intOf i).toNat)
 case atStart=>exact⟨0,Nat.zero_le _,rfl,rfl,λq s=>absurd s (Nat.not_lt_zero _)⟩
 case round=>
  obtain⟨j,J,rfl,rfl,l⟩:=hrel;by_cases L:j<n
  .have F:(j:Int)<(n:Int):=by omega
   have hjl:j<M.length:=by have:=u.out;omega
   obtain⟨b,k,rfl,Q,m⟩:∃b k,a=some ⟨b,k,none⟩/\b<w.heap.size/\ICells w b k M:=by
    obtain⟨o,z,B,_,_,hz⟩:=v.out;injection B with e1 _ _;subst e1;rcases hz with h|h;rw [h]at hjl;simp at hjl;exact h
   have R:=m.below Q bel j hjl
   generalize t:M[j]?.getD 0=y at*
   have HY:Hid (M[j]?.getD 0=y):=t
   clear t m
   have H:(0:Int)<=(j:Int):=by omega
   cases g:V.zH y with
   |true=>
    have HM:=V.wY y wr;rw[g]at HM;go_wp2_with (first|(go_at_call 66;refine HM.mono ?_;rintro e O ⟨rfl,rfl⟩));refine⟨⟨j+1,by omega,by go_num,by first|rfl|trivial,(show Hid _ from λq s=>?_)⟩,by simp[intOf];omega⟩;by_cases e:q=j;subst e;rw[HY.out];exact g;exact l.out q (by omega)
   |false=>
    exfalso;have:=any_ints.2 ⟨j,hjl,by rw[HY.out];exact g⟩;rw[P]at this;cases this
  obtain rfl:j=n:=by omega
  have F:¬(j:Int)<(j:Int):=by omega
  clear l;go_wp2_with fail;go_ret;exact⟨rfl,bel⟩
theorem zd6(a:Option Addr)(n c:Nat)(d:ByteArray)(M:List Int)(w:World)(f:IRow w (.slice a n c) M)(r:M.length=n)(U:d.size<=maxLen)(p:n=1)(P:xA M=false)(I:d.size<=20):
  Cl 87 #[.agg #[.int .i64 3,.slice a n c,.string d]] w (.int .i64 0):=by
 unfold maxLen at U;have K:n<=9223372036854775807:=by obtain⟨_,_,_,h,_⟩:=f;omega
 have bel:Below w.heap.size w (w.alloc (.cells #[.int .i64 3,.slice a n c,.string d] 141)):=(Below.refl _ w).alloc (Nat.le_refl _) _;have HC:=kT 3;rw[show jl 3=(n:Int) by rw[p];rfl]at HC;have v:=zC f;have u:=zC r;clear f r;clear p;have G:¬(20:Int)<(d.size:Int):=by omega
 go_enter Tryz.func87,Tryz.ntmps87
 go_wp2_with (first|(go_at_call 112;refine(HC _).mono ?_;rintro e N ⟨rfl,rfl⟩));have bx:FBox (w.alloc (.cells #[.int .i64 3,.slice a n c,.string d] 141)) w.heap.size 3 (.slice a n c) d:=FBox.new w 3 _ _;generalize(w.alloc (.cells #[.int .i64 3,.slice a n c,.string d] 141))=x at*;have A:=bx.c0;have C:=bx.c1;have D:=bx.c2;go_loopw [5] (λi wr=>∃j:Nat,j<=n/\i=.int .i64 (j:Int)/\wr=x/\Hid (∀q,q<j->V.zH (M[q]?.getD 0)=true)) (λi _=>n-(intOf i).toNat)
 case atStart=>exact⟨0,Nat.zero_le _,rfl,rfl,λq s=>absurd s (Nat.not_lt_zero _)⟩
 case round=>
  obtain⟨j,J,rfl,rfl,l⟩:=hrel;by_cases L:j<n
  .have F:(j:Int)<(n:Int):=by omega
   have hjl:j<M.length:=by have:=u.out;omega
   obtain⟨b,k,rfl,Q,m⟩:∃b k,a=some ⟨b,k,none⟩/\b<w.heap.size/\ICells w b k M:=by
    obtain⟨o,z,B,_,_,hz⟩:=v.out;injection B with e1 _ _;subst e1;rcases hz with h|h;rw [h]at hjl;simp at hjl;exact h
   have R:=m.below Q bel j hjl
   generalize t:M[j]?.getD 0=y at*
   have HY:Hid (M[j]?.getD 0=y):=t
   clear t m
   have H:(0:Int)<=(j:Int):=by omega
   cases g:V.zH y with
   |true=>
    have HM:=V.wY y wr;rw[g]at HM;go_wp2_with (first|(go_at_call 66;refine HM.mono ?_;rintro e O ⟨rfl,rfl⟩));refine⟨⟨j+1,by omega,by go_num,by first|rfl|trivial,(show Hid _ from λq s=>?_)⟩,by simp[intOf];omega⟩;by_cases e:q=j;subst e;rw[HY.out];exact g;exact l.out q (by omega)
   |false=>
    exfalso;have:=any_ints.2 ⟨j,hjl,by rw[HY.out];exact g⟩;rw[P]at this;cases this
  obtain rfl:j=n:=by omega
  have F:¬(j:Int)<(j:Int):=by omega
  clear l;go_wp2_with fail;go_ret;exact⟨rfl,bel⟩
theorem zd5(k:Int)(a:Option Addr)(n c:Nat)(M:List Int)(w:World)(f:IRow w (.slice a n c) M)(t:M.length=n)(p:zw k=true)(d:k≠2)(U:k≠3)(s:zW k n=true)(o:xA M=false):
  Cl 87 #[.agg #[.int .i64 k,.slice a n c,.string {data:=#[]}]] w (.int .i64 0):=by
 skip
 have S:n<=9223372036854775807:=by obtain⟨_,_,_,h,_⟩:=f;omega
 have bel:Below w.heap.size w (w.alloc (.cells #[.int .i64 k,.slice a n c,.string {data:=#[]}] 141)):=(Below.refl _ w).alloc (Nat.le_refl _) _;have A:=(wF k).1 p;have R:¬8<k:=by omega
 have N:¬k<1:=by omega
 have O:¬k=3:=U;have HC:=kT k;rw[show jl k=((zk k:Nat):Int) by unfold jl zk;simp only[d];repeat' split<;>simp_all]at HC;have C:¬k=2:=d;rw[show zk k=n by simp[zW,C]at s;omega]at HC;have B:=zC f;have x:=zC t;clear f t;clear s p d A;go_enter Tryz.func87,Tryz.ntmps87
 go_wp2_with (first|(go_at_call 112;refine(HC _).mono ?_;rintro e W ⟨rfl,rfl⟩));have bx:FBox (w.alloc (.cells #[.int .i64 k,.slice a n c,.string {data:=#[]}] 141)) w.heap.size k (.slice a n c) {data:=#[]}:=FBox.new w k _ _;generalize(w.alloc (.cells #[.int .i64 k,.slice a n c,.string {data:=#[]}] 141))=F at*;have H:=bx.c0;have I:=bx.c1;have J:=bx.c2;go_loopw [5] (λi wr=>∃j:Nat,j<=n/\i=.int .i64 (j:Int)/\wr=F/\Hid (∀q,q<j->V.zH (M[q]?.getD 0)=true)) (λi _=>n-(intOf i).toNat)
 case atStart=>exact⟨0,Nat.zero_le _,rfl,rfl,λq u=>absurd u (Nat.not_lt_zero _)⟩
 case round=>
  obtain⟨j,L,rfl,rfl,m⟩:=hrel;by_cases T:j<n
  .have Q:(j:Int)<(n:Int):=by omega
   have hjl:j<M.length:=by have:=x.out;omega
   obtain⟨b,l,rfl,z,r⟩:∃b l,a=some ⟨b,l,none⟩/\b<w.heap.size/\ICells w b l M:=by
    obtain⟨D,G,P,_,_,hz⟩:=B.out;injection P with e1 _ _;subst e1;rcases hz with h|h;rw [h]at hjl;simp at hjl;exact h
   have Y:=r.below z bel j hjl
   generalize v:M[j]?.getD 0=y at*
   have HY:Hid (M[j]?.getD 0=y):=v
   clear v r
   have K:(0:Int)<=(j:Int):=by omega
   cases g:V.zH y with
   |true=>
    have HM:=V.wY y wr;rw[g]at HM;go_wp2_with (first|(go_at_call 66;refine HM.mono ?_;rintro e X ⟨rfl,rfl⟩));refine⟨⟨j+1,by omega,by go_num,by first|rfl|trivial,(show Hid _ from λq u=>?_)⟩,by simp[intOf];omega⟩;by_cases e:q=j;subst e;rw[HY.out];exact g;exact m.out q (by omega)
   |false=>
    exfalso;have:=any_ints.2 ⟨j,hjl,by rw[HY.out];exact g⟩;rw[o]at this;cases this
  obtain rfl:j=n:=by omega
  have Q:¬(j:Int)<(j:Int):=by omega
  clear m;go_wp2_with fail;go_ret;exact⟨rfl,bel⟩
theorem zd7(d:Option Addr)(n c:Nat)(a:List Int)(w:World)(g:IRow w (.slice d n c) a)(u:a.length=n)(M:Nat)(D:n=2*M)(G:1<=M)(H:M<=12)(C:xA a=false):
  Cl 87 #[.agg #[.int .i64 2,.slice d n c,.string {data:=#[]}]] w (.int .i64 (Zy (xC (zR a)))):=by
 skip
 have hl:n<=9223372036854775807:=by obtain⟨_,_,_,h,_⟩:=g;omega
 have bel:Below w.heap.size w (w.alloc (.cells #[.int .i64 2,.slice d n c,.string {data:=#[]}] 141)):=(Below.refl _ w).alloc (Nat.le_refl _) _;have P:=kT 2;have gz:¬(n:Int)=0:=by omega
 have a1:((n:Int)==0)=false:=by simp;omega
 have Z:¬(24:Int)<(n:Int):=by omega
 have gm:(n:Int).tmod 2=0:=by rw[Int.tmod_eq_emod_of_nonneg (by omega)];omega
 have HD:=YQ (.slice d n c) a M (w.alloc (.cells #[.int .i64 2,.slice d n c,.string {data:=#[]}] 141)) (g.below bel) (by omega) G H;have HX0:=λW v (h:Row W v (zR a))=>zqh v (zR a) W h;have U:=zC g;have Q:=zC u;clear g u;clear D;go_enter Tryz.func87,Tryz.ntmps87
 go_wp2_with (first|(go_at_call 112;refine(P _).mono ?_;rintro e w1 ⟨rfl,rfl⟩));have bx:FBox (w.alloc (.cells #[.int .i64 2,.slice d n c,.string {data:=#[]}] 141)) w.heap.size 2 (.slice d n c) {data:=#[]}:=FBox.new w 2 _ _;generalize(w.alloc (.cells #[.int .i64 2,.slice d n c,.string {data:=#[]}] 141))=o at*;have T:=bx.c0;have X:=bx.c1;have Y:=bx.c2;go_loopw [5] (λi wr=>∃j:Nat,j<=n/\i=.int .i64 (j:Int)/\wr=o/\Hid (∀q,q<j->V.zH (a[q]?.getD 0)=true)) (λi _=>n-(intOf i).toNat)
 case atStart=>exact⟨0,Nat.zero_le _,rfl,rfl,λq x=>absurd x (Nat.not_lt_zero _)⟩
 case round=>
  obtain⟨j,hj,rfl,rfl,s⟩:=hrel;by_cases a2:j<n
  .have A:(j:Int)<(n:Int):=by omega
   have hjl:j<a.length:=by have:=Q.out;omega
   obtain⟨b,p,rfl,I,t⟩:∃b p,d=some ⟨b,p,none⟩/\b<w.heap.size/\ICells w b p a:=by
    obtain⟨N,R,z,_,_,hz⟩:=U.out;injection z with e1 _ _;subst e1;rcases hz with h|h;rw [h]at hjl;simp at hjl;exact h
   have z0:=t.below I bel j hjl
   generalize F:a[j]?.getD 0=y at*
   have HY:Hid (a[j]?.getD 0=y):=F
   clear F t
   have a0:(0:Int)<=(j:Int):=by omega
   cases l:V.zH y with
   |true=>
    have HM:=V.wY y wr;rw[l]at HM;go_wp2_with (first|(go_at_call 66;refine HM.mono ?_;rintro e w2 ⟨rfl,rfl⟩));refine⟨⟨j+1,by omega,by go_num,by first|rfl|trivial,(show Hid _ from λq x=>?_)⟩,by simp[intOf];omega⟩;by_cases e:q=j;subst e;rw[HY.out];exact l;exact s.out q (by omega)
   |false=>
    exfalso;have:=any_ints.2 ⟨j,hjl,by rw[HY.out];exact l⟩;rw[C]at this;cases this
  obtain rfl:j=n:=by omega
  have A:¬(j:Int)<(j:Int):=by omega
  clear s;obtain⟨r,m⟩:∃r,xC (zR a)=r:=⟨_,rfl⟩;rw[m]at HX0;have HRE:Hid (xC (zR a)=r):=m;clear m;go_wp2_with fail;refine HD.mono ?_;rintro e w3 ⟨v3,rfl,hR3,J⟩;have f:=bel.trans (J.mono bel.size);have HX:=HX0 _ _ hR3;obtain⟨O,S,K,_⟩:=id hR3;subst K;clear HX0 HD hR3;by_cases B:r=0;.subst B;go_wp2_with (first|(go_at_call 113;refine HX.mono ?_;rintro e L ⟨rfl,k⟩));go_ret;exact⟨by rw[HRE.out];rfl,f.trans (k.mono f.size)⟩
  go_wp2_with (first|(go_at_call 113;refine HX.mono ?_;rintro e L ⟨rfl,k⟩));go_ret;exact⟨by rw[HRE.out,show Zy r=3 by simp[Zy,B]];rfl,f.trans (k.mono f.size)⟩
theorem zd8(k:Int)(v:Value)(d:ByteArray)(a:List Int)(w:World)(t:IRow w v a)(f:d.size<=maxLen):
  Cl 87 #[.agg #[.int .i64 k,v,.string d]] w (.int .i64 (qX k a d)):=by
 have hR':=t
 obtain⟨b,c,rfl,_⟩:=t
 unfold qX
 cases i:zw k with
 |false=>
  rw[if_pos rfl];by_cases x:k<1;exact zdt k b _ c d a w hR' rfl f x;exact zdu k b _ c d a w hR' rfl f (by simp[zw]at i;omega)
 |true=>
  rw[if_neg (by simp)]
  cases h2:zW k a.length with
  |false=>
   rw[if_pos rfl];by_cases g:k=2;subst g;simp only[zW,if_true,decide_eq_false_iff_not]at h2;by_cases s:a.length=0;exact zdy b _ c d a w hR' rfl f s;by_cases y:a.length%2=1;exact zdw b _ c d a w hR' rfl f s y;exact zdv b _ c d a w hR' rfl f s (by omega) (by omega);exact zdx k b _ c d a w hR' rfl f i g h2
  |true=>
   rw[if_neg (by simp)];by_cases j:k=3;subst j;rw[if_neg (by simp)];have r:a.length=1:=by simpa[zW,zk]using h2
   cases h:xA a with
   |true=>rw[if_pos rfl];exact zd3 b _ c d a w hR' rfl f r h
   |false=>
    rw[if_neg (by simp)];by_cases q:20<d.size;rw [if_pos q];exact zd4 b _ c d a w hR' rfl f r h q;rw [if_neg q,if_neg (by simp)];exact zd6 b _ c d a w hR' rfl f r h (by omega)
   by_cases h0:d.size=0;obtain rfl:=vS h0;rw[if_neg (by simp[h0])];by_cases g:k=2;subst g;obtain⟨M,l,m,n⟩:=ZX h2;cases h:xA a with
   |true=>rw[if_pos rfl];exact zd1 b _ c a w hR' rfl M l m n h
   |false=>
    rw[if_neg (by simp),if_neg (by rw[h0];omega)];refine(zd7 b _ c a w hR' rfl M l m n h).mono ?_;rintro e E ⟨rfl,u⟩;refine⟨?_,u⟩;by_cases p:xC (zR a)=0;rw [if_neg (by simp[p]),p];rfl;rw [if_pos ⟨rfl,p⟩,show Zy (xC (zR a))=3 by simp[Zy,p]]
   cases h:xA a with
   |true=>rw[if_pos rfl];exact zd2 k b _ c a w hR' rfl i g j h2 h
   |false=>
    rw[if_neg (by simp),if_neg (by rw[h0];omega),if_neg (by simp[g])];exact zd5 k b _ c a w hR' rfl i g j h2 h
   rw [if_pos ⟨j,h0⟩];by_cases g:k=2;subst g;obtain⟨M,l,m,n⟩:=ZX h2;exact zdz b _ c d a w hR' rfl f M l m n h0;exact zd0 k b _ c d a w hR' rfl f i g j h2 h0
theorem Qp(s:ByteArray):s++({data:=#[]}:ByteArray)=s:=by
 apply ByteArray.ext;simp
theorem db_2(a:Option Addr)(n c M:Nat)(d:ByteArray)(b:List Int)(w:World)(m:IRow w (.slice a n c) b)(x:b.length=n)(p:n=2*M)(q:1<=M)(r:M<=12)(g:Good (zR b))(i:zR b≠ []):
  Cl 88 #[.agg #[.int .i64 2,.slice a n c,.string d]] w (.string (strOfNums [2]++strOfNums (enc (zR b)))):=by
 have k:Below w.heap.size w (w.alloc (.cells #[.int .i64 2,.slice a n c,.string d] 141)):=(Below.refl _ w).alloc (Nat.le_refl _) _;have u:=V.vv [2] (w.alloc (.cells #[.int .i64 2,.slice a n c,.string d] 141)) #[.int .u8 2] rfl;simp only[List.length_cons,List.length_nil,Nat.reduceAdd,World.size_alloc]at u;have z:(strOfNums [2]).size=1:=by rw[strOfNums_size];rfl
 have f:Below w.heap.size w ((w.alloc (.cells #[.int .i64 2,.slice a n c,.string d] 141)).alloc (.cells #[.int .u8 2] 5)):=k.alloc k.size _;have Q:FBox ((w.alloc (.cells #[.int .i64 2,.slice a n c,.string d] 141)).alloc (.cells #[.int .u8 2] 5)) w.heap.size 2 (.slice a n c) d:=(FBox.new w 2 _ _).alloc _;have j:=YQ (.slice a n c) b M ((w.alloc (.cells #[.int .i64 2,.slice a n c,.string d] 141)).alloc (.cells #[.int .u8 2] 5)) (m.below f) (by omega) q r
 have HA0:=λW v (h:Row W v (zR b))=>zog v (zR b) W h g i;have o:=zfw g i;generalize strOfNums (enc (zR b))=B at*;generalize strOfNums [2]=F at*;have A:F.size+B.size<=9223372036854775807:=by omega
 clear p x m g i;go_enter Tryz.func88,Tryz.ntmps88
 go_wp2_with fail;refine j.mono ?_;rintro e D ⟨C,rfl,hR3,s⟩;have l:=f.trans (s.mono f.size);have HX:=HA0 _ _ hR3;obtain⟨P,U,y,_⟩:=id hR3;subst y;clear HA0 j hR3;go_wp2_with (first|(go_at_call 114;refine HX.mono ?_;rintro e G ⟨rfl,t⟩));go_ret;exact⟨rfl,l.trans (t.mono l.size)⟩
theorem db_3(a:Option Addr)(n c:Nat)(d:ByteArray)(M:List Int)(w:World)(B:IRow w (.slice a n c) M)(P:M.length=n)(Q:n<=2)(F:qp M)(hd:d.size<=20):
  Cl 88 #[.agg #[.int .i64 3,.slice a n c,.string d]] w (.string (strOfNums [3]++strOfNums (M.flatMap V.nums)++strOfNums (V.nums (d.size:Int))++d)):=by
 have v:Below w.heap.size w (w.alloc (.cells #[.int .i64 3,.slice a n c,.string d] 141)):=(Below.refl _ w).alloc (Nat.le_refl _) _;have K:=V.vv [3] (w.alloc (.cells #[.int .i64 3,.slice a n c,.string d] 141)) #[.int .u8 3] rfl;simp only[List.length_cons,List.length_nil,Nat.reduceAdd,World.size_alloc]at K;have s1:(strOfNums [3]).size=1:=by rw[strOfNums_size];rfl
 have bel2:Below w.heap.size w ((w.alloc (.cells #[.int .i64 3,.slice a n c,.string d] 141)).alloc (.cells #[.int .u8 3] 5)):=v.alloc v.size _;have bx2:FBox ((w.alloc (.cells #[.int .i64 3,.slice a n c,.string d] 141)).alloc (.cells #[.int .u8 3] 5)) w.heap.size 3 (.slice a n c) d:=(FBox.new w 3 _ _).alloc _;have A:=zC B;have HN:=zC P;have u:=zC Q;have z:=zC F;generalize strOfNums [3]=g at*;clear P B Q F
 go_enter Tryz.func88,Tryz.ntmps88
 go_wp2_with fail;generalize(w.alloc (.cells #[.int .i64 3,.slice a n c,.string d] 141)).alloc (.cells #[.int .u8 3] 5)=T at*;go_loopw [4,6] (λN i wr=>∃j:Nat,j<=n/\i=.int .i64 (j:Int)/\N=.string (g++strOfNums ((M.take j).flatMap V.nums))/\FBox wr w.heap.size 3 (.slice a n c) d/\Below w.heap.size w wr) (λ_ i _=>n-(intOf i).toNat)
 case atStart=>exact⟨0,Nat.zero_le _,rfl,by rw[List.take_zero,List.flatMap_nil,gQ,Qp],bx2,bel2⟩
 case round=>
  obtain⟨j,hj,rfl,rfl,bx,l⟩:=hrel;have Y:=bx.c0;have Z:=bx.c1;have f2:=bx.c2;have a1:j<=2:=by have:=u.out;omega
  have hsz:(g++strOfNums ((M.take j).flatMap V.nums)).size<=9:=by
   have H:=yc (M.take j);have h2:=List.length_take_le j M;rw[ByteArray.size_append,strOfNums_size];have h3:=HN.out;have h4:=u.out;rw[List.length_take]at H;omega
  by_cases a2:j<n
  .have G:(j:Int)<(n:Int):=by omega
   have a0:(0:Int)<=(j:Int):=by omega
   have hjl:j<M.length:=by have:=HN.out;omega
   obtain⟨b,s,rfl,I,x⟩:∃b s,a=some ⟨b,s,none⟩/\b<w.heap.size/\ICells w b s M:=by
    obtain⟨W,X,D,_,_,hz⟩:=A.out;injection D with e1 _ _;subst e1;rcases hz with h|h;rw [h]at hjl;simp at hjl;exact h
   have z0:=x.below I l j hjl;have HT:Hid (g++strOfNums ((M.take j).flatMap V.nums)++strOfNums (V.nums (M[j]?.getD 0))=g++strOfNums ((M.take (j+1)).flatMap V.nums)):=by
    show _=_;rw[V.JK M j hjl,List.flatMap_append,vJ,ByteArray.append_assoc];simp
   have hmy:V.zH (M[j]?.getD 0)=true:=by rw[List.getElem?_eq_getElem hjl];exact(xG _).2 (z.out _ (List.getElem_mem hjl))
   generalize M[j]?.getD 0=y at*;have HB:=V.ZC y wr hmy;have o:=ym y;generalize strOfNums (V.nums y)=O at*;generalize g++strOfNums ((M.take j).flatMap V.nums)=f at*;have R:f.size+O.size<=9223372036854775807:=by omega
   clear x hjl hmy;go_wp2_with (first|(go_at_call 28;refine HB.mono ?_;rintro e S ⟨rfl,m⟩));exact⟨⟨j+1,by omega,by go_num,by rw[HT.out],bx.below m bx.lt,l.trans (m.mono l.size)⟩,by simp[intOf];omega⟩
  obtain rfl:j=n:=by omega
  have G:¬(j:Int)<(j:Int):=by omega
  have t:Hid (M.take j=M):=by show _=_;rw[<-HN.out,List.take_length]
  rw[t.out]at hsz |-;clear t;have L:V.zH (d.size:Int)=true:=(xG _).2 (by omega);have HB:=V.ZC (d.size:Int) wr L;have o:=ym (d.size:Int);obtain⟨k,q⟩:∃k,strOfNums (V.nums (d.size:Int))=k:=⟨_,rfl⟩;rw[q]at HB o;obtain⟨f,r⟩:∃f,g++strOfNums (M.flatMap V.nums)=f:=⟨_,rfl⟩;rw[r]at hsz |-;have C:Hid (g++strOfNums (M.flatMap V.nums)++strOfNums (V.nums (d.size:Int))++d=f++k++d):=by show _=_;rw[r,q]
  clear q r;have R:f.size+k.size<=9223372036854775807:=by omega
  have a3:(f++k).size<=13:=by rw[ByteArray.size_append];omega
  have t2:(f++k).size+d.size<=9223372036854775807:=by omega
  have U:∀p,Below wr.heap.size wr p->p.cell? ⟨w.heap.size,2,none⟩=some (.string d):=λp J=>(bx.below J bx.lt).c2;go_wp2_with fail;refine HB.mono ?_;rintro e S ⟨rfl,m⟩;have y2:=U _ m;clear U;go_wp2_with fail;go_ret;exact⟨by rw[C.out];rfl,l.trans (m.mono l.size)⟩
theorem db_o(k:Int)(a:Option Addr)(n c:Nat)(d:ByteArray)(M:List Int)(w:World)(u:IRow w (.slice a n c) M)(B:M.length=n)(F:n<=2)(x:qp M)(l:k≠2)(m:k≠3)(Y:1<=k/\k<=8):
  Cl 88 #[.agg #[.int .i64 k,.slice a n c,.string d]] w (.string (strOfNums [k]++strOfNums (M.flatMap V.nums))):=by
 have s:Below w.heap.size w (w.alloc (.cells #[.int .i64 k,.slice a n c,.string d] 141)):=(Below.refl _ w).alloc (Nat.le_refl _) _;have C:=V.vv [k] (w.alloc (.cells #[.int .i64 k,.slice a n c,.string d] 141)) #[.int .u8 k] rfl;simp only[List.length_cons,List.length_nil,Nat.reduceAdd,World.size_alloc]at C;have s1:(strOfNums [k]).size=1:=by rw[strOfNums_size];rfl
 have bel2:Below w.heap.size w ((w.alloc (.cells #[.int .i64 k,.slice a n c,.string d] 141)).alloc (.cells #[.int .u8 k] 5)):=s.alloc s.size _;have bx2:FBox ((w.alloc (.cells #[.int .i64 k,.slice a n c,.string d] 141)).alloc (.cells #[.int .u8 k] 5)) w.heap.size k (.slice a n c) d:=(FBox.new w k _ _).alloc _;have Q:=zC u;have HN:=zC B;have r:=zC F;have P:=zC x;have Z:¬k=2:=l;have a1:(k==2)=false:=by simp[l]
 have a2:(k==3)=false:=by simp[m]
 have a0:¬k=3:=m;generalize strOfNums [k]=f at*;clear B u F x;go_enter Tryz.func88,Tryz.ntmps88
 go_wp2_with fail;generalize(w.alloc (.cells #[.int .i64 k,.slice a n c,.string d] 141)).alloc (.cells #[.int .u8 k] 5)=J at*;go_loopw [4,6] (λH i wr=>∃j:Nat,j<=n/\i=.int .i64 (j:Int)/\H=.string (f++strOfNums ((M.take j).flatMap V.nums))/\FBox wr w.heap.size k (.slice a n c) d/\Below w.heap.size w wr) (λ_ i _=>n-(intOf i).toNat)
 case atStart=>exact⟨0,Nat.zero_le _,rfl,by rw[List.take_zero,List.flatMap_nil,gQ,Qp],bx2,bel2⟩
 case round=>
  obtain⟨j,W,rfl,rfl,bx,g⟩:=hrel;have N:=bx.c0;have O:=bx.c1;have R:=bx.c2;have X:j<=2:=by have:=r.out;omega
  have D:(f++strOfNums ((M.take j).flatMap V.nums)).size<=9:=by
   have z:=yc (M.take j);have l:=List.length_take_le j M;rw[ByteArray.size_append,strOfNums_size];have m:=HN.out;have T:=r.out;rw[List.length_take]at z;omega
  by_cases a3:j<n
  .have o:(j:Int)<(n:Int):=by omega
   have S:(0:Int)<=(j:Int):=by omega
   have hjl:j<M.length:=by have:=HN.out;omega
   obtain⟨b,p,rfl,A,t⟩:∃b p,a=some ⟨b,p,none⟩/\b<w.heap.size/\ICells w b p M:=by
    obtain⟨K,L,U,_,_,hz⟩:=Q.out;injection U with e1 _ _;subst e1;rcases hz with h|h;rw [h]at hjl;simp at hjl;exact h
   have z0:=t.below A g j hjl;have HT:Hid (f++strOfNums ((M.take j).flatMap V.nums)++strOfNums (V.nums (M[j]?.getD 0))=f++strOfNums ((M.take (j+1)).flatMap V.nums)):=by
    show _=_;rw[V.JK M j hjl,List.flatMap_append,vJ,ByteArray.append_assoc];simp
   have hmy:V.zH (M[j]?.getD 0)=true:=by rw[List.getElem?_eq_getElem hjl];exact(xG _).2 (P.out _ (List.getElem_mem hjl))
   generalize M[j]?.getD 0=y at*;have HB:=V.ZC y wr hmy;have s4:=ym y;generalize strOfNums (V.nums y)=I at*;generalize f++strOfNums ((M.take j).flatMap V.nums)=G at*;have t1:G.size+I.size<=9223372036854775807:=by omega
   clear t hjl hmy;go_wp2_with (first|(go_at_call 28;refine HB.mono ?_;rintro e w4 ⟨rfl,v⟩));exact⟨⟨j+1,by omega,by go_num,by rw[HT.out],bx.below v bx.lt,g.trans (v.mono g.size)⟩,by simp[intOf];omega⟩
  obtain rfl:j=n:=by omega
  have o:¬(j:Int)<(j:Int):=by omega
  have q:Hid (M.take j=M):=by show _=_;rw[<-HN.out,List.take_length]
  rw[q.out]at D |-;clear q;go_wp2_with fail;go_ret;exact⟨rfl,g⟩
theorem zdj(k:Int)(v:Value)(d:ByteArray)(a:List Int)(w:World)(l:IRow w v a)(h:qX k a d=0):
  Cl 88 #[.agg #[.int .i64 k,v,.string d]] w (.string (jB k a d)):=by
 obtain⟨n,h2,h3,i,p,h6⟩:=kV h;have s:=(wF k).1 n;have hR':=l;obtain⟨g,c,rfl,u,t,x⟩:=l;by_cases b:k=2;subst b;obtain⟨M,j,q,r⟩:=ZX h2;obtain rfl:=vS (h3 (by decide));rw[show jB 2 a {data:=#[]}=strOfNums [2]++strOfNums (enc (zR a)) by unfold jB;rw[show mid 2 a {data:=#[]}=enc (zR a) by simp[mid]];exact Qp _];exact db_2 g _ c M _ a w hR' rfl j q r (h6 rfl) (λe=>by have:=ZQ M a j;rw[e]at this;simp at this;omega)
 have m:a.length<=2:=by
  have:a.length=zk k:=by simpa[zW,b]using h2
  rw[this];unfold zk;split;.omega
  split<;>omega
 by_cases f:k=3;subst f;rw[show jB 3 a d=strOfNums [3]++strOfNums (a.flatMap V.nums)++strOfNums (V.nums (d.size:Int))++d by unfold jB;rw[show mid 3 a d=a.flatMap V.nums++V.nums (d.size:Int) by simp[mid],vJ,<-ByteArray.append_assoc]];exact db_3 g _ c d a w hR' rfl m i p;obtain rfl:=vS (h3 f);rw[show jB k a {data:=#[]}=strOfNums [k]++strOfNums (a.flatMap V.nums) by unfold jB;rw[show mid k a {data:=#[]}=a.flatMap V.nums by simp[mid,b,f]];exact Qp _];exact db_o k g _ c _ a w hR' rfl m i b f s
variable {B:Nat}{v:Value}
theorem wK{w:World}{e f n:Nat}{K:List Value}(h:w.ownsRow B e f v n K):∃a c,v=.slice a n c:=by
 rcases h.2 with⟨rfl,d⟩|⟨g,b,i,rfl,_⟩;exact ⟨none,0,by rw[d]⟩;exact ⟨_,b,rfl⟩
theorem FBox.kept{W a:World}{row:Option Nat}{k:Int}{d:ByteArray}(h:FBox W B k v d)(b:W.grownBy a row)(c:some B≠row):FBox a B k v d:=(b.block B h.lt c).trans h
theorem FBox.alloc'{W:World}{k:Int}{d:ByteArray}(h:FBox W B k v d)(o:Obj):FBox (W.drew.alloc o) B k v d:=FBox.alloc (W:=W.drew) h o
theorem dr_a(w:World):Cl 90 #[.string {data:=#[]}] w (.tuple #[jJ,.int .i64 0,.bool false]):=by
 go_enter Tryz.func90,Tryz.ntmps90
 go_wp2_with fail;refine bodyPost_ret (v:=.tuple #[jJ,.int .i64 0,.bool false]) ?_ rfl ⟨rfl,?_⟩;.rw [jd rfl];go_simp
 exact (Below.refl _ w).alloc (Nat.le_refl _) _
theorem zeu(s:ByteArray)(k:Int)(l:List Int)(w:World)(a:V.ints s=k::l)(b:k<1):Cl 90 #[.string s] w (.tuple #[jJ,.int .i64 0,.bool false]):=by
 have f:(s.toList== [])=false:=x8 (by rw[<-zg,a];simp);have c:=jP s k l a;have d:=zu s k (by rw[a];simp);clear a;go_enter Tryz.func90,Tryz.ntmps90
 go_wp2_with fail;refine bodyPost_ret (v:=.tuple #[jJ,.int .i64 0,.bool false]) ?_ rfl ⟨rfl,?_⟩;.rw [jd rfl];go_simp
 exact (Below.refl _ w).alloc (Nat.le_refl _) _
theorem zev(s:ByteArray)(k:Int)(l:List Int)(w:World)(a:V.ints s=k::l)(b:8<k):Cl 90 #[.string s] w (.tuple #[jJ,.int .i64 0,.bool false]):=by
 have g:(s.toList== [])=false:=x8 (by rw[<-zg,a];simp);have c:=jP s k l a;have d:=zu s k (by rw[a];simp);have f:¬k<1:=by omega
 clear a;go_enter Tryz.func90,Tryz.ntmps90
 go_wp2_with fail;refine bodyPost_ret (v:=.tuple #[jJ,.int .i64 0,.bool false]) ?_ rfl ⟨rfl,?_⟩;.rw [jd rfl];go_simp
 exact (Below.refl _ w).alloc (Nat.le_refl _) _
theorem zes(s:ByteArray)(l:List Int)(w:World)(d:s.size<=maxLen)(b:V.ints s=2::l)(g:zt l=none):Cl 90 #[.string s] w (.tuple #[jJ,.int .i64 0,.bool false]):=by
 have u:(s.toList== [])=false:=x8 (by rw[<-zg,b];simp);have r:=jP s 2 l b;have t:=zu s 2 (by rw[b];simp);have m:s.size=l.length+1:=by rw[<-zg,b];rfl
 unfold maxLen at d;have hB2:Below w.heap.size w ((w.alloc (.cells #[.int .i64 0,.slice none 0 0,.string {data:=#[]}] 141)).alloc (.cells #[.int .i64 2,.slice none 0 0,.string {data:=#[]}] 141)):=((Below.refl _ w).alloc (Nat.le_refl _) _).alloc (by simp) _;have bR:FBox ((w.alloc (.cells #[.int .i64 0,.slice none 0 0,.string {data:=#[]}] 141)).alloc (.cells #[.int .i64 2,.slice none 0 0,.string {data:=#[]}] 141)) w.heap.size 0 (.slice none 0 0) {data:=#[]}:=(FBox.new w 0 _ _).alloc _
 have bF:FBox ((w.alloc (.cells #[.int .i64 0,.slice none 0 0,.string {data:=#[]}] 141)).alloc (.cells #[.int .i64 2,.slice none 0 0,.string {data:=#[]}] 141)) (w.heap.size+1) 2 (.slice none 0 0) {data:=#[]}:=by
  have:=FBox.new (w.alloc (.cells #[.int .i64 0,.slice none 0 0,.string {data:=#[]}] 141)) 2 (.slice none 0 0) {data:=#[]};rwa[World.size_alloc]at this
 have hs2:((w.alloc (.cells #[.int .i64 0,.slice none 0 0,.string {data:=#[]}] 141)).alloc (.cells #[.int .i64 2,.slice none 0 0,.string {data:=#[]}] 141)).heap.size=w.heap.size+2:=by simp
 have x:∀W,(Instr.slice 9 (.string s) (some (.int .i64 1)) none none).run Tryz.prog W=.ok (.string (s.extract 1 s.size)) W:=je s 1 (by omega) d;have hid:=qY s 1 (by omega);rw[b]at hid;simp only[List.drop_succ_cons,List.drop_zero]at hid;have hr1:(s.extract 1 s.size).size<=maxLen:=by unfold maxLen;rw[ByteArray.size_extract];omega
 generalize s.extract 1 s.size=h at*;have f:∀W,Cl 115 #[.string h] W (.tuple #[.slice none 0 0,.int .i64 0,.bool false]):=by
  intro W;refine(eX h W hr1).mono ?_;rintro e E ⟨⟨_,k⟩|⟨J,v,A,h3,_⟩,j⟩;exact ⟨k,j⟩;rw [hid,g]at h3;cases h3
 clear b d m hid hr1 g;go_enter Tryz.func90,Tryz.ntmps90
 go_wp2_with fail;generalize((w.alloc (.cells #[.int .i64 0,.slice none 0 0,.string {data:=#[]}] 141)).alloc (.cells #[.int .i64 2,.slice none 0 0,.string {data:=#[]}] 141))=i at*;refine(f i).mono ?_;rintro e y ⟨rfl,c⟩;have a:=bR.below c bR.lt;have hB3:=hB2.trans (c.mono hB2.size);clear f c bR bF hB2 hs2;have n:=a.c0;have p:=a.c1;have q:=a.c2;have B:=a.fz 0;have F:=a.fz 1;have P:=a.fz 2;go_wp2_with fail
 refine bodyPost_ret (v:=.tuple #[jJ,.int .i64 0,.bool false]) ?_ rfl ⟨rfl,?_⟩;.rw [jd rfl];go_simp
 first|exact((hB3.setCell (Nat.le_refl _) _).setCell (Nat.le_refl _) _).setCell (Nat.le_refl _) _|exact hB3
theorem zet(s:ByteArray)(l:List Int)(w:World)(L:s.size<=maxLen)(x:V.ints s=2::l)(J:List R)(A N:Nat)(P:zt l=some (J,A))(hz:J.length<=12)(hA:A<=l.length)(hN:N=1+A):Calls Tryz.prog 90 #[.string s] w λe E=>∃v,e=.returned (.tuple #[.agg #[.int .i64 2,v,.string {data:=#[]}],.int .i64 (N:Int),.bool true])/\OwnI E w.heap.size v (zK J)/\Below w.heap.size w E:=by
 have b4:(s.toList== [])=false:=x8 (by rw[<-zg,x];simp);have b1:=jP s 2 l x;have b2:=zu s 2 (by rw[x];simp);have M:s.size=l.length+1:=by rw[<-zg,x];rfl
 unfold maxLen at L;have hB2:Below w.heap.size w ((w.alloc (.cells #[.int .i64 0,.slice none 0 0,.string {data:=#[]}] 141)).alloc (.cells #[.int .i64 2,.slice none 0 0,.string {data:=#[]}] 141)):=((Below.refl _ w).alloc (Nat.le_refl _) _).alloc (by simp) _;have bR:FBox ((w.alloc (.cells #[.int .i64 0,.slice none 0 0,.string {data:=#[]}] 141)).alloc (.cells #[.int .i64 2,.slice none 0 0,.string {data:=#[]}] 141)) w.heap.size 0 (.slice none 0 0) {data:=#[]}:=(FBox.new w 0 _ _).alloc _
 have bF:FBox ((w.alloc (.cells #[.int .i64 0,.slice none 0 0,.string {data:=#[]}] 141)).alloc (.cells #[.int .i64 2,.slice none 0 0,.string {data:=#[]}] 141)) (w.heap.size+1) 2 (.slice none 0 0) {data:=#[]}:=by
  have:=FBox.new (w.alloc (.cells #[.int .i64 0,.slice none 0 0,.string {data:=#[]}] 141)) 2 (.slice none 0 0) {data:=#[]};rwa[World.size_alloc]at this
 have hs2:((w.alloc (.cells #[.int .i64 0,.slice none 0 0,.string {data:=#[]}] 141)).alloc (.cells #[.int .i64 2,.slice none 0 0,.string {data:=#[]}] 141)).heap.size=w.heap.size+2:=by simp
 have b6:∀W,(Instr.slice 9 (.string s) (some (.int .i64 1)) none none).run Tryz.prog W=.ok (.string (s.extract 1 s.size)) W:=je s 1 (by omega) L;have hid:=qY s 1 (by omega);rw[x]at hid;simp only[List.drop_succ_cons,List.drop_zero]at hid;have hr1:(s.extract 1 s.size).size<=maxLen:=by unfold maxLen;rw[ByteArray.size_extract];omega
 generalize s.extract 1 s.size=r1 at*;have S:∀W,Calls Tryz.prog 115 #[.string r1] W λe E=>∃v,e=.returned (.tuple #[v,.int .i64 (A:Int),.bool true])/\E.ownsRow W.heap.size 143 2 v J.length (flat J)/\Below W.heap.size W E:=by
  intro W;refine(eX r1 W hr1).mono ?_;rintro e E ⟨⟨h3,_⟩|⟨ys,v,B,h3,he,ho⟩,H⟩;rw [hid,P]at h3;cases h3;rw [hid,P]at h3;cases h3;exact⟨v,he,ho,H⟩
 have b0:(1:Int)+(A:Int)=(N:Int):=by omega
 have ay:A<=9223372036854775806:=by omega
 have HZ:=zC hz;obtain⟨Q,a2,a9,aa,ab⟩:=info_parts ja;have U:Hid (Tryz.prog.info? 3=some Q/\Q.zero=some (.int .i64 0)/\Q.size=1/\Q.bytes=8):=⟨a2,a9,aa,ab⟩;clear x L M hid hr1 P hA hN a2 a9 aa ab;go_enter Tryz.func90,Tryz.ntmps90
 go_wp2_with fail;generalize((w.alloc (.cells #[.int .i64 0,.slice none 0 0,.string {data:=#[]}] 141)).alloc (.cells #[.int .i64 2,.slice none 0 0,.string {data:=#[]}] 141))=W2 at*;refine(S W2).mono ?_;rintro e a ⟨v3,rfl,ho3,p⟩;rw[hs2]at ho3;have b5:w.heap.size+2<=a.heap.size:=by have:=p.size;omega
 have ae:=bR.below p bR.lt;have ad:=bF.below p bF.lt;have ah:=hB2.trans (p.mono hB2.size);have am:=vY ho3 (by have:=HZ.out;omega);obtain⟨T,c3,an,az,_,a1⟩:=am;subst an;have ac:Hid (J=[]\/∃b o,T=some ⟨b,o,none⟩/\w.heap.size+2<=b/\b<a.heap.size/\Cells a b o J):=by
  show _\/_;rcases a1 with h|⟨b,o,rfl,H,hc⟩;exact .inl h;refine .inr ⟨b,o,rfl,?_,H,hc⟩;rcases ho3.2 with⟨e,_⟩|⟨g',au,aw,e,hg,_⟩;cases e;injection e with e1;injection e1 with e2;injection e2 with e3;subst e3;exact hg
 clear S p bR bF hB2 hs2 a1 ho3;generalize a5:J.length=F at*;have HLen:Hid (J.length=F):=a5;clear a5;go_wp2_with fail;go_loopw [9] (λi wr=>∃(j:Nat) (v:Value),j<=F/\i=.int .i64 (j:Int)/\FBox wr (w.heap.size+1) 2 v {data:=#[]}/\FBox wr w.heap.size 0 (.slice none 0 0) {data:=#[]}/\OwnI wr a.heap.size v (zK (J.take j))/\(∀b,w.heap.size+2<=b->b<a.heap.size->wr.heap[b]? =a.heap[b]?)/\a.heap.size<=wr.heap.size/\Below w.heap.size w wr) (λi _=>F-(intOf i).toNat)
 case atStart=>exact⟨0,_,Nat.zero_le _,rfl,ad,ae,World.ownsRow_nil _ _ _ _,λ_ _ _=>rfl,Nat.le_refl _,ah⟩
 case round=>
  obtain⟨j,v,hj,rfl,bF,bR,hown,K,M,G⟩:=hrel;obtain⟨k,n,rfl⟩:=wK hown;have C:=bF.c1;by_cases b3:j<F
  .have g1:(j:Int)<(F:Int):=by omega
   have ax:(0:Int)<=(j:Int):=by omega
   have hjl:j<J.length:=by have:=HLen.out;omega
   obtain⟨b,o,rfl,ai,p,hC⟩:∃b o,T=some ⟨b,o,none⟩/\w.heap.size+2<=b/\b<a.heap.size/\Cells a b o J:=by
    rcases ac.out with h|h;rw [h]at hjl;simp at hjl;exact h
   obtain⟨c0,c1⟩:=hC j hjl;have I:=K b ai p;have d0:wr.drew.cell? ⟨b,o+j*2,none⟩=some (.int .i64 (at' J j).1):=by rw[<-c0];show wr.cell? _=_;unfold World.cell?;rw[I]
   have d1:wr.drew.cell? ⟨b,o+j*2+1,none⟩=some (.int .i64 (at' J j).2):=by rw[<-c1];show wr.cell? _=_;unfold World.cell?;rw[I]
   have HNx:Hid (zK (J.take (j+1))=zK (J.take j)++[(at' J j).2,(at' J j).1]):=by
    show _=_;rw[take_at hjl,Qk];rfl
   have a7:(zK (J.take j)).length<=24:=by rw[yC,List.length_take];have:=HZ.out;omega
   generalize at' J j=y at*;obtain⟨d,c⟩:=y;simp only at d0 d1 HNx;have a0:b<wr.heap.size:=Nat.lt_of_lt_of_le p M;have e0:=(World.cell?_alloc_lt wr.drew (.cells #[.int .i64 c,.int .i64 d] 3) ⟨b,o+j*2,none⟩ a0).trans d0;have e1:=(World.cell?_alloc_lt wr.drew (.cells #[.int .i64 c,.int .i64 d] 3) ⟨b,o+j*2+1,none⟩ a0).trans d1;have Z:wr.drew.cell? ⟨w.heap.size+1,1,none⟩=some (.slice k (zK (J.take j)).length n):=C
   have D:=(World.cell?_alloc_lt wr.drew (.cells #[.int .i64 c,.int .i64 d] 3) ⟨w.heap.size+1,1,none⟩ bF.lt).trans Z;have af:(wr.alloc (.cells #[.int .i64 c,.int .i64 d] 3)).cell? ⟨w.heap.size+1,1,none⟩=some (.slice k (zK (J.take j)).length n):=D;have ag:(wr.alloc (.cells #[.int .i64 c,.int .i64 d] 3)).drew.cell? ⟨w.heap.size+1,1,none⟩=some (.slice k (zK (J.take j)).length n):=D;have HO:Hid (OwnI wr.drew a.heap.size (.slice k (zK (J.take j)).length n) (zK (J.take j))):=hown
   have Y:=QC wr.drew c d;have CS:Hid (∀j u,(qV [c,d])[j]? =some u->(wr.drew.alloc (.cells #[.int .i64 c,.int .i64 d] 3)).cell? ((⟨wr.drew.heap.size,0,none⟩:Addr).add j)=some u):=Y;have ak:some (w.heap.size+1)≠(Value.slice k (zK (J.take j)).length n).ownBlock:=λe=>by have:=(hown.lt _ e.symm).1;omega
   have al:some w.heap.size≠(Value.slice k (zK (J.take j)).length n).ownBlock:=λe=>by have:=(hown.lt _ e.symm).1;omega
   have a8:=zC a7;clear Y c0 c1 hC hjl I a7 C;go_wp2_with fail;go_region_law (refine vR rfl (.tmp 56) (.tmp 67) 54 rfl a.heap.size 3 Q _ 1 8 Tryz.underlying54 U.out.1 U.out.2.1 U.out.2.2.1 U.out.2.2.2 rfl (by decide) (.slice k (zK (J.take j)).length n) (zK (J.take j)).length (qV (zK (J.take j))) (by simp[Act.eval,Act.put]) (HO.out.alloc _) ⟨wr.drew.heap.size,0,none⟩ 2 2 (qV [c,d]) (by simp[Act.eval,Act.put]) rfl CS.out (by intro u hu;simp[qV]at hu;rcases hu with rfl|rfl<;>rfl) (by have:=a8.out;unfold maxLen;omega) (by have:=a8.out;omega) (by simp;omega) ?_;intro v' r hown' t;obtain⟨g,m,ao⟩:=wK hown';subst ao;have z:=FBox.kept (bF.alloc' (.cells #[.int .i64 c,.int .i64 d] 3)) t ak;have k1:=z.c1;have k2:=z.fz 1)
   all_goals
    have aj:b<(wr.drew.alloc (.cells #[.int .i64 c,.int .i64 d] 3)).heap.size:=by simp;omega
    have a6:OwnI r a.heap.size (.slice g ((zK (J.take j)).length+2) m) (zK (J.take j)++[c,d]):=by
     show r.ownsRow a.heap.size 3 1 _ (zK (J.take j)++[c,d]).length (qV (zK (J.take j)++[c,d]))
     rw[KU,List.length_append];exact hown'
    have bF5:=z.set1 (.slice g ((zK (J.take j)).length+2) m)
    have X:=FBox.kept (bR.alloc' (.cells #[.int .i64 c,.int .i64 d] 3)) t al
    have bR5:FBox (r.setCell ⟨w.heap.size+1,1,none⟩ (.slice g ((zK (J.take j)).length+2) m)) w.heap.size 0 (.slice none 0 0) {data:=#[]}:=X.other (by omega) _
    have ho5:=xW (B:=w.heap.size+1) (j:=1) (u:=.slice g ((zK (J.take j)).length+2) m) a6 (by omega)
    have hB5:Below w.heap.size w (r.setCell ⟨w.heap.size+1,1,none⟩ (.slice g ((zK (J.take j)).length+2) m)):=(((G.drew.alloc (by simp;omega) _).grown t (by simp;omega) (λq e=>by have:=(hown.lt q e).1;omega))).setCell (by simp) _
    have hk5:∀f,w.heap.size+2<=f->f<a.heap.size->(r.setCell ⟨w.heap.size+1,1,none⟩ (.slice g ((zK (J.take j)).length+2) m)).heap[f]? =a.heap[f]? :=λf h1 P=>by
     rw[Below.heap_setCell r ⟨w.heap.size+1,1,none⟩ _ f (show f≠w.heap.size+1 by omega),t.block f (by simp;omega) (λe=>by have:=(hown.lt _ e.symm).1;omega),<-K f h1 P]
     exact(Below.block (((Below.refl wr.heap.size wr).drew.alloc (Nat.le_refl _) _)) f (by omega))
    have hs5:a.heap.size<=(r.setCell ⟨w.heap.size+1,1,none⟩ (.slice g ((zK (J.take j)).length+2) m)).heap.size:=by
     have:=t.size
     simp at this |-
     omega
    clear t hown' z k1 k2 X a6 aj e0 e1 D af ag Z d0 d1 bF bR hown G K
    generalize r.setCell ⟨w.heap.size+1,1,none⟩ (.slice g ((zK (J.take j)).length+2) m)=W5 at*
    go_wp2_with fail
    exact⟨⟨j+1,_,by omega,by go_num,bF5,bR5,by rw[HNx.out];exact ho5,hk5,hs5,hB5⟩,by simp[intOf];omega⟩
  obtain rfl:j=F:=by omega
  have g1:¬(j:Int)<(j:Int):=by omega
  have O:Hid (J.take j=J):=by show _=_;rw[<-HLen.out,List.take_length]
  rw[O.out]at hown bF C;clear O;have f0:=bF.c0;have f2:=bF.c2;have ap:=bR.c0;have aq:=bR.c1;have ar:=bR.c2;have z0:=bR.fz 0;have z1:=bR.fz 1;have z2:=bR.fz 2;go_wp2_with fail;refine bodyPost_ret (v:=.tuple #[.agg #[.int .i64 2,.slice k (zK J).length n,.string {data:=#[]}],.int .i64 (N:Int),.bool true]) ?_ rfl ⟨_,rfl,?_,?_⟩;.rw [jd rfl];go_simp
  exact yt (xW (xW (xW hown (by omega)) (by omega)) (by omega)) (by omega);exact ((G.setCell (Nat.le_refl _) _).setCell (Nat.le_refl _) _).setCell (Nat.le_refl _) _
theorem YP(s:ByteArray)(k:Int)(l:List Int)(w:World)(b1:s.size<=140737488355328)(g:V.ints s=k::l)(R:zw k=true)(Q:k≠2)(I:k≠3):Calls Tryz.prog 90 #[.string s] w λe E=>((tk (zk k) l=none/\e=.returned (.tuple #[jJ,.int .i64 0,.bool false]))\/(∃M A,tk (zk k) l=some (M,A)/\∃v,e=.returned (.tuple #[.agg #[.int .i64 k,v,.string {data:=#[]}],.int .i64 (1+(A:Int)),.bool true])/\OwnI E w.heap.size v M))/\Below w.heap.size w E:=by
 have b3:(s.toList== [])=false:=x8 (by rw[<-zg,g];simp);have ap:=jP s k l g;have ar:=zu s k (by rw[g];simp);have X:s.size=l.length+1:=by rw[<-zg,g];rfl
 have T:s.size<=9223372036854775807:=by omega
 have hB2:Below w.heap.size w ((w.alloc (.cells #[.int .i64 0,.slice none 0 0,.string {data:=#[]}] 141)).alloc (.cells #[.int .i64 k,.slice none 0 0,.string {data:=#[]}] 141)):=((Below.refl _ w).alloc (Nat.le_refl _) _).alloc (by simp) _;have bR:FBox ((w.alloc (.cells #[.int .i64 0,.slice none 0 0,.string {data:=#[]}] 141)).alloc (.cells #[.int .i64 k,.slice none 0 0,.string {data:=#[]}] 141)) w.heap.size 0 (.slice none 0 0) {data:=#[]}:=(FBox.new w 0 _ _).alloc _
 have bF:FBox ((w.alloc (.cells #[.int .i64 0,.slice none 0 0,.string {data:=#[]}] 141)).alloc (.cells #[.int .i64 k,.slice none 0 0,.string {data:=#[]}] 141)) (w.heap.size+1) k (.slice none 0 0) {data:=#[]}:=by
  have:=FBox.new (w.alloc (.cells #[.int .i64 0,.slice none 0 0,.string {data:=#[]}] 141)) k (.slice none 0 0) {data:=#[]};rwa[World.size_alloc]at this
 have hs2:((w.alloc (.cells #[.int .i64 0,.slice none 0 0,.string {data:=#[]}] 141)).alloc (.cells #[.int .i64 k,.slice none 0 0,.string {data:=#[]}] 141)).heap.size=w.heap.size+2:=by simp
 have ab:s.size<=9223372036854775807:=T;have Z:Hid (∀A,1+A<=s.size->V.ints (s.extract (1+A) s.size)=l.drop A):=by
  show∀A,_;intro A U;rw[qY s (1+A) U,g,show 1+A=A+1 by omega,List.drop_succ_cons]
 have N:=zC X;have aa:Hid (Bytes l):=λz hz=>zu s z (by rw[g];simp[hz]);have hk:=(wF k).1 R;have au:¬k<1:=by omega
 have ay:¬8<k:=by omega
 have aw:¬k=2:=Q;have ax:¬k=3:=I;have az:(k==2)=false:=by simp[Q]
 have b0:(k==3)=false:=by simp[I]
 have HC:=kT k;rw[show jl k=((zk k:Nat):Int) by unfold jl zk;simp only[Q];repeat' split<;>simp_all]at HC;have HMany:Hid (zk k<=2):=by show _<=_;unfold zk;split<;>(try split)<;>omega
 generalize zk k=b at*;clear R Q I hk;clear g T X;go_enter Tryz.func90,Tryz.ntmps90
 go_wp2_with (first|(go_at_call 112;refine(HC _).mono ?_;rintro e w1 ⟨rfl,rfl⟩));generalize((w.alloc (.cells #[.int .i64 0,.slice none 0 0,.string {data:=#[]}] 141)).alloc (.cells #[.int .i64 k,.slice none 0 0,.string {data:=#[]}] 141))=W2 at*;go_loopw [10,12] (λa i y=>∃(A j:Nat) (M:List Int) (v:Value),j<=b/\a=.int .i64 (1+(A:Int))/\i=.int .i64 (j:Int)/\FBox y (w.heap.size+1) k v {data:=#[]}/\FBox y w.heap.size 0 (.slice none 0 0) {data:=#[]}/\OwnI y (w.heap.size+2) v M/\M.length=j/\1+A<=s.size/\Hid (tk b l=jg (b-j) M A l)/\w.heap.size+2<=y.heap.size/\Below w.heap.size w y) (λ_ i _=>b-(intOf i).toNat)
 case atStart=>exact⟨0,0,[],_,Nat.zero_le _,rfl,rfl,bF,bR,World.ownsRow_nil _ _ _ _,rfl,by have:=N.out;omega,(show tk b l=jg (b-0) [] 0 l by rw[Vw];rfl),by omega,hB2⟩
 case round=>
  clear bF bR hB2 hs2;obtain⟨A,j,M,v,hj,rfl,rfl,bF,bR,hown,J,U,hE,af,h⟩:=hrel;obtain⟨F,P,rfl⟩:=wK hown;have f0:=bF.c0;have f1:=bF.c1;have f2:=bF.c2;have aq:j<=100:=by have:=HMany.out;omega
  have aj:(A:Int)+1<=(s.size:Int):=by omega
  have ak:((1:Int)+(A:Int)).toNat=1+A:=by omega
  have hsl:=je s (1+A) U ab;rw[show((1+A:Nat):Int)=1+(A:Int) by omega]at hsl;have hit:=Z.out A U;have hts:(s.extract (1+A) s.size).size=s.size-(1+A):=by rw[ByteArray.size_extract];omega
  obtain⟨r,K⟩:∃r,s.extract (1+A) s.size=r:=⟨_,rfl⟩;rw[K]at hsl hit hts;have ai:Hid (s.extract (1+A) s.size=r):=K;clear K;have HGet:=λW=>V.ZP r W (by unfold maxLen;omega);rw[hit]at HGet;by_cases b2:j<b
  .have g1:(j:Int)<(b:Int):=by omega
   have C:b-j=(b-(j+1))+1:=by omega
   cases hg:V.zL (l.drop A)with
   |none=>
    rw[hg]at HGet;simp only[V.vV]at HGet;have m:Hid (tk b l=none):=by show _=_;rw[hE.out,C];exact Vu hg
    clear hE hg hit J C hts;go_wp2_with fail;refine(HGet _).mono ?_;rintro e G ⟨rfl,d⟩;have f:=bR.below d bR.lt;have hB4:=h.trans (d.mono h.size);clear HGet bR bF d;have a6:=f.c0;have a7:=f.c1;have a8:=f.c2;have z0:=f.fz 0;have z1:=f.fz 1;have z2:=f.fz 2;go_wp2_with fail;refine bodyPost_ret (v:=.tuple #[jJ,.int .i64 0,.bool false]) ?_ rfl ⟨.inl ⟨m.out,rfl⟩,?_⟩;.rw [jd rfl];go_simp
    first|exact((hB4.setCell (Nat.le_refl _) _).setCell (Nat.le_refl _) _).setCell (Nat.le_refl _) _|exact hB4
   |some p=>
    obtain⟨q,c⟩:=p;obtain⟨x,rfl,al,hcl,an,ao⟩:=vW (ji aa.out A) hg;rw[List.length_drop]at hcl;rw[hg]at HGet;simp only[V.vV]at HGet;have m:Hid (tk b l=jg (b-(j+1)) (M++[q]) (A+x) l):=by
     show _=_;rw[hE.out,C,Vv hg];rfl
    have S:1+(A+x)<=s.size:=by have:=N.out;omega
    have Y:=zC S;have am:(A:Int)+(x:Int)+1<=(s.size:Int):=by omega
    have a0:Hid (M.length=j):=J;have b4:M.length<=100:=by omega
    clear hE hg hit C hts J hcl S;go_wp2_with fail;refine(HGet _).mono ?_;rintro e G ⟨rfl,d⟩;have f:=bR.below d bR.lt;have O:=bF.below d bF.lt;have hB4:=h.trans (d.mono h.size);have b5:w.heap.size+2<=G.heap.size:=Nat.le_trans af d.size;have D:=hown.below d;have ah:=D.alloc (.cells #[.int .i64 q] 3);have ac:some (w.heap.size+1)≠(Value.slice F M.length P).ownBlock:=λe=>by have:=(D.lt _ e.symm).1;omega
    have ad:some w.heap.size≠(Value.slice F M.length P).ownBlock:=λe=>by have:=(D.lt _ e.symm).1;omega
    have t1:=O.c1;have a1:=O.alloc (.cells #[.int .i64 q] 3);have a3:=f.alloc (.cells #[.int .i64 q] 3);clear HGet bR bF d h hown f0 f1 f2;go_wp2_with (at_builtin;refine yz rfl (.tmp 93) (.tmp 95) rfl (w.heap.size+2) _ M rfl ah ⟨G.heap.size,0,none⟩ 1 1 [q] rfl rfl (cells_one G q) (by simp;omega) (by simp;omega) ?_;intro v5 L hown5 o;obtain⟨n,t,hv5⟩:=wK hown5;rw[show(M++[q]).length=M.length+1 by simp]at hv5;subst hv5;have H:=FBox.kept a1 o ac;have u1:=H.c1;have u2:=H.fz 1)
    have a2:=H.set1 (.slice n (M.length+1) t);have a4:FBox (L.setCell ⟨w.heap.size+1,1,none⟩ (.slice n (M.length+1) t)) w.heap.size 0 (.slice none 0 0) {data:=#[]}:=(FBox.kept a3 o ad).other (by omega) _;have ae:=xW (B:=w.heap.size+1) (j:=1) (u:=.slice n (M.length+1) t) hown5 (by omega);have a9:Below w.heap.size w (L.setCell ⟨w.heap.size+1,1,none⟩ (.slice n (M.length+1) t)):=((hB4.alloc hB4.size _).grown o (by simp;omega) (λz e=>by have:=(D.lt z e).1;omega)).setCell (by simp) _
    have ag:w.heap.size+2<=(L.setCell ⟨w.heap.size+1,1,none⟩ (.slice n (M.length+1) t)).heap.size:=by
     have:=o.size;simp at this |-;omega
    exact⟨⟨A+x,j+1,M++[q],_,by omega,by go_num,by go_num,a2,a4,ae,by simp[a0.out],Y.out,m,ag,a9⟩,by simp[intOf];omega⟩
  obtain rfl:j=b:=by omega
  have g1:¬(j:Int)<(j:Int):=by omega
  have m:Hid (tk j l=some (M,A)):=by show _=_;rw[hE.out,Nat.sub_self,Vx]
  clear hE;have a6:=bR.c0;have a7:=bR.c1;have a8:=bR.c2;have z0:=bR.fz 0;have z1:=bR.fz 1;have z2:=bR.fz 2;clear HGet hsl hts hit;go_wp2_with fail;refine bodyPost_ret (v:=.tuple #[.agg #[.int .i64 k,.slice F M.length P,.string {data:=#[]}],.int .i64 (1+(A:Int)),.bool true]) ?_ rfl ⟨.inr ⟨M,A,m.out,.slice F M.length P,rfl,?_⟩,?_⟩;.rw [jd rfl];go_simp
  exact yt (xW (xW (xW hown (by omega)) (by omega)) (by omega)) (by omega);exact ((h.setCell (Nat.le_refl _) _).setCell (Nat.le_refl _) _).setCell (Nat.le_refl _) _
theorem YO(s:ByteArray)(l:List Int)(w:World)(ap:s.size<=140737488355328)(Q:V.ints s=3::l):Calls Tryz.prog 90 #[.string s] w λe w'=>(((tk 1 l=none\/∃M A,tk 1 l=some (M,A)/\jM (l.drop A)=none)/\e=.returned (.tuple #[jJ,.int .i64 0,.bool false]))\/(∃M A,tk 1 l=some (M,A)/\∃q c,jM (l.drop A)=some (q,c)/\∃v,e=.returned (.tuple #[.agg #[.int .i64 3,v,.string (s.extract (1+A+c) (1+A+c+q))],.int .i64 ((1+A+c+q:Nat):Int),.bool true])/\OwnI w' w.heap.size v M))/\Below w.heap.size w w':=by
 have b4:(s.toList== [])=false:=x8 (by rw[<-zg,Q];simp);have b2:=jP s 3 l Q;have b3:=zu s 3 (by rw[Q];simp);have ab:s.size=l.length+1:=by rw[<-zg,Q];rfl
 have hl:s.size<=9223372036854775807:=by omega
 have hB2:Below w.heap.size w ((w.alloc (.cells #[.int .i64 0,.slice none 0 0,.string {data:=#[]}] 141)).alloc (.cells #[.int .i64 3,.slice none 0 0,.string {data:=#[]}] 141)):=((Below.refl _ w).alloc (Nat.le_refl _) _).alloc (by simp) _;have bR:FBox ((w.alloc (.cells #[.int .i64 0,.slice none 0 0,.string {data:=#[]}] 141)).alloc (.cells #[.int .i64 3,.slice none 0 0,.string {data:=#[]}] 141)) w.heap.size 0 (.slice none 0 0) {data:=#[]}:=(FBox.new w 0 _ _).alloc _
 have bF:FBox ((w.alloc (.cells #[.int .i64 0,.slice none 0 0,.string {data:=#[]}] 141)).alloc (.cells #[.int .i64 3,.slice none 0 0,.string {data:=#[]}] 141)) (w.heap.size+1) 3 (.slice none 0 0) {data:=#[]}:=by
  have:=FBox.new (w.alloc (.cells #[.int .i64 0,.slice none 0 0,.string {data:=#[]}] 141)) 3 (.slice none 0 0) {data:=#[]};rwa[World.size_alloc]at this
 have hs2:((w.alloc (.cells #[.int .i64 0,.slice none 0 0,.string {data:=#[]}] 141)).alloc (.cells #[.int .i64 3,.slice none 0 0,.string {data:=#[]}] 141)).heap.size=w.heap.size+2:=by simp
 have a9:s.size<=9223372036854775807:=hl;have HG:Hid (∀A,1+A<=s.size->V.ints (s.extract (1+A) s.size)=l.drop A):=by
  show∀A,_;intro A G;rw[qY s (1+A) G,Q,show 1+A=A+1 by omega,List.drop_succ_cons]
 have Z:=zC ab;have a6:Hid (Bytes l):=λz hz=>zu s z (by rw[Q];simp[hz]);have HC:=kT 3;obtain⟨h,a2⟩:∃m:Nat,m=1:=⟨_,rfl⟩;rw[show jl 3=(h:Int) by rw[a2];rfl]at HC;have af:Hid (h<=2):=by show _<=_;omega
 have HM1:Hid (h=1):=a2;clear a2;clear Q hl ab;go_enter Tryz.func90,Tryz.ntmps90
 go_wp2_with (first|(go_at_call 112;refine(HC _).mono ?_;rintro e w1 ⟨rfl,rfl⟩));generalize((w.alloc (.cells #[.int .i64 0,.slice none 0 0,.string {data:=#[]}] 141)).alloc (.cells #[.int .i64 3,.slice none 0 0,.string {data:=#[]}] 141))=W2 at*;go_loopw [10,12] (λa i H=>∃(A j:Nat) (M:List Int) (v:Value),j<=h/\a=.int .i64 (1+(A:Int))/\i=.int .i64 (j:Int)/\FBox H (w.heap.size+1) 3 v {data:=#[]}/\FBox H w.heap.size 0 (.slice none 0 0) {data:=#[]}/\OwnI H (w.heap.size+2) v M/\M.length=j/\1+A<=s.size/\Hid (tk h l=jg (h-j) M A l)/\w.heap.size+2<=H.heap.size/\Below w.heap.size w H) (λ_ i _=>h-(intOf i).toNat)
 case atStart=>exact⟨0,0,[],_,Nat.zero_le _,rfl,rfl,bF,bR,World.ownsRow_nil _ _ _ _,rfl,by have:=Z.out;omega,(show tk h l=jg (h-0) [] 0 l by rw[Vw];rfl),by omega,hB2⟩
 case round=>
  clear bF bR hB2 hs2;obtain⟨A,j,M,v,hj,rfl,rfl,bF,bR,hown,F,G,hE,ac,g⟩:=hrel;obtain⟨I,N,rfl⟩:=wK hown;have C:=bF.c0;have D:=bF.c1;have E:=bF.c2;have ao:j<=100:=by have:=af.out;omega
  have al:(A:Int)+1<=(s.size:Int):=by omega
  have an:((1:Int)+(A:Int)).toNat=1+A:=by omega
  have hsl:=je s (1+A) G a9;rw[show((1+A:Nat):Int)=1+(A:Int) by omega]at hsl;have hit:=HG.out A G;have hts:(s.extract (1+A) s.size).size=s.size-(1+A):=by rw[ByteArray.size_extract];omega
  obtain⟨r,hr⟩:∃r,s.extract (1+A) s.size=r:=⟨_,rfl⟩;rw[hr]at hsl hit hts;have ay:Hid (s.extract (1+A) s.size=r):=hr;clear hr;have HGet:=λW=>V.ZP r W (by unfold maxLen;omega);rw[hit]at HGet;by_cases hlt:j<h
  .have g1:(j:Int)<(h:Int):=by omega
   have R:h-j=(h-(j+1))+1:=by omega
   cases hg:V.zL (l.drop A)with
   |none=>
    rw[hg]at HGet;simp only[V.vV]at HGet;have HE:Hid (tk h l=none):=by show _=_;rw[hE.out,R];exact Vu hg
    clear hE hg hit F R hts;go_wp2_with fail;refine(HGet _).mono ?_;rintro e t ⟨rfl,b⟩;have d:=bR.below b bR.lt;have hB4:=g.trans (b.mono g.size);clear HGet bR bF b;have J:=d.c0;have K:=d.c1;have L:=d.c2;have S:=d.fz 0;have T:=d.fz 1;have X:=d.fz 2;go_wp2_with fail;refine bodyPost_ret (v:=.tuple #[jJ,.int .i64 0,.bool false]) ?_ rfl ⟨.inl ⟨.inl (by have:=HE.out;rwa[HM1.out]at this),rfl⟩,?_⟩;.rw [jd rfl];go_simp
    first|exact((hB4.setCell (Nat.le_refl _) _).setCell (Nat.le_refl _) _).setCell (Nat.le_refl _) _|exact hB4
   |some p=>
    obtain⟨q,c⟩:=p;obtain⟨f,rfl,a7,hcl,hd1,hd2⟩:=vW (ji a6.out A) hg;rw[List.length_drop]at hcl;rw[hg]at HGet;simp only[V.vV]at HGet;have HE:Hid (tk h l=jg (h-(j+1)) (M++[q]) (A+f) l):=by
     show _=_;rw[hE.out,R,Vv hg];rfl
    have a4:1+(A+f)<=s.size:=by have:=Z.out;omega
    have ad:=zC a4;have a8:(A:Int)+(f:Int)+1<=(s.size:Int):=by omega
    have Y:Hid (M.length=j):=F;have b5:M.length<=100:=by omega
    clear hE hg hit R hts F hcl a4;go_wp2_with fail;refine(HGet _).mono ?_;rintro e t ⟨rfl,b⟩;have d:=bR.below b bR.lt;have k:=bF.below b bF.lt;have hB4:=g.trans (b.mono g.size);have b7:w.heap.size+2<=t.heap.size:=Nat.le_trans ac b.size;have x:=hown.below b;have ax:=x.alloc (.cells #[.int .i64 q] 3);have aq:some (w.heap.size+1)≠(Value.slice I M.length N).ownBlock:=λe=>by have:=(x.lt _ e.symm).1;omega
    have ar:some w.heap.size≠(Value.slice I M.length N).ownBlock:=λe=>by have:=(x.lt _ e.symm).1;omega
    have t1:=k.c1;have ag:=k.alloc (.cells #[.int .i64 q] 3);have ai:=d.alloc (.cells #[.int .i64 q] 3);clear HGet bR bF b g hown C D E;go_wp2_with (at_builtin;refine yz rfl (.tmp 93) (.tmp 95) rfl (w.heap.size+2) _ M rfl ax ⟨t.heap.size,0,none⟩ 1 1 [q] rfl rfl (cells_one t q) (by simp;omega) (by simp;omega) ?_;intro v5 w5 hown5 O;obtain⟨U,o,hv5⟩:=wK hown5;rw[show(M++[q]).length=M.length+1 by simp]at hv5;subst hv5;have bF5:=FBox.kept ag O aq;have u1:=bF5.c1;have u2:=bF5.fz 1)
    have ah:=bF5.set1 (.slice U (M.length+1) o);have aj:FBox (w5.setCell ⟨w.heap.size+1,1,none⟩ (.slice U (M.length+1) o)) w.heap.size 0 (.slice none 0 0) {data:=#[]}:=(FBox.kept ai O ar).other (by omega) _;have au:=xW (B:=w.heap.size+1) (j:=1) (u:=.slice U (M.length+1) o) hown5 (by omega);have am:Below w.heap.size w (w5.setCell ⟨w.heap.size+1,1,none⟩ (.slice U (M.length+1) o)):=((hB4.alloc hB4.size _).grown O (by simp;omega) (λz e=>by have:=(x.lt z e).1;omega)).setCell (by simp) _
    have aw:w.heap.size+2<=(w5.setCell ⟨w.heap.size+1,1,none⟩ (.slice U (M.length+1) o)).heap.size:=by
     have:=O.size;simp at this |-;omega
    exact⟨⟨A+f,j+1,M++[q],_,by omega,by go_num,by go_num,ah,aj,au,by simp[Y.out],ad.out,HE,aw,am⟩,by simp[intOf];omega⟩
  obtain rfl:j=h:=by omega
  have g1:¬(j:Int)<(j:Int):=by omega
  have HE:Hid (tk j l=some (M,A)):=by show _=_;rw[hE.out,Nat.sub_self,Vx]
  clear hE;rw[HM1.out]at HE;cases hg:V.zL (l.drop A)with
  |none=>
   rw[hg]at HGet;simp only[V.vV]at HGet;have P:Hid (jM (l.drop A)=none):=by show _=_;simp[jM,hg]
   clear hg hit F hts;go_wp2_with fail;refine(HGet _).mono ?_;rintro e t ⟨rfl,b⟩;have d:=bR.below b bR.lt;have k:=bF.below b bF.lt;have hB4:=g.trans (b.mono g.size);have x:=hown.below b;clear HGet bR bF b g hown C D E hsl;have J:=d.c0;have K:=d.c1;have L:=d.c2;have S:=d.fz 0;have T:=d.fz 1;have X:=d.fz 2;go_wp2_with fail;refine bodyPost_ret (v:=.tuple #[jJ,.int .i64 0,.bool false]) ?_ rfl ⟨.inl ⟨.inr ⟨M,A,HE.out,P.out⟩,rfl⟩,?_⟩
   .rw [jd rfl];go_simp
   first|exact((hB4.setCell (Nat.le_refl _) _).setCell (Nat.le_refl _) _).setCell (Nat.le_refl _) _|exact hB4
  |some p=>
   obtain⟨n,c⟩:=p;obtain⟨f,rfl,a7,hcl,hd1,hd2⟩:=vW (ji a6.out A) hg;rw[List.length_drop]at hcl;rw[hg]at HGet;simp only[V.vV]at HGet;obtain⟨q,rfl⟩:∃q:Nat,n=(q:Int):=⟨n.toNat,by omega⟩;have a3:=Z.out;have a8:(A:Int)+(f:Int)+1<=(s.size:Int):=by omega
   by_cases a0:20<q
   .have P:Hid (jM (l.drop A)=none):=by show _=_;simp only[jM,hg];rw[if_pos (.inl (by omega))]
    have ak:(20:Int)<(q:Int):=by omega
    clear hg hit F hts hcl a3 a0;go_wp2_with fail;refine(HGet _).mono ?_;rintro e t ⟨rfl,b⟩;have d:=bR.below b bR.lt;have k:=bF.below b bF.lt;have hB4:=g.trans (b.mono g.size);have x:=hown.below b;clear HGet bR bF b g hown C D E hsl;have J:=d.c0;have K:=d.c1;have L:=d.c2;have S:=d.fz 0;have T:=d.fz 1;have X:=d.fz 2;go_wp2_with fail;refine bodyPost_ret (v:=.tuple #[jJ,.int .i64 0,.bool false]) ?_ rfl ⟨.inl ⟨.inr ⟨M,A,HE.out,P.out⟩,rfl⟩,?_⟩
    .rw [jd rfl];go_simp
    first|exact((hB4.setCell (Nat.le_refl _) _).setCell (Nat.le_refl _) _).setCell (Nat.le_refl _) _|exact hB4
   have ak:¬(20:Int)<(q:Int):=by omega
   by_cases aa:s.size<1+A+f+q
   .have P:Hid (jM (l.drop A)=none):=by show _=_;simp only[jM,hg,List.length_drop];rw[if_pos (.inr (by omega))]
    have gf:(s.size:Int)<1+(A:Int)+(f:Int)+(q:Int):=by omega
    clear hg hit F hts hcl a3 aa a0;go_wp2_with fail;refine(HGet _).mono ?_;rintro e t ⟨rfl,b⟩;have d:=bR.below b bR.lt;have k:=bF.below b bF.lt;have hB4:=g.trans (b.mono g.size);have x:=hown.below b;clear HGet bR bF b g hown C D E hsl;have J:=d.c0;have K:=d.c1;have L:=d.c2;have S:=d.fz 0;have T:=d.fz 1;have X:=d.fz 2;go_wp2_with fail;refine bodyPost_ret (v:=.tuple #[jJ,.int .i64 0,.bool false]) ?_ rfl ⟨.inl ⟨.inr ⟨M,A,HE.out,P.out⟩,rfl⟩,?_⟩
    .rw [jd rfl];go_simp
    first|exact((hB4.setCell (Nat.le_refl _) _).setCell (Nat.le_refl _) _).setCell (Nat.le_refl _) _|exact hB4
   have P:Hid (jM (l.drop A)=some (q,f)):=by
    show _=_;simp only[jM,hg,List.length_drop];rw[if_neg (by omega)];simp
   have gf:¬(s.size:Int)<1+(A:Int)+(f:Int)+(q:Int):=by omega
   have hsb:=Vb s (1+A+f) (1+A+f+q) (by omega) (by omega) a9;rw[show((1+A+f+q:Nat):Int)=1+(A:Int)+(f:Int)+(q:Int) by omega,show((1+A+f:Nat):Int)=1+(A:Int)+(f:Int) by omega]at hsb;have HNq:Hid (((1+A+f+q:Nat):Int)=1+(A:Int)+(f:Int)+(q:Int)):=by show _=_;omega
   obtain⟨y,a1⟩:∃y,s.extract (1+A+f) (1+A+f+q)=y:=⟨_,rfl⟩;rw[a1]at hsb;have ae:Hid (s.extract (1+A+f) (1+A+f+q)=y):=a1;have Y:Hid (M.length=j):=F;clear hg hit F hts hcl a3 a1 aa a0;go_wp2_with fail;refine(HGet _).mono ?_;rintro e t ⟨rfl,b⟩;have d:=bR.below b bR.lt;have k:=bF.below b bF.lt;have hB4:=g.trans (b.mono g.size);have x:=hown.below b;clear HGet bR bF b g hown C D E hsl;have t0:=k.c0;have t1:=k.c1
   have t2:=k.c2;have t3:=k.fz 2;go_upto_region 26 with fail
   have hp0:0<=(1:Int)+(A:Int)+(f:Int):=by omega
   have hp1:(1:Int)+(A:Int)+(f:Int)+(q:Int)<=140737488355328:=by omega
   generalize(1:Int)+(A:Int)+(f:Int)=p at*;have b1:wrap64 (p+(q:Int))=p+(q:Int):=by unfold wrap64;omega
   have b0:¬(s.size:Int)<p+(q:Int):=by omega
   have az:Hid (M.length<=100):=by show _<=_;have:=Y.out;omega
   clear hj hlt g1 ap al an ao hp1 hd2 G gf a8 a7 hd1 hp0 ac;generalize b6:p+(q:Int)=r at*;go_upto_region 29 with fail
   have bF5:=k.set2 y;have bR5:FBox (t.setCell ⟨w.heap.size+1,2,none⟩ (.string y)) w.heap.size 0 (.slice none 0 0) {data:=#[]}:=d.other (by omega) _;have hB5:Below w.heap.size w (t.setCell ⟨w.heap.size+1,2,none⟩ (.string y)):=hB4.setCell (by simp) _;have ho5:=xW (B:=w.heap.size+1) (j:=2) (u:=.string y) x (by omega);generalize t.setCell ⟨w.heap.size+1,2,none⟩ (.string y)=W5 at*;clear k d hB4 x t0 t1 t2 t3
   have q0:=bF5.c0;have q1:=bF5.c1;have q2:=bF5.c2;have J:=bR5.c0;have K:=bR5.c1;have L:=bR5.c2;have S:=bR5.fz 0;have T:=bR5.fz 1;have X:=bR5.fz 2;go_wp2_with fail;refine bodyPost_ret (v:=.tuple #[.agg #[.int .i64 3,.slice I M.length N,.string y],.int .i64 r,.bool true]) ?_ rfl ⟨.inr ⟨M,A,HE.out,q,f,P.out,.slice I M.length N,by rw[ae.out,show(1:Int)+(A:Int)+(f:Int)+(q:Int)=r by have:=HNq.out;omega],?_⟩,?_⟩
   .rw [jd rfl];go_simp
   exact yt (xW (xW (xW ho5 (by omega)) (by omega)) (by omega)) (by omega);exact ((hB5.setCell (Nat.le_refl _) _).setCell (Nat.le_refl _) _).setCell (Nat.le_refl _) _
theorem zex(s:ByteArray)(w:World)(j:s.size<=140737488355328)(h:jL s=none):Cl 90 #[.string s] w (.tuple #[jJ,.int .i64 0,.bool false]):=by
 have r:s.size<=maxLen:=by unfold maxLen;omega
 unfold jL at h
 cases hs:V.ints s with
 |nil=>
  obtain rfl:s={data:=#[]}:=vS (by rw[<-zg,hs];rfl);exact dr_a w
 |cons k l=>
  rw[hs]at h
  simp only at h
  cases d:zw k with
  |false=>
   by_cases p:k<1;exact zeu s k l w hs p;exact zev s k l w hs (by simp[zw]at d;omega)
  |true=>
   rw[d]at h;simp only[Bool.true_eq_false,if_false]at h;by_cases a:k=2;subst a;have n:zt l=none:=by
    cases u:zt l with
    |none=>rfl
    |some x=>rw[show qQ 2 l=(zt l).map λx=>(zK x.1,x.2) by simp[qQ],u]at h;simp at h
   exact zes s l w r hs n;have m:qQ k l=tk (zk k) l:=by simp[qQ,a]
   rw[m]at h;by_cases b:k=3;subst b;refine(YO s l w j hs).mono ?_;rintro e E ⟨⟨_,g⟩|⟨M,A,i,q,c,t,v,_⟩,f⟩;exact ⟨g,f⟩;rw [show tk (zk 3) l=tk 1 l from rfl,i]at h;simp[t]at h;refine (YP s k l w j hs d a b).mono ?_;rintro e E ⟨⟨_,g⟩|⟨M,A,i,v,_⟩,f⟩;exact ⟨g,f⟩;rw [i]at h;simp[b]at h
theorem zey(s:ByteArray)(w:World)(t:s.size<=140737488355328)(k:Int)(M:List Int)(d:ByteArray)(n:Nat)(h:jL s=some ((k,M,d),n)):
  Calls Tryz.prog 90 #[.string s] w λe E=>∃v,e=.returned (.tuple #[.agg #[.int .i64 k,v,.string d],.int .i64 (n:Int),.bool true])/\OwnI E w.heap.size v M/\Below w.heap.size w E:=by
 have Q:s.size<=maxLen:=by unfold maxLen;omega
 unfold jL at h
 cases hs:V.ints s with
 |nil=>rw[hs]at h;cases h
 |cons b l=>
  rw[hs]at h
  simp only at h
  have F:Bytes l:=λz o=>zu s z (by rw[hs];simp[o])
  cases i:zw b with
  |false=>rw[i]at h;simp at h
  |true=>
   rw[i]at h;simp only[Bool.true_eq_false,if_false]at h;by_cases f:b=2;subst f;rw[show qQ 2 l=(zt l).map λx=>(zK x.1,x.2) by simp[qQ]]at h;cases hx:zt l with
   |none=>rw[hx]at h;simp at h
   |some x=>
    obtain⟨J,A⟩:=x;obtain⟨_,P,_,B⟩:=eB F hx;rw[hx]at h;simp at h;obtain⟨⟨rfl,rfl,rfl⟩,rfl⟩:=h;exact zet s l w Q hs J A _ hx P.1 B rfl
   have y:qQ b l=tk (zk b) l:=by simp[qQ,f]
   rw[y]at h;by_cases g:b=3;subst g;refine(YO s l w t hs).mono ?_;rintro e E ⟨⟨U,_⟩|⟨u,A,a,q,c,r,v,p,j⟩,m⟩;rcases U with a|⟨u,A,a,r⟩;rw [show tk (zk 3) l=tk 1 l from rfl,a]at h;simp at h;rw [show tk (zk 3) l=tk 1 l from rfl,a]at h;simp[r]at h;rw [show tk (zk 3) l=tk 1 l from rfl,a]at h;simp[r]at h;obtain⟨⟨rfl,rfl,rfl⟩,rfl⟩:=h;exact⟨v,p,j,m⟩;refine (YP s b l w t hs i f g).mono ?_;rintro e E ⟨⟨a,_⟩|⟨u,A,a,v,p,j⟩,m⟩;rw [a]at h;simp at h;rw [a]at h;simp[g]at h;obtain⟨⟨rfl,rfl,rfl⟩,rfl⟩:=h;refine⟨v,?_,j,m⟩;rw[p,show(((1+A:Nat)):Int)=1+(A:Int) by omega]
def pw(i:Nat):Int:=if i=0 then 1 else if i=1 then 256 else if i=2 then 65536 else 16777216
theorem zn3(i:Nat):1<=pw i/\pw i<=16777216:=by unfold pw;repeat' split<;>omega
theorem zp3(i:Nat)(h:i<=3)(w:World):Cs 45 #[.int .i64 (i:Int)] w (.int .i64 (pw i)):=by
 rcases(show i=0\/i=1\/i=2\/i=3 by omega)with rfl|rfl|rfl|rfl;exact U.zp2 w;exact U.Zo w;exact U.Q8 w;exact U.JA w
theorem zky{n:Int}{j:Nat}(a:1<=B)(b:B<=4)(c:j<B):(zX n (B:Int))[j]?.getD 0=n/pw (B-1-j)%256:=by
 rcases(show B=1\/B=2\/B=3\/B=4 by omega)with rfl|rfl|rfl|rfl;obtain rfl:j=0:=by omega
 simp[zX,pw];rcases (show j=0\/j=1 by omega)with rfl|rfl<;>simp[zX,pw]
 rcases (show j=0\/j=1\/j=2 by omega)with rfl|rfl|rfl<;>simp[zX,pw]
 rcases (show j=0\/j=1\/j=2\/j=3 by omega)with rfl|rfl|rfl|rfl<;>simp[zX,pw]
theorem zr1{K:List Int}(h:Bytes K):strCells (strOfNums K)=K.map (Value.int .u8):=by
 have e:V.ints (strOfNums K)=K:=V.Z6 K h;have a:strCells (strOfNums K)=(V.ints (strOfNums K)).map (Value.int .u8):=by
  simp[strCells,V.ints]
 rw[a,e]
theorem zeq(n k:Int)(b o m c:Nat)(l:List F)(w:World)(X:U.qb n k=true)(ab:l.length=m)(h0:1<=m)(b3:m<=12)(hb:b<w.heap.size)(hc:FCells w b o l):
  Calls Tryz.prog 58 #[.int .i64 n,.int .i64 k,.slice (some ⟨b,o,none⟩) m c] w λe E=>((ql l≠0/\e=.returned (.tuple #[.string {data:=#[]},.int .i64 (ql l)]))\/(ql l=0/\200<(xw n k l).size/\e=.returned (.tuple #[.string {data:=#[]},.int .i64 4]))\/(ql l=0/\(xw n k l).size<=200/\e=.returned (.tuple #[.string (xw n k l),.int .i64 0])))/\Below w.heap.size w E:=by
 obtain⟨i0,hi,az,b0,b2⟩:=info_parts V.info5;obtain⟨H,a1,a2,a3⟩:=U.wL X;have HM:∀W,Calls Tryz.prog 66 #[.int .i64 n] W λe E=>e=.returned (.bool true)/\W=E:=λW=>(U.jF n W).mono λe E y=>⟨by rw[y.1,(U.xG n).2 ⟨H,a1⟩],y.2.symm⟩;have HN:∀W,Calls Tryz.prog 29 #[.int .i64 n,.int .i64 k] W λe E=>e=.returned (.int .i64 (U.need n k))/\W=E:=λW=>(U.fG n k W X).mono λe E y=>⟨y.1,y.2.symm⟩;have g1:¬k< -1:=by omega
 have g2:¬n<=k:=by omega
 have g3:¬(m:Int)=0:=by omega
 have g4:¬(12:Int)<(m:Int):=by omega
 obtain⟨B,J⟩:∃B:Nat,U.need n k=(B:Int):=⟨(U.need n k).toNat,by have:=U.vD (U.yK n k);omega⟩;have aj:1<=B/\B<=4:=by have:=U.vD (U.yK n k);omega
 have HPN:Hid (vP n k=strOfNums ((B:Int)::zX n (B:Int))):=by
  show _=_;apply jq;rw[XZ,J,V.Z6];intro z g;rcases List.mem_cons.1 g with rfl|g;.omega
  exact Kj n B z g
 have HNL:Hid ((zX n (B:Int)).length=B):=by
  show _=_;have:=Kk (n:=n) (U.yK n k);rw[J]at this;omega
 rw[J]at HN;have HL:=zC ab;have HC:=zC hc;clear ab hc X J;obtain⟨b1,b4⟩:=aj;have ah:Below w.heap.size w (w.alloc (.cells #[.int .u8 (B:Int)] 5)):=(Below.refl _ w).alloc (Nat.le_refl _) _;have ow:(w.alloc (.cells #[.int .u8 (B:Int)] 5)).ownsRow w.heap.size 5 1 (.slice (some ⟨w.heap.size,0,none⟩) 1 1) 1 [.int .u8 (B:Int)]:=World.ownsRow_lit (base:=w.heap.size) (e:=5) (size:=1) w #[.int .u8 (B:Int)] 1 (Nat.le_refl _) (by decide) rfl
 have HOW:=zC ow;clear ow;go_enter Tryz.func58,Tryz.ntmps58
 go_wp2_with (first|(go_at_call 66;refine(HM _).mono ?_;rintro e w1 ⟨rfl,rfl⟩)|(go_at_call 29;refine(HN _).mono ?_;rintro e w1 ⟨rfl,rfl⟩));go_loopw [10,11] (λs i wr=>∃(j:Nat) (t:Int),j<=B/\i=.int .i64 t/\t=(B:Int)-1-(j:Int)/\Hid (wr.ownsRow w.heap.size 5 1 s (j+1) (((B:Int)::(zX n (B:Int)).take j).map (Value.int .u8)))/\Hid (Below w.heap.size w wr)) (λ_ i _=>((intOf i)+1).toNat)
 case atStart=>exact⟨0,(B:Int)-1,Nat.zero_le _,by go_num,by omega,HOW,ah⟩
 case round=>
  obtain⟨j,t,hj,rfl,ht,HO,S⟩:=hrel;by_cases av:j<B
  .have hR:∀W,Calls Tryz.prog 45 #[.int .i64 ((B-1-j:Nat):Int)] W λe E=>e=.returned (.int .i64 (pw (B-1-j)))/\W=E:=λW=>(zp3 (B-1-j) (by omega) W).mono λe E y=>⟨y.1,y.2.symm⟩;rw[show((B-1-j:Nat):Int)=t by omega]at hR;have hpb:=zn3 (B-1-j);have HY:Hid ((zX n (B:Int)).take (j+1)=(zX n (B:Int)).take j++[n/pw (B-1-j)%256]):=by
    show _=_;rw[List.take_succ_eq_append_getElem (by have:=HNL.out;omega),<-zky b1 b4 av,List.getElem?_eq_getElem];rfl
   have t0:0<=t:=by omega
   have A:Hid (t=(B:Int)-1-(j:Int)):=ht;clear ht;generalize pw (B-1-j)=r at hR hpb HY;obtain⟨r1,r2⟩:=hpb;have q0:0<=n/r:=Int.ediv_nonneg H (by omega);have q1:n/r<=n:=Int.ediv_le_self _ H;have qt:(n/r).tmod 256=n/r%256:=Int.tmod_eq_emod_of_nonneg q0;have qq:n.tdiv r=n/r:=Int.tdiv_eq_ediv_of_nonneg H;have m0:0<=n/r%256:=by omega
   have m1:n/r%256<256:=by omega
   have a7:Below wr.heap.size wr (wr.alloc (.cells #[.int .u8 (n/r%256)] 5)):=(Below.refl _ wr).alloc (Nat.le_refl _) _;have ac:=own_below HO.out a7;have a6:=S.out.trans (a7.mono S.out.size);have aa:=a6.size;have ao:=cell_one_new wr (.int .u8 (n/r%256)) 5;have bb:t<=3:=by have:=A.out;omega
   go_wp2_with (first|(go_at_call 45;refine(hR _).mono ?_;rintro e w1 ⟨rfl,rfl⟩)|(at_builtin;refine wpList_append_own_at _ rfl (.tmp 47) (.tmp 54) 37 rfl w.heap.size 5 i0 _ 1 1 Tryz.underlying37 hi az b0 b2 rfl (by decide) _ _ _ rfl ac ⟨_,0,none⟩ 1 1 [Value.int .u8 (n/r%256)] rfl rfl ao (by intro u hu;simp at hu;subst hu;rfl) (by unfold maxLen;omega) (by omega) aa ?_;intro v5 w5 aw ar _ b7));have ak:=a6.grown ar aa (λk e=>(ac.lt k e).1)
   refine⟨⟨j+1,t-1,by omega,by go_num,by have:=A.out;omega,(show _ from ?_),ak⟩,by simp[intOf];have:=A.out;omega⟩;show Hid _;rw[HY.out,<-List.cons_append,List.map_append];exact aw
  obtain rfl:j=B:=by omega
  have g5:t<0:=by omega
  clear ht;have a9:Bytes (((j:Nat):Int)::zX n (j:Int)):=λz g=>by
   rcases List.mem_cons.1 g with rfl|g;.omega
   exact Kj n j z g
  have ho3:=HO.out;rw[List.take_of_length_le (Nat.le_of_eq HNL.out),<-zr1 a9,<-HPN.out]at ho3;have ap:=V.Ky ho3;have ax:(vP n k).size<=5:=by
   rw[HPN.out,strOfNums_size,List.length_cons];have:=HNL.out;omega
  clear ho3 a9 HO HPN HNL HN HM HOW;obtain⟨v,Y⟩:∃v,vP n k=v:=⟨_,rfl⟩;have ae:Hid (∀Z,xw n k Z=v++zx Z):=λZ=>by unfold xw;rw[Y]
  rw[Y]at ap ax;clear Y;go_wp2_with fail;go_loopg [12,13] m (λgg s i wq=>∃a:Nat,a<=m/\m-a<=gg/\i=.int .i64 (a:Int)/\s=.string (v++zx (l.take a))/\Hid (∀q,q<a->fF (zS l q)=0)/\Hid (Below w.heap.size w wq))
  case atStart=>exact⟨0,Nat.zero_le _,by omega,rfl,by rw[show zx (l.take 0)={data:=#[]}from rfl,WV],(λq D=>absurd D (Nat.not_lt_zero _)),S⟩
  case round=>
   obtain⟨a,b6,b5,rfl,rfl,G,R⟩:=hrel;have a8:∀q,q<(l.take a).length->fF (zS (l.take a) q)=0:=λq D=>by
    rw[List.length_take]at D;have:=G.out q (by omega);rwa[show zS (l.take a) q=zS l q by simp[zS,List.getElem?_take,show q<a by omega]]
   have ba:(zx (l.take a)).size<=1452:=by
    have:=KE a8 (l.take a).length (Nat.le_refl _);rw[List.take_length,List.length_take]at this;omega
   clear a8;by_cases b8:a<m
   .have g6:(a:Int)<(m:Int):=by omega
    have N:a<l.length:=by have:=HL.out;omega
    have Q:=R.out;obtain⟨u,x0,x1,x2,r,hd⟩:=HC.out.below hb Q a N;have HNX:Hid (zx (l.take (a+1))=zx (l.take a)++fS (zS l a)):=KD N;have HAT:Hid (fF (zS l a)≠0->ql l=fF (zS l a)):=λhn=>KA l a N G.out hn;have HAL:Hid (fF (zS l a)=0->∀q,q<a+1->fF (zS l q)=0):=λhe q D=>by
     by_cases e:q=a;rw [e];exact he;exact G.out q (by omega)
    have T:b<wr.heap.size:=Nat.lt_of_lt_of_le hb Q.size;clear N;generalize zS l a=f at*;obtain⟨h,M,d⟩:=f;simp only at x0 x1 x2 r hd;have HD:=zd8 h u d M wr r hd;have HE:Hid (qX h M d=fF (h,M,d)):=rfl;by_cases g:qX h M d=0
    .rw [g]at HD;have HY:=λW (an:Below wr.heap.size wr W)=>zdj h u d M W (r.below an) g;have b9:(jB h M d).size<=121:=Jz g;have ad:Hid (∀q,q<a+1->fF (zS l q)=0):=HAL.out g;have HNs:Hid (zx (l.take (a+1))=zx (l.take a)++jB h M d):=HNX.out;obtain⟨au,cu,hu,_⟩:=id r;subst hu;clear g HAL HAT HNX HE;generalize jB h M d=sz at*;obtain⟨x,O⟩:∃x,v++zx (l.take a)=x:=⟨_,rfl⟩;have ay:x.size<=1457:=by rw[<-O,ByteArray.size_append];omega
     have af:Hid (v++zx (l.take (a+1))=x++sz):=by show _=_;rw[HNs.out,<-WU,O]
     rw[O];clear O HNs r;have ta:x.size+sz.size<=9223372036854775807:=by omega
     generalize M.length=nn at*;go_wp2_with fail;refine HD.mono ?_;rintro e w6 ⟨rfl,P⟩;have K:=Q.trans (P.mono Q.size);have ag:=HY w6 P;have y0:=(P.cell (p:=⟨b,o+a*3,none⟩) T).trans x0;have y1:=(P.cell (p:=⟨b,o+a*3+1,none⟩) T).trans x1;have y2:=(P.cell (p:=⟨b,o+a*3+2,none⟩) T).trans x2;clear HD HY x0 x1 x2;go_wp2_with fail;refine ag.mono ?_;rintro e w7 ⟨rfl,am⟩;have al:=K.trans (am.mono K.size);go_wp2_with fail
     go_roundg (m-(a+1))
     case measure=>omega
     case rel=>exact⟨a+1,by omega,Nat.le_refl _,by go_num,by rw[af.out],ad,al⟩
    have a4:Hid (ql l=qX h M d):=HAT.out g;have C:Hid (qX h M d≠0):=g;obtain⟨au,cu,hu,_⟩:=id r;subst hu;clear g HAL HAT HNX HE r;obtain⟨I,L⟩:∃I,qX h M d=I:=⟨_,rfl⟩;have aq:¬I=0:=by rw[<-L];exact C.out
    rw[L]at HD;have a5:Hid (ql l=I):=by show _=_;rw[a4.out,L]
    clear L C a4;generalize M.length=nn at*;generalize v++zx (l.take a)=x at*;go_wp2_with fail;refine HD.mono ?_;rintro e w6 ⟨rfl,P⟩;have K:=Q.trans (P.mono Q.size);go_wp2_with fail;go_ret2
    exact⟨.inl ⟨by rw[a5.out];exact aq,by rw[a5.out];rfl⟩,K⟩
   obtain rfl:a=m:=by omega
   have g6:¬(a:Int)<(a:Int):=by omega
   have A:Hid (l.take a=l):=List.take_of_length_le (by have:=HL.out;omega);have C:Hid (ql l=0):=XN l (λq D=>G.out q (by have:=HL.out;omega));have HPK:Hid (xw n k l=v++zx (l.take a)):=by show _=_;rw[ae.out,A.out]
   have ay:(v++zx (l.take a)).size<=1457:=by rw[ByteArray.size_append];omega
   generalize v++zx (l.take a)=x at*;by_cases ai:200<x.size
   .have g7:(200:Int)<(x.size:Int):=by omega
    go_wp2_with fail;go_ret2
    exact⟨.inr (.inl ⟨C.out,by rw[HPK.out];exact ai,rfl⟩),R.out⟩
   have g7:¬(200:Int)<(x.size:Int):=by omega
   go_wp2_with fail;go_ret2
   exact⟨.inr (.inr ⟨C.out,by rw[HPK.out];omega,by rw[HPK.out];rfl⟩),R.out⟩
theorem zer(n k:Int)(v:Value)(l:List F)(w:World)(g:FRow w v l)(h:vX n k l=0):Cl 58 #[.int .i64 n,.int .i64 k,v] w (.tuple #[.string (xw n k l),.int .i64 0]):=by
 obtain⟨m,h1,d,f,s⟩:=Zl h;obtain⟨r,c,rfl,u,x,p⟩:=g;rcases p with e|⟨b,q,rfl,a,i⟩;rw [e]at h1;simp at h1;refine (zeq n k b q _ c l w m rfl h1 d a i).mono ?_;rintro e E ⟨⟨j,_⟩|⟨_,t,_⟩|⟨_,_,rfl⟩,a⟩;exact absurd f j;.omega
 exact ⟨rfl,a⟩
theorem zf8(s:ByteArray)(a n:Nat)(h:a<=s.size)(b:n<=(s.extract a s.size).size):(s.extract a s.size).extract n (s.extract a s.size).size=s.extract (a+n) s.size:=by
 have c:(s.extract a s.size).size=s.size-a:=by rw[ByteArray.size_extract];omega
 apply jq;rw[qY _ _ b,qY _ _ h,qY _ _ (by omega),List.drop_drop]
theorem zeg(s:ByteArray)(a:Int)(w:World)(b:U.zH a=false):Cl 59 #[.string s,.int .i64 a] w (.tuple #[.int .i64 0,.slice none 0 0,.int .i64 1]):=by
 have HM:=λW=>U.jF a W;simp only[b]at HM;clear b;go_enter Tryz.func59,Tryz.ntmps59
 go_wp2_with (first|(go_at_call 66;refine(HM _).mono ?_;rintro e c ⟨rfl,rfl⟩));go_ret3
 exact⟨rfl,Below.refl _ _⟩
theorem zeh(s:ByteArray)(a:Int)(w:World)(b:U.zH a=true)(h:200<s.size)(d:s.size<=9223372036854775807):Cl 59 #[.string s,.int .i64 a] w (.tuple #[.int .i64 0,.slice none 0 0,.int .i64 4]):=by
 have HM:=λW=>U.jF a W;simp only[b]at HM;clear b;have c:(200:Int)<(s.size:Int):=by omega
 go_enter Tryz.func59,Tryz.ntmps59
 go_wp2_with (first|(go_at_call 66;refine(HM _).mono ?_;rintro e f ⟨rfl,rfl⟩));go_ret3
 exact⟨rfl,Below.refl _ _⟩
theorem zei(a:Int)(w:World)(b:U.zH a=true):Cl 59 #[.string {data:=#[]},.int .i64 a] w (.tuple #[.int .i64 0,.slice none 0 0,.int .i64 2]):=by
 have HM:=λW=>U.jF a W;simp only[b]at HM;clear b;go_enter Tryz.func59,Tryz.ntmps59
 go_wp2_with (first|(go_at_call 66;refine(HM _).mono ?_;rintro e c ⟨rfl,rfl⟩));go_ret3
 exact⟨rfl,Below.refl _ _⟩
theorem zej(s:ByteArray)(k:Int)(l:List Int)(b:Int)(w:World)(c:U.zH b=true)(a:V.ints s=k::l)(j:s.size<=200)(h:k<1):Cl 59 #[.string s,.int .i64 b] w (.tuple #[.int .i64 0,.slice none 0 0,.int .i64 2]):=by
 have HM:=λW=>U.jF b W;simp only[c]at HM;clear c;have f:¬(200:Int)<(s.size:Int):=by omega
 have p:s.size<=9223372036854775807:=by omega
 have n:s.size=l.length+1:=by rw[<-zg,a];rfl
 have i:0<=k/\k<256:=zu s k (by rw[a];simp);have m:=x8 (d:=s) (by omega);have g:=λW=>jP s k l a W;clear a;go_enter Tryz.func59,Tryz.ntmps59
 go_wp2_with (first|(go_at_call 66;refine(HM _).mono ?_;rintro e q ⟨rfl,rfl⟩));go_ret3
 exact⟨rfl,Below.refl _ _⟩
theorem zek(s:ByteArray)(k:Int)(l:List Int)(b:Int)(w:World)(c:U.zH b=true)(a:V.ints s=k::l)(m:s.size<=200)(h:4<k):Cl 59 #[.string s,.int .i64 b] w (.tuple #[.int .i64 0,.slice none 0 0,.int .i64 2]):=by
 have HM:=λW=>U.jF b W;simp only[c]at HM;clear c;have f:¬(200:Int)<(s.size:Int):=by omega
 have q:s.size<=9223372036854775807:=by omega
 have p:s.size=l.length+1:=by rw[<-zg,a];rfl
 have j:0<=k/\k<256:=zu s k (by rw[a];simp);have n:=x8 (d:=s) (by omega);have i:=λW=>jP s k l a W;clear a;have g:¬k<1:=by omega
 go_enter Tryz.func59,Tryz.ntmps59
 go_wp2_with (first|(go_at_call 66;refine(HM _).mono ?_;rintro e r ⟨rfl,rfl⟩));go_ret3
 exact⟨rfl,Below.refl _ _⟩
theorem zel(s:ByteArray)(k:Int)(l:List Int)(b:Int)(w:World)(c:U.zH b=true)(a:V.ints s=k::l)(r:s.size<=200)(m:1<=k)(n:k<=4)(h:(l.length:Int)<k):Cl 59 #[.string s,.int .i64 b] w (.tuple #[.int .i64 0,.slice none 0 0,.int .i64 2]):=by
 have HM:=λW=>U.jF b W;simp only[c]at HM;clear c;have f:¬(200:Int)<(s.size:Int):=by omega
 have v:s.size<=9223372036854775807:=by omega
 have u:s.size=l.length+1:=by rw[<-zg,a];rfl
 have q:0<=k/\k<256:=zu s k (by rw[a];simp);have t:=x8 (d:=s) (by omega);have p:=λW=>jP s k l a W;clear a;have g:¬k<1:=by omega
 have i:¬4<k:=by omega
 have j:(s.size:Int)<=k:=by omega
 go_enter Tryz.func59,Tryz.ntmps59
 go_wp2_with (first|(go_at_call 66;refine(HM _).mono ?_;rintro e x ⟨rfl,rfl⟩));go_ret3
 exact⟨rfl,Below.refl _ _⟩
theorem zem(s:ByteArray)(K:Nat)(l:List Int)(a:Int)(w:World)(u:U.zH a=true)(f:V.ints s=(K:Int)::l)(R:s.size<=200)(o:1<=K)(A:K<=4)(r:K<=l.length)(D:U.jI (big (l.take K)) K a=false):Cl 59 #[.string s,.int .i64 a] w (.tuple #[.int .i64 0,.slice none 0 0,.int .i64 2]):=by
 have n:s.size=l.length+1:=by rw[<-zg,f];rfl
 have T:=x8 (d:=s) (by omega);have O:=λW=>jP s K l f W;have J:¬(200:Int)<(s.size:Int):=by omega
 have Z:s.size<=9223372036854775807:=by omega
 have L:¬(K:Int)<1:=by omega
 have M:¬(4:Int)<(K:Int):=by omega
 have N:¬(s.size:Int)<=(K:Int):=by omega
 have B:∀W,Calls Tryz.prog 66 #[.int .i64 a] W λe E=>e=.returned (.bool true)/\W=E:=λW=>(U.jF a W).mono λe E b=>⟨by rw[b.1,u],b.2.symm⟩;have v:Hid (∀(j:Nat) (W:World),j<l.length->(Instr.index 9 (.string s) (.int .i64 ((j:Int)+1))).run Tryz.prog W=.ok (.int .u8 (l[j]?.getD 0)) W):=λj W C=>by
  have:=jU (d:=s) (k:=j+1) (by omega) W;rw[f,List.getElem?_cons_succ]at this;exact this
 have q:Hid (Bytes l):=λz n=>zu s z (by rw[f];simp[n]);have x:=zC r;have I:=zC n;have p:Hid (1<=K/\K<=4):=⟨o,A⟩;have HW:Hid (∀W,Calls Tryz.prog 89 #[.int .i64 (big (l.take K)),.int .i64 (K:Int),.int .i64 a] W λe E=>e=.returned (.tuple #[.int .i64 0,.bool false])/\W=E):=λW=>(U.zq7 _ _ a W D).mono λe E b=>⟨b.1,b.2.symm⟩;clear n f u r;go_enter Tryz.func59,Tryz.ntmps59
 go_wp2_with (first|(go_at_call 66;refine(B _).mono ?_;rintro e H ⟨rfl,rfl⟩));go_loopw [9,10] (λc i wr=>∃(j:Nat) (t:Int),j<=K/\i=.int .i64 t/\t=(j:Int)+1/\c=.int .i64 (big (l.take j))/\wr=w) (λ_ i _=>(5-intOf i).toNat)
 case atStart=>exact⟨0,1,Nat.zero_le _,rfl,rfl,rfl,rfl⟩
 case round=>
  obtain⟨j,t,C,rfl,h,rfl,m⟩:=hrel;by_cases S:j<K
  .have g:j<l.length:=by have:=x.out;omega
   have hix:=λW=>v.out j W g;have hbd:=Qs q.out j (by omega) (by have:=p.out;omega);have HN:Hid (big (l.take (j+1))=256*big (l.take j)+l[j]?.getD 0):=QA g;have hy:0<=l[j]?.getD 0/\l[j]?.getD 0<256:=by
    rw[List.getElem?_eq_getElem g];exact q.out _ (List.getElem_mem _)
   have Q:t<=(K:Int):=by omega
   have Y:t<=4:=by have:=p.out;omega
   have X:1<=t:=by omega
   rw[<-h]at hix;have F:Hid (t=(j:Int)+1):=h;have P:Hid (wr=w):=m;clear g h m;generalize l[j]?.getD 0=y at hix hy HN;generalize big (l.take j)=z at hbd HN;obtain⟨y0,y1⟩:=hy;obtain⟨z0,z1⟩:=hbd;go_wp2_with fail;exact⟨⟨j+1,t+1,by omega,by go_num,by have:=F.out;omega,by rw[HN.out],P.out⟩,by simp[intOf];omega⟩
  obtain rfl:j=K:=by omega
  have Q:¬t<=(j:Int):=by omega
  have HWz:=HW.out;clear h;have G:=m.symm;clear m;subst G;generalize big (l.take j)=z at HWz;go_wp2_with (first|(go_at_call 89;refine(HWz _).mono ?_;rintro e H ⟨rfl,rfl⟩));go_ret3
  exact⟨rfl,Below.refl _ _⟩
abbrev zaa(s:ByteArray)(c:Nat)(n:Int)(w:World)(e:Ending)(E:World):Prop:=
 ((fin (qF (s.extract c s.size))=none/\e=.returned (.tuple #[.int .i64 0,.slice none 0 0,.int .i64 2]))\/(∃a v b,fin (qF (s.extract c s.size))=some a/\e=.returned (.tuple #[.int .i64 n,v,.int .i64 0])/\FOwn E w.heap.size v b a))/\Below w.heap.size w E
theorem YM(s:ByteArray)(K:Nat)(l:List Int)(n:Int)(w:World)(hm:U.zH n=true)(B:V.ints s=(K:Int)::l)(hl:s.size<=200)(h1:1<=K)(h4:K<=4)(hK:K<=l.length)(hw:U.jI (big (l.take K)) K n=true):Calls Tryz.prog 59 #[.string s,.int .i64 n] w (zaa s (1+K) (U.near (big (l.take K)) (U.zA K) n) w):=by
 obtain⟨i0,hi,ap,aq,ar⟩:=info_parts QU;have J:s.size=l.length+1:=by rw[<-zg,B];rfl
 have aj:=x8 (d:=s) (by omega);have hi0:=λW=>jP s K l B W;have g2:¬(200:Int)<(s.size:Int):=by omega
 have tl:s.size<=9223372036854775807:=by omega
 have g3:¬(K:Int)<1:=by omega
 have g4:¬(4:Int)<(K:Int):=by omega
 have g5:¬(s.size:Int)<=(K:Int):=by omega
 have Z:∀W,Calls Tryz.prog 66 #[.int .i64 n] W λe E=>e=.returned (.bool true)/\W=E:=λW=>(U.jF n W).mono λe E x=>⟨by rw[x.1,hm],x.2.symm⟩;have Y:Hid (∀(j:Nat) (W:World),j<l.length->(Instr.index 9 (.string s) (.int .i64 ((j:Int)+1))).run Tryz.prog W=.ok (.int .u8 (l[j]?.getD 0)) W):=λj W hj=>by
  have:=jU (d:=s) (k:=j+1) (by omega) W;rw[B,List.getElem?_cons_succ]at this;exact this
 have O:Hid (Bytes l):=λz J=>zu s z (by rw[B];simp[J]);have HKL:=zC hK;have HZ:=zC J;have X:Hid (1<=K/\K<=4):=⟨h1,h4⟩;have HW:Hid (∀W,Calls Tryz.prog 89 #[.int .i64 (big (l.take K)),.int .i64 (K:Int),.int .i64 n] W λe E=>e=.returned (.tuple #[.int .i64 (U.near (big (l.take K)) (U.zA K) n),.bool true])/\W=E):=λW=>(U.zri _ _ n W hw).mono λe E x=>⟨x.1,x.2.symm⟩;obtain⟨NN,a2⟩:∃NN,U.near (big (l.take K)) (U.zA K) n=NN:=⟨_,rfl⟩
 rw[a2]at HW |-;clear a2 hw;clear J B hm hK;go_enter Tryz.func59,Tryz.ntmps59
 go_wp2_with (first|(go_at_call 66;refine(Z _).mono ?_;rintro e b ⟨rfl,rfl⟩));go_loopw [9,10] (λc i wr=>∃(j:Nat) (t:Int),j<=K/\i=.int .i64 t/\t=(j:Int)+1/\c=.int .i64 (big (l.take j))/\wr=w) (λ_ i _=>(5-intOf i).toNat)
 case atStart=>exact⟨0,1,Nat.zero_le _,rfl,rfl,rfl,rfl⟩
 case round=>
  obtain⟨j,t,hj,rfl,H,rfl,I⟩:=hrel;by_cases b0:j<K
  .have C:j<l.length:=by have:=HKL.out;omega
   have hix:=λW=>Y.out j W C;have hbd:=Qs O.out j (by omega) (by have:=X.out;omega);have HN:Hid (big (l.take (j+1))=256*big (l.take j)+l[j]?.getD 0):=QA C;have hy:0<=l[j]?.getD 0/\l[j]?.getD 0<256:=by
    rw[List.getElem?_eq_getElem C];exact O.out _ (List.getElem_mem _)
   have g6:t<=(K:Int):=by omega
   have t4:t<=4:=by have:=X.out;omega
   have t1:1<=t:=by omega
   rw[<-H]at hix;have HT:Hid (t=(j:Int)+1):=H;have ab:Hid (wr=w):=I;clear C H I;generalize l[j]?.getD 0=y at hix hy HN;generalize big (l.take j)=z at hbd HN;obtain⟨y0,y1⟩:=hy;obtain⟨z0,z1⟩:=hbd;go_wp2_with fail;exact⟨⟨j+1,t+1,by omega,by go_num,by have:=HT.out;omega,by rw[HN.out],ab.out⟩,by simp[intOf];omega⟩
  obtain rfl:j=K:=by omega
  have g6:¬t<=(j:Int):=by omega
  have HWz:=HW.out;clear H;have ao:=I.symm;clear I;subst ao;generalize big (l.take j)=z at HWz;have a9:=zC hl;clear Z Y O hi0 aj g2 g3 g4 g5 HW hl;go_wp2_with (first|(go_at_call 89;refine(HWz _).mono ?_;rintro e b ⟨rfl,rfl⟩));clear HWz;go_loopg [13,14] s.size (λgg au av wq=>∃(A:Nat) (L:List F) (P:List Value),au=.int .i64 (A:Int)/\A<=s.size/\s.size-A<=gg/\L.length<=A/\Hid (FOwn wq w.heap.size av P L)/\Hid (kg L (s.extract A s.size)=qF (s.extract (1+j) s.size))/\Hid (Below w.heap.size w wq))
  case atStart=>exact⟨1+j,[],[],by go_num,by have:=HZ.out;have:=HKL.out;omega,by omega,by simp,FOwn.nil _ _,eO _,Below.refl _ _⟩
  case round=>
   obtain⟨A,L,P,rfl,hA,ay,af,HO,HRD,q⟩:=hrel;obtain⟨a4,c4,am⟩:=wh HO.out.own;subst am;have aw:=a9.out;have hex:(s.extract A s.size).size=s.size-A:=by rw[ByteArray.size_extract];omega
   by_cases b1:A<s.size
   .have g7:(A:Int)<(s.size:Int):=by omega
    have b2:=λW=>je s A hA tl W
    have D:(s.extract A s.size).size≠0:=by omega
    have G:(s.extract A s.size).size<=140737488355328:=by omega
    cases hf:jL (s.extract A s.size)with
    |none=>
     have HP:=zex (s.extract A s.size) wr G hf;have u:Hid (fin (qF (s.extract (1+j) s.size))=none):=by
      show _=_;rw[<-HRD.out,eG D hf];rfl
     simp only[jJ]at HP;clear hf G D HRD hex;generalize L.length=m at*;generalize s.extract A s.size=r at*;go_wp2_with (first|(go_at_call 90;refine HP.mono ?_;rintro e b ⟨rfl,o⟩;have v:=q.out.trans (o.mono q.out.size)));go_ret3
     exact⟨.inl ⟨u.out,rfl⟩,v.alloc v.size _⟩
    |some y=>
     obtain⟨⟨a,M,d⟩,p⟩:=y;have HP:=zey (s.extract A s.size) wr G a M d p hf;obtain⟨a5,ai,a6⟩:=VU (L:=L) hf;have HG:Hid (fF (a,M,d)=0):=a5;have aa:Hid (kg (L++[(a,M,d)]) (s.extract (A+p) s.size)=qF (s.extract (1+j) s.size)):=by
      show _=_;rw[<-zf8 s A p hA a6,<-eH D hf];exact HRD.out
     have ad:A+p<=s.size:=by omega
     clear hf G a5 HRD D a6 hex;generalize s.extract A s.size=r at*;go_wp2_with fail;refine HP.mono ?_;rintro e b ⟨v1,rfl,ho1,o⟩;obtain⟨g,h,an⟩:=wh ho1;subst an;have v:=q.out.trans (o.mono q.out.size);have S:Below b.heap.size b (b.alloc (.cells #[.int .i64 a,.slice g M.length h,.string d] 141)):=(Below.refl _ b).alloc (Nat.le_refl _) _;have Q:Below b.heap.size b ((b.alloc (.cells #[.int .i64 a,.slice g M.length h,.string d] 141)).alloc (.cells #[.int .i64 a,.slice g M.length h,.string d] 141)):=S.alloc S.size _
     have a0:=v.trans (Q.mono v.size);have T:=(HO.out.below o).below Q;have ak:=yt (ho1.below Q) q.out.size;have hcn:=wR (b.alloc (.cells #[.int .i64 a,.slice g M.length h,.string d] 141)) a (.slice g M.length h) d 141;have ac:=wW a g M.length h d;have a7:w.heap.size<=((b.alloc (.cells #[.int .i64 a,.slice g M.length h,.string d] 141)).alloc (.cells #[.int .i64 a,.slice g M.length h,.string d] 141)).heap.size:=a0.size
     have a8:(b.alloc (.cells #[.int .i64 a,.slice g M.length h,.string d] 141)).heap.size=b.heap.size+1:=by simp
     rw[a8]at hcn;have N:Hid (A+p<=s.size/\1<=p/\L.length<=A):=⟨ad,ai,af⟩;have ax:(A:Int)+(p:Int)<=200:=by omega
     clear HP S Q v a8;go_wp2_with (at_builtin;refine wpList_append_own_at _ rfl (.tmp 85) (.tmp 87) 139 rfl w.heap.size 141 i0 _ 3 48 Tryz.underlying139 hi ap aq ar rfl (by decide) _ _ (jA P L) rfl T.own ⟨b.heap.size+1,0,none⟩ 1 1 [Value.int .i64 a,.slice g M.length h,.string d] rfl rfl hcn ac (by unfold maxLen;omega) (by omega) a7 ?_;intro v5 w5 al a3 _ az);have ag:=T.app (f:=(a,M,d)) ak HG.out al a3
     have ae:=a0.grown a3 a7 (λk e=>(T.own.lt k e).1);go_roundg (s.size-(A+p))
     case measure=>have:=N.out;omega
     case rel=>exact⟨A+p,L++[(a,M,d)],P++[Value.slice g M.length h],by go_num,N.out.1,Nat.le_refl _,by rw[List.length_append];have:=N.out;simp;omega,ag,aa.out,ae⟩
   obtain rfl:A=s.size:=by omega
   have g7:¬(s.size:Int)<(s.size:Int):=by omega
   have R:Hid (qF (s.extract (1+j) s.size)=some L):=by
    show _=_;rw[<-HRD.out];exact eF (by omega)
   clear HRD hex;by_cases hm0:L.length=0
   .have u:Hid (fin (qF (s.extract (1+j) s.size))=none):=by
     show _=_;rw[R.out,List.eq_nil_of_length_eq_zero hm0];rfl
    rw[hm0]at*;go_wp2_with fail;go_ret3
    exact⟨.inl ⟨u.out,rfl⟩,q.out⟩
   have g8:¬(L.length:Int)=0:=by omega
   by_cases ah:12<L.length
   .have g9:(12:Int)<(L.length:Int):=by omega
    have u:Hid (fin (qF (s.extract (1+j) s.size))=none):=by
     show _=_;rw[R.out,zgb ah]
    go_wp2_with fail;go_ret3
    exact⟨.inl ⟨u.out,rfl⟩,q.out⟩
   have g9:¬(12:Int)<(L.length:Int):=by omega
   have u:Hid (fin (qF (s.extract (1+j) s.size))=some L):=by
    show _=_;rw[R.out,Y6 (by omega) (by omega)]
   go_wp2_with fail;go_ret3
   exact⟨.inr ⟨L,_,P,u.out,rfl,HO.out⟩,q.out⟩
theorem zen(s:ByteArray)(a:Int)(w:World)(j:s.size<=9223372036854775807)(h:xO s a≠0):Cl 59 #[.string s,.int .i64 a] w (.tuple #[.int .i64 0,.slice none 0 0,.int .i64 (xO s a)]):=by
 rcases bW h with⟨b,e⟩|⟨b,c,e⟩|⟨b,c,h2,e⟩;rw [e];exact zeg s a w b;rw [e];exact zeh s a w b c j;rw [e];cases hs:V.ints s with
 |nil=>
  obtain rfl:s={data:=#[]}:=vS (by rw[<-zg,hs];rfl);exact zei a w b
 |cons k l=>
  by_cases p:k<1;exact zej s k l a w b hs c p;by_cases q:4<k;exact zek s k l a w b hs c q;by_cases kl:(l.length:Int)<k;exact zel s k l a w b hs c (by omega) (by omega) kl;obtain ⟨K,rfl⟩:∃K:Nat,k=(K:Int):=⟨k.toNat,by omega⟩;have m:U.qG (K:Int)=true:=decide_eq_true (by omega);cases d:U.jI (big (l.take K)) K a with
  |false=>exact zem s K l a w b hs c (by omega) (by omega) (by omega) d
  |true=>
   have n:jX s a=some (U.near (big (l.take K)) (U.zA K) a,1+K):=by
    unfold jX;rw[hs];simp only[Int.toNat_natCast];rw[if_neg (λi=>by rcases i with e|e;rw[m]at e;cases e;exact kl e),if_neg (by rw[d];decide)]
   refine(YM s K l a w b hs c (by omega) (by omega) (by omega) d).mono ?_;rintro e E ⟨⟨_,rfl⟩|⟨t,v,u,f,_⟩,g⟩;exact ⟨rfl,g⟩;unfold xZ at h2;rw[n,Option.bind_some,f]at h2;cases h2
theorem YN(s:ByteArray)(a:Int)(w:World)(m:U.zH a=true)(i:s.size<=200)(n:Int)(l:List F)(h:xZ s a=some (n,l)):Calls Tryz.prog 59 #[.string s,.int .i64 a] w λe E=>∃v d,e=.returned (.tuple #[.int .i64 n,v,.int .i64 0])/\FOwn E w.heap.size v d l/\Below w.heap.size w E:=by
 obtain⟨c,h1,h2⟩:=ZM h
 unfold jX at h1
 cases hs:V.ints s with
 |nil=>rw[hs]at h1;cases h1
 |cons k b=>
  rw[hs]at h1;simp only at h1;split at h1;cases h1;rename_i f;split at h1;cases h1;rename_i hw;simp only[Option.some.injEq,Prod.mk.injEq]at h1;obtain⟨rfl,rfl⟩:=h1;have j:U.qG k=true:=by
   cases e:U.qG k with
   |true=>rfl
   |false=>exact absurd (Or.inl e) f
  have r:=U.vD j;have t:¬(b.length:Int)<k:=λe=>f (Or.inr e);obtain⟨K,rfl⟩:∃K:Nat,k=(K:Int):=⟨k.toNat,by omega⟩;rw[Int.toNat_natCast]at h2 hw |-;have q:U.jI (big (b.take K)) K a=true:=by simpa using hw
  refine(YM s K b a w m hs i (by omega) (by omega) (by omega) q).mono ?_;rintro e E ⟨⟨h3,_⟩|⟨u,v,d,h3,rfl,p⟩,g⟩;rw [h2]at h3;cases h3;rw [h2]at h3;cases h3;exact⟨v,d,rfl,p,g⟩
end Go.Proofs.YtdokgalidhmbbaaGreatDoor
