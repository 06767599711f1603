/- What the law RunAnswers needs. -/
import Derived.Test.YtdokgalidhmbbaaGreatDoorHT
import Derived.Test.YtdokgalidhmbbaaGreatDoorHD
import Derived.Test.YtdokgalidhmbbaaGreatDoorHEA
import Derived.Deep.DeepCutAuto
import Derived.Deep.CutBlock
import Derived.Deep.AppendLies
set_option linter.unusedVariables false
set_option linter.unusedSimpArgs false
set_option maxRecDepth 100000
set_option maxHeartbeats 8000000
namespace Go.Proofs.YtdokgalidhmbbaaGreatDoor
open Go.RowKit Go.Lib Go.Sort
open Sx (zP)
def vU(e:En):List F:=if e.cm=[]then[]else[(2,zK e.cm,nilB)]
variable {w:World}{B:Nat}
theorem Kv{b e a s j n m:Nat}{u v:Value}{K l:List Value}(h:w.ownsRow B e s u n K)(f:w.ownsRow b a j v m l)(i:e≠a):∀k,u.ownBlock=some k->v.ownBlock≠some k:=by
 intro k hk hv;rcases h.2 with⟨rfl,_⟩|⟨g,p,r,rfl,_,hg,_⟩;cases hk;rcases f.2 with⟨rfl,_⟩|⟨d,q,t,rfl,_,hg',_⟩;cases hv;have c:g=k:=by simpa[Value.ownBlock]using hk
 have e2:d=k:=by simpa[Value.ownBlock]using hv
 subst c;subst e2;rw[hg]at hg';injection hg' with e3;injection e3 with e4 e5;exact i e5
theorem cK{v:Value}{K:List Int}{a b:Int}(h:w.ownsRow B 3 1 v (K.length+2) (qV K++qV [a,b])):OwnI w B v (K++[a,b]):=by
 show w.ownsRow B 3 1 v (K++[a,b]).length (qV (K++[a,b]));rw[KU,List.length_append];exact h
def PS(e:En)(k:Nat)(l:List Pc)(a:Int):Prop:=
 (k<=e.t/\l=[]/\a= -1)\/(e.t<k/\k<=en e/\∃f:Nat,a=(f:Int)/\f=e.t+20*l.length/\f<k/\k<=f+20/\l++z8 e.d (en e) (3-l.length) f=pieces e)\/(en e<k/\a= -1/\l=pieces e)
variable {e:En}{l:List Pc}
theorem zms{f k:Nat}(a:f<en e)(d:k<=en e)(g:k=f+20)(h:l.length<=2):(l++[(f,e.d.extract f k)])++z8 e.d (en e) (3-(l++[(f,e.d.extract f k)]).length) k=l++z8 e.d (en e) (3-l.length) f:=by
 obtain⟨m,c⟩:∃m,3-l.length=m+1:=⟨2-l.length,by omega⟩;have b:3-(l++[(f,e.d.extract f k)]).length=m:=by simp;omega
 rw[b,c];simp only[z8];rw[if_pos a,show min (en e) (f+20)=k by omega,List.append_assoc];rfl
theorem zmr{f k:Nat}(a:f<en e)(d:en e<=f+20)(b:k=en e)(g:l.length<=2):l++[(f,e.d.extract f k)]=l++z8 e.d (en e) (3-l.length) f:=by
 obtain⟨m,c⟩:∃m,3-l.length=m+1:=⟨2-l.length,by omega⟩;rw[c];simp only[z8];rw[if_pos a,show min (en e) (f+20)=en e by omega,VG,b]
variable {Z:List (List Pc)}
theorem dF{p:List Pc}{j:Nat}(h:j<Z.length):pat (Z++[p]) j=pat Z j:=by simp[pat,List.getElem?_append_left h]
theorem dE{md:List (List Pc)}{p:List Pc}:pat (md++[p]) md.length=p:=by simp[pat]
theorem Mds.make(h:Mds e Z)(g:EInv e)(u:xV e=0):Mds (q9 e) (Z++[pieces e]):=by
 rw[K7 u];have v:=zm8 e;have k:pat (Z++[pieces e]) e.m=z8 e.d (pk e).2 3 (pk e).1:=by
  have:=dE (md:=Z) (p:=pieces e);rw[h.len]at this;rw[this];exact v
 have l:∀x∈e.ls,∀j,x.lo<=j->j<=x.hi->pat (Z++[pieces e]) j=z8 e.d x.b 3 x.a:=λx hx j h1 h2=>by
  have:=(g.ls x hx).1;rw[dF (by rw[h.len];omega)];exact h.each x hx j h1 h2
 refine⟨by simp[h.len],λx hx j h1 h2=>?_,λj t=>?_,λx hx=>?_,?_⟩;simp only at hx;unfold jC at hx;cases f:e.ls.getLast? with
 |none=>
  rw[f]at hx;simp at hx;subst hx;simp only at h1 h2 |-;rw[show j=e.m by omega];exact k
 |some y=>
  rw[f]at hx;simp only at hx;have w:=List.mem_of_getLast? f;split at hx;rename_i q;rcases List.mem_append.1 hx with hx|hx;exact l x (List.dropLast_subset _ hx) j h1 h2;simp at hx;subst hx;simp only at h1 h2 |-;by_cases n:j=e.m;rw [n];exact k;have:=h.lst y f;rw[l y w j h1 (by omega),q.1,q.2];rcases List.mem_append.1 hx with hx|hx;exact l x hx j h1 h2;simp at hx;subst hx;simp only at h1 h2 |-;rw[show j=e.m by omega];exact k
 simp only at t |-;by_cases n:j=e.m;obtain ⟨x,hx,h2,_⟩:=Yr (ls:=e.ls) (m:=e.m) (a:=(pk e).1) (b:=(pk e).2);have r:=List.mem_of_getLast? hx;refine⟨x,r,?_,by omega⟩;rcases zim r with c|⟨_,_,c|⟨i,d,s,_⟩⟩;have:=(g.ls x c).1;omega;.omega
 have:=h.lst i d;have:=(g.ls i (List.mem_of_getLast? d)).1;have:=h.low i (List.mem_of_getLast? d);omega;obtain ⟨x,hx,h1,h2⟩:=h.all j (by omega);obtain⟨B,c,d,s,_⟩:=zis (a:=(pk e).1) (b:=(pk e).2) h.lst hx;exact⟨B,c,by omega,by omega⟩;simp only at hx |-;obtain⟨y,h1,h2,_⟩:=Yr (ls:=e.ls) (m:=e.m) (a:=(pk e).1) (b:=(pk e).2);rw[h1]at hx;cases hx;omega;simp only at*;exact zio h.low h.lst
theorem DO.made{o z s:Nat}{m A:Value}{g:List Value}(h:DO w B o m A z s g Z e)(F:xV e=0){W E:World}{d u:Value}(D:l=pieces e)(n:Below w.heap.size w W)(U:W.ownsRow w.heap.size 146 2 u l.length (zz l))(G:E.ownsRow B 144 1 d (e.m+1) (g++[u]))(V:W.grownBy E m.ownBlock)(I:d.ownBlock=m.ownBlock\/d.ownBlock=some W.heap.size):DTurn w (E.setCell ⟨o,62,none⟩ d) B o m A z s g (q9 e):=by
 have q:Off (λk=>m.ownBlock=some k) W E:=Off.of_grown V (λk e=>e);have y:Off (λk=>k=o) E (E.setCell ⟨o,62,none⟩ d):=(Off.refl (λk=>k=o) E).setCell (a:=⟨o,62,none⟩) rfl d;have f:Off (λk=>m.ownBlock=some k\/k=o) w (E.setCell ⟨o,62,none⟩ d):=((Off.of_below n).trans (q.mono λk _ hk=>.inl hk)).trans (y.mono λk _ hk=>.inr hk);have P:m.ownBlock≠some o:=λe1=>(h.am o (.inl e1)).1 rfl;have v:=h.lt;have J:=n.size
 have Q:∀k,d.ownBlock=some k->m.ownBlock=some k\/w.heap.size<=k:=λk hk=>by
  rcases I with e1|e1;exact .inl (e1 ▸ hk);rw [hk]at e1;injection e1 with e1;exact .inr (by omega)
 have x:∀k,u.ownBlock=some k->w.heap.size<=k:=λk hk=>(U.lt k hk).1;have t:∀k,w.heap.size<=k->k≠o/\k≠z/\k≠s:=λk hk=>⟨by omega,by have:=h.st.lt;omega,by have:=h.cr.lt;omega⟩;have H:(E.setCell ⟨o,62,none⟩ d).ownsRow B 146 2 u l.length (zz l):=jE (y.row (q.row U (λk hk b=>by have:=x k hk;have:=(h.rm.lt k b).2;omega)) (λk hk b=>(t k (x k hk)).1 b)) h.le;rw[K7 F];have hinv:=h.inv.make;have hmds:=h.mds.make h.inv F
 rw[K7 F]at hinv hmds;refine⟨d,A,g++[u],Z++[pieces e],⟨hinv,hmds,λi C=>?_,λi=>?_,h.hs,h.st.off f (λhk=>?_),h.cr.off f (λhk=>?_),?_,by simp[h.ul],λj hj=>?_,f.row h.cm (λk hk b=>?_),h.ap,λk hk=>?_⟩,f.mono (λk _ hk=>?_),λk hk=>?_⟩;by_cases e1:i=62;subst e1;exact World.cell?_setCell_same _ _ _ (q.cell ((n.cell (p:=⟨o,62,none⟩) v).trans (h.cl 62 (by omega))) P);rw [World.cell?_setCell_other _ _ _ _ (λe2=>by injection e2 with _ e2 _;exact e1 e2.symm),q.cell ((n.cell (p:=⟨o,i,none⟩) v).trans (h.cl i C)) P];unfold xq;simp only[if_neg e1]
 rw [World.frozen?_setCell,q.frozen (p:=⟨o,i,none⟩) (Nat.lt_of_lt_of_le v n.size) P];exact(World.frozen?_of_block (n.block o v)).trans (h.fz i);rcases hk with hk|hk;exact (h.am z (.inl hk)).2.1 rfl;exact h.ap.1 hk.symm;rcases hk with hk|hk;exact (h.am s (.inl hk)).2.2 rfl;exact h.ap.2.1 hk.symm;have:=y.row G (λk hk b=>by rcases Q k hk with c|c;exact(h.am k (.inl c)).1 b;exact(t k c).1 b);rw[List.length_append,h.ul];exact this
 rw [List.length_append,List.length_cons,List.length_nil]at hj;by_cases e1:j=g.length;rw [e1,JU,h.ul,<-h.mds.len,dE,<-D];exact H;have r:j<g.length:=by omega
 rw[JV r,dF (by rw[h.mds.len,<-h.ul];exact r)];refine f.row (h.ru j r) (λk hk b=>?_);rcases b with b|b;exact Kv (h.ru j r) h.rm (by decide) k hk b;exact (h.am k (.inr (.inr ⟨j,r,hk⟩))).1 b;rcases b with b|b;exact Kv h.cm h.rm (by decide) k hk b;exact (h.am k (.inr (.inl hk))).1 b;rcases hk with hk|hk|⟨j,hj,hk⟩;rcases Q k hk with c|c;exact h.am k (.inl c);exact t k c;exact h.am k (.inr (.inl hk));rw [List.length_append,List.length_cons,List.length_nil]at hj;by_cases e1:j=g.length;rw [e1,JU]at hk;exact t k (x k hk);rw [JV (by omega)]at hk;exact h.am k (.inr (.inr ⟨j,by omega,hk⟩))
 rcases hk with hk|hk;exact .inr (.inr (.inr (.inl hk)));exact .inl hk;rcases hk with hk|hk|hk|hk|hk|⟨j,hj,hk⟩;exact .inl (.inl hk);exact .inl (.inr (.inl hk));exact .inl (.inr (.inr (.inl hk)));rcases Q k hk with c|c;exact .inl (.inr (.inr (.inr (.inl c))));exact .inr c;exact .inl (.inr (.inr (.inr (.inr (.inl hk)))));rw [List.length_append,List.length_cons,List.length_nil]at hj;by_cases e1:j=g.length;rw [e1,JU]at hk;exact .inr (x k hk);rw [JV (by omega)]at hk;exact .inl (.inr (.inr (.inr (.inr (.inr ⟨j,by omega,hk⟩)))))
theorem zhx:(Tryz.prog.info? 144).map (λi=>(i.zero,i.size,i.bytes))=some (some (.slice none 0 0),1,24):=by kernel_rfl
theorem zck(w:World)(y:Value)(t:TypeId):∀(j:Nat) (u:Value),[y][j]? =some u->(w.alloc (.cells #[y] t)).cell? ((⟨w.heap.size,0,none⟩:Addr).add j)=some u:=Sx.cell_one_new w y t
theorem YL{a sb cb:Nat}{vm vc:Value}{us:List Value}{md:List (List Pc)}(h:DO w B a vm vc sb cb us md e)(hm:xV e=0):Calls Tryz.prog 40 #[.pointer (some ⟨a,0,none⟩)] w λex w'=>ex=.returned (.string (qP e))/\DTurn w w' B a vm vc sb cb us (q9 e):=by
 have Y:=zC h;have HR:Hid (Row w vc e.cm):=vY h.cm (by have:=((x9 e.cm).1 h.inv.cm).1;omega);obtain⟨i0,cr,da,db,dc⟩:=info_parts ja;have HI:Hid (Tryz.prog.info? 3=some i0/\i0.zero=some (.int .i64 0)/\i0.size=1/\i0.bytes=8):=⟨cr,da,db,dc⟩;obtain⟨bg,bi,bt,bu,bv⟩:=info_parts QU;have V:=h.lt;have c64:=h.cl 64 (by omega);rw[QG]at c64;obtain⟨cf,cc,b3⟩:=wK h.cm;rw[b3]at c64;have em:Hid (vc=.slice cf e.cm.length cc):=b3
 rw[b3]at HR;have HM:=zC hm;have c00:=h.cl 0 (by omega);rw[QH]at c00;have CT:Hid (∀i,i<60->w.cell? ⟨a,1+i,none⟩=some (.bool (decide (i<e.t)))):=λi A=>by rw[h.cl (1+i) (by omega),Jj A]
 have c61:=h.cl 61 (by omega);rw[YF]at c61;have c62:=h.cl 62 (by omega);rw[QI]at c62;have c63:=h.cl 63 (by omega);rw[YE]at c63;obtain⟨a1,cm,br⟩:=wK h.rm;have hrm:=h.rm;rw[br,h.ul]at c62 hrm;have dn:Hid (w.ownsRow B 144 1 (.slice a1 e.m cm) e.m us):=hrm;have bd:Hid (vm=.slice a1 e.m cm):=by show _=_;rw[br,h.ul]
 have c66:=h.cl 66 (by omega);rw[QJ]at c66;have ds:=h.cr.four.c1;have cj:=h.cr.lt;have c2:Hid (0<=e.c.lim/\e.c.lim<=1073741823):=by have l1:=h.inv.c.l1;have l2:=h.inv.c.l2;have w1:=h.inv.c.w1;exact⟨by omega,by omega⟩
 clear h hm b3 cr da db dc br hrm;go_enter Tryz.func40,Tryz.ntmps40
 go_upto_if 19 with fail
 go_cut [3,4,5] (λs3 s4 s5 r=>∃x c al,s3=.slice x (vU e).length c/\Hid (FOwn r w.heap.size (.slice x (vU e).length c) al (vU e))/\Hid (Below w.heap.size w r))
 case first=>
  by_cases h0:e.cm.length=0
  .have Z:e.cm=[]:=List.eq_nil_of_length_eq_zero h0;have gc:¬(0:Int)<(e.cm.length:Int):=by omega
   have HA:Hid (vU e=[]):=by show _=_;unfold vU;rw[if_pos Z]
   go_wp2_with fail;go_meet
   exact⟨none,0,[],by rw[HA.out];rfl,by show FOwn _ _ _ _ _;rw[HA.out];exact FOwn.nil _ _,Below.refl _ _⟩
  have Z:e.cm≠ []:=λe1=>h0 (by rw[e1];rfl);have gc:(0:Int)<(e.cm.length:Int):=by omega
  have HA:Hid (vU e=[(2,zK e.cm,nilB)]):=by show _=_;unfold vU;rw[if_neg Z]
  have HGA:Hid (fF (2,zK e.cm,nilB)=0):=Yl Y.out.inv.cm Z;have ct:=((x9 e.cm).1 Y.out.inv.cm).1;obtain⟨b,o,dv,F,hC⟩:∃b o,cf=some ⟨b,o,none⟩/\b<w.heap.size/\Cells w b o e.cm:=by
   obtain⟨ep,c',h1,_,_,h2⟩:=HR.out;injection h1 with i1 i2 i3;subst i1;rcases h2 with h2|⟨b,o,h3,h4,h5⟩;exact absurd h2 Z;exact ⟨b,o,h3,h4,h5⟩
  subst dv;have HC:Hid (Cells w b o e.cm):=hC;have bF0:=FBox.new w 2 (.slice none 0 0) {data:=#[]};have hB0:Below w.heap.size w (w.alloc (.cells #[.int .i64 2,.slice none 0 0,.string {data:=#[]}] 141)):=(Below.refl _ _).alloc (Nat.le_refl _) _;clear hC Z h0;generalize cw:e.cm.length=N at*;have ar:Hid (e.cm.length=N):=cw;clear cw;go_wp2_with fail;generalize w.alloc (.cells #[.int .i64 2,.slice none 0 0,.string {data:=#[]}] 141)=W0 at bF0 hB0 |-
  rw[show decide (0<N)=true from decide_eq_true (by omega)];go_loopg [5] N (λgk s5 wr=>∃(j:Nat) (v:Value),gk+j=N/\s5=.int .i64 (j:Int)/\FBox wr w.heap.size 2 v {data:=#[]}/\OwnI wr (w.heap.size+1) v (zK (e.cm.take j))/\Below w.heap.size w wr)
  case atStart=>exact⟨0,_,by omega,rfl,bF0,World.ownsRow_nil _ _ _ _,hB0⟩
  case round=>
   clear bF0 hB0;obtain⟨j,v,a5,rfl,bF,hown,R⟩:=hrel;have s:Hid (gk+j=N):=a5;clear a5;obtain⟨Q,U,rfl⟩:=wK hown;have f1:=bF.c1;have bw:=(R.cell (p:=⟨a,64,none⟩) V).trans c64;have ai:a<wr.heap.size:=Nat.lt_of_lt_of_le V R.size;have ad:=bF.lt;by_cases g1:(j:Int)<(N:Int)
   .have ev:(0:Int)<=(j:Int):=by omega
    have a7:j<e.cm.length:=by have:=ar.out;omega
    obtain⟨c0,c1⟩:=HC.out j a7;have d0:wr.drew.cell? ⟨b,o+j*2,none⟩=some (.int .i64 (at' e.cm j).1):=(R.cell (p:=⟨b,o+j*2,none⟩) F).trans c0;have d1:wr.drew.cell? ⟨b,o+j*2+1,none⟩=some (.int .i64 (at' e.cm j).2):=(R.cell (p:=⟨b,o+j*2+1,none⟩) F).trans c1;have HNx:Hid (zK (e.cm.take (j+1))=zK (e.cm.take j)++[(at' e.cm j).2,(at' e.cm j).1]):=by
     show _=_;rw[take_at a7,Qk];rfl
    have d6:(zK (e.cm.take j)).length<=24:=by rw[yC,List.length_take];omega
    generalize at' e.cm j=y at*;obtain⟨H,A⟩:=y;simp only at d0 d1 HNx;have a6:b<wr.heap.size:=Nat.lt_of_lt_of_le F R.size;have Z:=(World.cell?_alloc_lt wr.drew (.cells #[.int .i64 A,.int .i64 H] 3) ⟨b,o+j*2,none⟩ a6).trans d0;have e1:=(World.cell?_alloc_lt wr.drew (.cells #[.int .i64 A,.int .i64 H] 3) ⟨b,o+j*2+1,none⟩ a6).trans d1;have bf:wr.drew.cell? ⟨w.heap.size,1,none⟩=some (.slice Q (zK (e.cm.take j)).length U):=f1
    have aw:=(World.cell?_alloc_lt wr.drew (.cells #[.int .i64 A,.int .i64 H] 3) ⟨w.heap.size,1,none⟩ bF.lt).trans bf;have ch:(wr.alloc (.cells #[.int .i64 A,.int .i64 H] 3)).cell? ⟨w.heap.size,1,none⟩=some (.slice Q (zK (e.cm.take j)).length U):=aw;have ci:(wr.alloc (.cells #[.int .i64 A,.int .i64 H] 3)).drew.cell? ⟨w.heap.size,1,none⟩=some (.slice Q (zK (e.cm.take j)).length U):=aw;have bx:wr.drew.cell? ⟨a,64,none⟩=some (.slice (some ⟨b,o,none⟩) N cc):=bw
    have c6:Hid (OwnI wr.drew (w.heap.size+1) (.slice Q (zK (e.cm.take j)).length U) (zK (e.cm.take j))):=hown;have cs:=QC wr.drew A H;have CS:Hid (∀j u,(qV [A,H])[j]? =some u->(wr.drew.alloc (.cells #[.int .i64 A,.int .i64 H] 3)).cell? ((⟨wr.drew.heap.size,0,none⟩:Addr).add j)=some u):=cs;have cz:some w.heap.size≠(Value.slice Q (zK (e.cm.take j)).length U).ownBlock:=λe=>by have:=(hown.lt _ e.symm).1;omega
    have b2:=zC d6;clear cs c0 c1 a7 d6 f1;have ay:b<(wr.drew.alloc (.cells #[.int .i64 A,.int .i64 H] 3)).heap.size:=by rw[World.size_alloc];exact Nat.lt_succ_of_lt a6
    have ck:a<(wr.drew.alloc (.cells #[.int .i64 A,.int .i64 H] 3)).heap.size:=by rw[World.size_alloc];exact Nat.lt_succ_of_lt ai
    have ac:some b≠(Value.slice Q (zK (e.cm.take j)).length U).ownBlock:=λe=>by have:=(hown.lt _ e.symm).1;omega
    have bn:some a≠(Value.slice Q (zK (e.cm.take j)).length U).ownBlock:=λe=>by have:=(hown.lt _ e.symm).1;omega
    have ax:b≠w.heap.size:=by omega
    have ab:a≠w.heap.size:=by omega
    go_upto_region 7 with fail
    refine wp_region_noPanic ?_;refine wp_region_held_drew (S:=λX=>X.cell? ⟨a,64,none⟩=some (.slice (some ⟨b,o,none⟩) N cc)/\X.cell? ⟨b,o+j*2,none⟩=some (.int .i64 H)/\X.cell? ⟨b,o+j*2+1,none⟩=some (.int .i64 A)) (by kernel_rfl) ⟨bx,d0,d1⟩ (λn=>?_);refine zI 0 (.pointer (some ⟨w.heap.size,1,none⟩)) rfl (by kernel_rfl) rfl (by assumption) ?_ ?_;.intro r d;obtain⟨C,D,E⟩:=d;go_simp
    try simp only[Act.put,zD,zF,zG]
    refine zI 2 (.pointer (some ⟨a,0,none⟩)) rfl (by kernel_rfl) rfl (by assumption) ?_ ?_;.intro r d;obtain⟨C,D,E⟩:=d;go_simp
    try simp only[Act.put,zD,zF,zG]
    refine zI 3 (.pointer (some ⟨a,0,none⟩)) rfl (by kernel_rfl) rfl (by assumption) ?_ ?_;.intro r d;obtain⟨C,D,E⟩:=d;go_simp
    try simp only[Act.put,zD,zF,zG]
    refine zI 4 (.pointer (some ⟨a,64,none⟩)) rfl (by kernel_rfl) rfl (by assumption) ?_ ?_;.intro r d;obtain⟨C,D,E⟩:=d;go_simp
    try simp only[Act.put,zD,zF,zG]
    refine zI 5 (.slice (some ⟨b,o,none⟩) N cc) rfl (by kernel_rfl) rfl (by assumption) ?_ ?_;.intro r d;obtain⟨C,D,E⟩:=d;go_simp
    try simp only[Act.put,zD,zF,zG]
    refine zI 6 (.int .i64 (j:Int)) rfl (by kernel_rfl) rfl (by assumption) ?_ ?_;.intro r d;obtain⟨C,D,E⟩:=d;go_simp
    try simp only[Act.put,zD,zF,zG]
    refine zI 7 (.pointer (some ⟨b,o+j*2,none⟩)) rfl (by kernel_rfl) rfl (by assumption) ?_ ?_;.intro r d;obtain⟨C,D,E⟩:=d;go_simp
    try simp only[Act.put,zD,zF,zG]
    refine zI 8 (.pointer (some ⟨b,o+j*2+1,none⟩)) rfl (by kernel_rfl) rfl (by assumption) ?_ ?_;.intro r d;obtain⟨C,D,E⟩:=d;go_simp
    try simp only[Act.put,zD,zF,zG]
    refine zI 9 (.int .i64 A) rfl (by kernel_rfl) rfl (by assumption) ?_ ?_;.intro r d;obtain⟨C,D,E⟩:=d;go_simp
    try simp only[Act.put,zD,zF,zG]
    refine zI 10 (.pointer (some ⟨a,0,none⟩)) rfl (by kernel_rfl) rfl (by assumption) ?_ ?_;.intro r d;obtain⟨C,D,E⟩:=d;go_simp
    try simp only[Act.put,zD,zF,zG]
    refine zI 11 (.pointer (some ⟨a,0,none⟩)) rfl (by kernel_rfl) rfl (by assumption) ?_ ?_;.intro r d;obtain⟨C,D,E⟩:=d;go_simp
    try simp only[Act.put,zD,zF,zG]
    refine zI 12 (.pointer (some ⟨a,64,none⟩)) rfl (by kernel_rfl) rfl (by assumption) ?_ ?_;.intro r d;obtain⟨C,D,E⟩:=d;go_simp
    try simp only[Act.put,zD,zF,zG]
    refine zI 13 (.slice (some ⟨b,o,none⟩) N cc) rfl (by kernel_rfl) rfl (by assumption) ?_ ?_;.intro r d;obtain⟨C,D,E⟩:=d;go_simp
    try simp only[Act.put,zD,zF,zG]
    refine zI 14 (.int .i64 (j:Int)) rfl (by kernel_rfl) rfl (by assumption) ?_ ?_;.intro r d;obtain⟨C,D,E⟩:=d;go_simp
    try simp only[Act.put,zD,zF,zG]
    refine zI 15 (.pointer (some ⟨b,o+j*2,none⟩)) rfl (by kernel_rfl) rfl (by assumption) ?_ ?_;.intro r d;obtain⟨C,D,E⟩:=d;go_simp
    try simp only[Act.put,zD,zF,zG]
    refine zI 16 (.pointer (some ⟨b,o+j*2,none⟩)) rfl (by kernel_rfl) rfl (by assumption) ?_ ?_;.intro r d;obtain⟨C,D,E⟩:=d;go_simp
    try simp only[Act.put,zD,zF,zG]
    refine zI 17 (.int .i64 H) rfl (by kernel_rfl) rfl (by assumption) ?_ ?_;.intro r d;obtain⟨C,D,E⟩:=d;go_simp
    try simp only[Act.put,zD,zF,zG]
    refine wpAnyH_ready (rs:=[1,18]) (by kernel_rfl) (by simp) ?_;refine AllReadyH.cons (o:= ⟨some 31,.load 54 (.tmp 30),54,"more.go:252",#[⟨0,.data⟩],none⟩) rfl (λK t=>?_) (AllReadyH.cons (o:= ⟨some 48,.buildSlice 54 2 #[(0,.tmp 39),(1,.tmp 47)],54,"more.go:252",#[⟨9,.data⟩,⟨17,.data⟩],none⟩) rfl (λK t=>?_) AllReadyH.nil)
    .go_simp
     refine t.out _ _ n (λn=>?_)
     clear t K
     try simp only[Act.put,zD,zF,zG]
     refine wpAnyH_ready (rs:=[18]) (by kernel_rfl) (by simp) ?_
     refine AllReadyH.cons (o:= ⟨some 48,.buildSlice 54 2 #[(0,.tmp 39),(1,.tmp 47)],54,"more.go:252",#[⟨9,.data⟩,⟨17,.data⟩],none⟩) rfl (λK t=>?_) AllReadyH.nil
     go_simp
     refine t.out _ _ ⟨(World.cell?_alloc_lt _ _ _ ai).trans n.1,(World.cell?_alloc_lt _ _ _ a6).trans n.2.1,(World.cell?_alloc_lt _ _ _ a6).trans n.2.2⟩ (λn=>?_)
     clear t K
     try simp only[Act.put,zD,zF,zG]
     refine wpAnyH_ready (rs:=[19]) (by kernel_rfl) (by simp) ?_
     refine AllReadyH.cons (o:= ⟨some 49,.call {callee:=.builtin .append,args:=#[.tmp 31,.tmp 48],argTypes:=#[54,54]},54,"more.go:252",#[⟨1,.data⟩,⟨18,.data⟩],none⟩) rfl (λK t=>?_) AllReadyH.nil
     refine vR rfl (.tmp 31) (.tmp 48) 54 rfl (w.heap.size+1) 3 i0 _ 1 8 Tryz.underlying54 HI.out.1 HI.out.2.1 HI.out.2.2.1 HI.out.2.2.2 rfl (by decide) (.slice Q (zK (e.cm.take j)).length U) (zK (e.cm.take j)).length (qV (zK (e.cm.take j))) (by simp[Act.eval,Act.put]) (c6.out.alloc _) ⟨wr.drew.heap.size,0,none⟩ 2 2 (qV [A,H]) (by simp[Act.eval,Act.put]) rfl CS.out (by intro u hu;simp[qV]at hu;rcases hu with rfl|rfl<;>rfl) (by have:=b2.out;unfold maxLen;omega) (by have:=b2.out;omega) (by simp;omega) ?_
     intro v' w4 hown' M
     obtain⟨a4,c4,bq⟩:=wK hown'
     subst bq
     have a0:=FBox.kept (bF.alloc' (.cells #[.int .i64 A,.int .i64 H] 3)) M cz
     have k1:=a0.c1
     have k2:=a0.fz 1
     refine t.out _ _ ⟨kw n.1 M ck bn,kw n.2.1 M ay ac,kw n.2.2 M ay ac⟩ (λn=>?_)
     clear t K
     try simp only[Act.put,zD,zF,zG]
     refine zI 20 (.pointer (some ⟨w.heap.size,1,none⟩)) rfl (by kernel_rfl) rfl (by assumption) ?_ ?_
     .intro r d
      obtain⟨C,D,E⟩:=d
      go_simp
     try simp only[Act.put,zD,zF,zG]
     refine wpAnyH_ready (rs:=[21]) (by kernel_rfl) (by simp) ?_
     refine AllReadyH.cons (o:= ⟨none,.store 54 (.tmp 50) (.tmp 49),0,"more.go:252",#[⟨20,.data⟩,⟨19,.data⟩,⟨19,.chain⟩,⟨0,.phase⟩,⟨1,.phase⟩,⟨2,.phase⟩,⟨3,.phase⟩,⟨4,.phase⟩,⟨5,.phase⟩,⟨6,.phase⟩,⟨7,.phase⟩,⟨8,.phase⟩,⟨9,.phase⟩,⟨10,.phase⟩,⟨11,.phase⟩,⟨12,.phase⟩,⟨13,.phase⟩,⟨14,.phase⟩,⟨15,.phase⟩,⟨16,.phase⟩,⟨17,.phase⟩,⟨18,.phase⟩,⟨19,.phase⟩],none⟩) rfl (λK t=>?_) AllReadyH.nil
     go_simp
     refine t.out _ _ ⟨Sx.y5 n.1 ab,Sx.y5 n.2.1 ax,Sx.y5 n.2.2 ax⟩ (λn=>?_)
     clear t K
     try simp only[Act.put,zD,zF,zG]
     refine wpAnyH_done (by kernel_rfl) (NoPanic.normal ?_) _
     clear n
     have bF5:=a0.set1 (.slice a4 ((zK (e.cm.take j)).length+2) c4)
     have ho5:=xW (B:=w.heap.size) (j:=1) (u:=.slice a4 ((zK (e.cm.take j)).length+2) c4) (cK hown') (by omega)
     have hB5:Below w.heap.size w (w4.setCell ⟨w.heap.size,1,none⟩ (.slice a4 ((zK (e.cm.take j)).length+2) c4)):=(((R.drew.alloc (by simp;omega) _).grown M (by simp;omega) (λq e=>by have:=(hown.lt q e).1;omega))).setCell (by simp) _
     clear M hown' a0 k1 k2 Z e1 aw ch ci bf d0 d1 bF hown R bw bx
     generalize w4.setCell ⟨w.heap.size,1,none⟩ (.slice a4 ((zK (e.cm.take j)).length+2) c4)=W5 at*
     go_wp2_with fail
     go_roundg (N-(j+1))
     case measure=>have:=s.out;omega
     case rel=>exact⟨j+1,_,by have:=s.out;omega,by go_num,bF5,by rw[HNx.out];exact ho5,hB5⟩
    .go_simp
     refine t.out _ _ ⟨(World.cell?_alloc_lt _ _ _ ai).trans n.1,(World.cell?_alloc_lt _ _ _ a6).trans n.2.1,(World.cell?_alloc_lt _ _ _ a6).trans n.2.2⟩ (λn=>?_)
     clear t K
     try simp only[Act.put,zD,zF,zG]
     refine wpAnyH_ready (rs:=[1]) (by kernel_rfl) (by simp) ?_
     refine AllReadyH.cons (o:= ⟨some 31,.load 54 (.tmp 30),54,"more.go:252",#[⟨0,.data⟩],none⟩) rfl (λK t=>?_) AllReadyH.nil
     go_simp
     refine t.out _ _ n (λn=>?_)
     clear t K
     try simp only[Act.put,zD,zF,zG]
     refine wpAnyH_ready (rs:=[19]) (by kernel_rfl) (by simp) ?_
     refine AllReadyH.cons (o:= ⟨some 49,.call {callee:=.builtin .append,args:=#[.tmp 31,.tmp 48],argTypes:=#[54,54]},54,"more.go:252",#[⟨1,.data⟩,⟨18,.data⟩],none⟩) rfl (λK t=>?_) AllReadyH.nil
     refine vR rfl (.tmp 31) (.tmp 48) 54 rfl (w.heap.size+1) 3 i0 _ 1 8 Tryz.underlying54 HI.out.1 HI.out.2.1 HI.out.2.2.1 HI.out.2.2.2 rfl (by decide) (.slice Q (zK (e.cm.take j)).length U) (zK (e.cm.take j)).length (qV (zK (e.cm.take j))) (by simp[Act.eval,Act.put]) (c6.out.alloc _) ⟨wr.drew.heap.size,0,none⟩ 2 2 (qV [A,H]) (by simp[Act.eval,Act.put]) rfl CS.out (by intro u hu;simp[qV]at hu;rcases hu with rfl|rfl<;>rfl) (by have:=b2.out;unfold maxLen;omega) (by have:=b2.out;omega) (by simp;omega) ?_
     intro v' w4 hown' M
     obtain⟨a4,c4,bq⟩:=wK hown'
     subst bq
     have a0:=FBox.kept (bF.alloc' (.cells #[.int .i64 A,.int .i64 H] 3)) M cz
     have k1:=a0.c1
     have k2:=a0.fz 1
     refine t.out _ _ ⟨kw n.1 M ck bn,kw n.2.1 M ay ac,kw n.2.2 M ay ac⟩ (λn=>?_)
     clear t K
     try simp only[Act.put,zD,zF,zG]
     refine zI 20 (.pointer (some ⟨w.heap.size,1,none⟩)) rfl (by kernel_rfl) rfl (by assumption) ?_ ?_
     .intro r d
      obtain⟨C,D,E⟩:=d
      go_simp
     try simp only[Act.put,zD,zF,zG]
     refine wpAnyH_ready (rs:=[21]) (by kernel_rfl) (by simp) ?_
     refine AllReadyH.cons (o:= ⟨none,.store 54 (.tmp 50) (.tmp 49),0,"more.go:252",#[⟨20,.data⟩,⟨19,.data⟩,⟨19,.chain⟩,⟨0,.phase⟩,⟨1,.phase⟩,⟨2,.phase⟩,⟨3,.phase⟩,⟨4,.phase⟩,⟨5,.phase⟩,⟨6,.phase⟩,⟨7,.phase⟩,⟨8,.phase⟩,⟨9,.phase⟩,⟨10,.phase⟩,⟨11,.phase⟩,⟨12,.phase⟩,⟨13,.phase⟩,⟨14,.phase⟩,⟨15,.phase⟩,⟨16,.phase⟩,⟨17,.phase⟩,⟨18,.phase⟩,⟨19,.phase⟩],none⟩) rfl (λK t=>?_) AllReadyH.nil
     go_simp
     refine t.out _ _ ⟨Sx.y5 n.1 ab,Sx.y5 n.2.1 ax,Sx.y5 n.2.2 ax⟩ (λn=>?_)
     clear t K
     try simp only[Act.put,zD,zF,zG]
     refine wpAnyH_done (by kernel_rfl) (NoPanic.normal ?_) _
     clear n
     have bF5:=a0.set1 (.slice a4 ((zK (e.cm.take j)).length+2) c4)
     have ho5:=xW (B:=w.heap.size) (j:=1) (u:=.slice a4 ((zK (e.cm.take j)).length+2) c4) (cK hown') (by omega)
     have hB5:Below w.heap.size w (w4.setCell ⟨w.heap.size,1,none⟩ (.slice a4 ((zK (e.cm.take j)).length+2) c4)):=(((R.drew.alloc (by simp;omega) _).grown M (by simp;omega) (λq e=>by have:=(hown.lt q e).1;omega))).setCell (by simp) _
     clear M hown' a0 k1 k2 Z e1 aw ch ci bf d0 d1 bF hown R bw bx
     generalize w4.setCell ⟨w.heap.size,1,none⟩ (.slice a4 ((zK (e.cm.take j)).length+2) c4)=W5 at*
     go_wp2_with fail
     go_roundg (N-(j+1))
     case measure=>have:=s.out;omega
     case rel=>exact⟨j+1,_,by have:=s.out;omega,by go_num,bF5,by rw[HNx.out];exact ho5,hB5⟩
   have a7:j=N:=by have:=s.out;omega
   have d4:OwnI wr (w.heap.size+1) (.slice Q (zK e.cm).length U) (zK e.cm):=by
    have e1:e.cm.take j=e.cm:=by rw[a7,<-ar.out,List.take_length]
    rw[e1]at hown;exact hown
   have au:FBox wr w.heap.size 2 (.slice Q (zK e.cm).length U) {data:=#[]}:=by
    have e1:e.cm.take j=e.cm:=by rw[a7,<-ar.out,List.take_length]
    rw[e1]at bF;exact bF
   have f7:(zK e.cm).length<=24:=by rw[yC];have:=ar.out;omega
   have t0:=au.c0;have t1:=au.c1;have t2:=au.c2;have ho2:OwnI (wr.alloc (.cells #[.int .i64 2,.slice Q (zK e.cm).length U,.string {data:=#[]}] 141)) w.heap.size (.slice Q (zK e.cm).length U) (zK e.cm):=jE (d4.alloc _) (by omega);have hcn:=wR wr 2 (.slice Q (zK e.cm).length U) {data:=#[]} 141;have f5:=R.size;clear hown d4 bF au f1 a7;generalize zK e.cm=uc at*;go_wp2_with (at_builtin;refine wpList_append_own_at _ rfl (.tmp 51) (.tmp 53) 139 rfl w.heap.size 141 bg _ 3 48 Tryz.underlying139 bi bt bu bv rfl (by decide) _ _ (jA [] []) rfl (World.ownsRow_nil _ _ _ _) ⟨wr.heap.size,0,none⟩ 1 1 [Value.int .i64 2,.slice Q uc.length U,.string {data:=#[]}] rfl rfl hcn (wW 2 Q uc.length U {data:=#[]}) (by unfold maxLen;simp) (by simp) (by simp;omega) ?_;intro vx r hox bm e7 hlx;clear e7;obtain⟨cg,cx,rfl⟩:=qL hox;have HX:Hid (FOwn r w.heap.size (.slice cg 1 cx) [.slice Q uc.length U] [(2,uc,nilB)]):=(FOwn.nil (wr.alloc (.cells #[.int .i64 2,.slice Q uc.length U,.string {data:=#[]}] 141)) w.heap.size).app (f:=(2,uc,nilB)) ho2 HGA.out hox bm;have P:Hid (Below w.heap.size w r):=(R.alloc R.size _).grown bm (by simp;omega) (λk e=>by cases e);clear ho2 hcn hox bm hlx)
   go_meet
   exact⟨cg,cx,[.slice Q uc.length U],by rw[HA.out];rfl,by show FOwn _ _ _ _ _;rw[HA.out];exact HX.out,P.out⟩
 case rest=>
 obtain⟨eq,cl,al,rfl,HX,P⟩:=hcut;have ei:=(P.out.cell (p:=⟨a,66,none⟩) V).trans c66;have qc1:=(P.out.cell (p:=⟨cb,1,none⟩) cj).trans ds;have ai:a<wc.heap.size:=Nat.lt_of_lt_of_le V P.out.size;have dw:cb<wc.heap.size:=Nat.lt_of_lt_of_le cj P.out.size;have cp:fF (4,[e.c.lim],nilB)=0:=KN c2.out.1 c2.out.2;have HGC:=zC cp;have HFR:Hid (vU e++[(4,[e.c.lim],nilB)]++(pieces e).map qK=qO e):=by
  show _=_;unfold vU qO;split<;>simp
 have f3:(vU e).length<=1:=by unfold vU;split<;>simp
 clear cp;generalize e.c.lim=z at qc1 HGC HFR;generalize vU e=L0 at*;have ad:=P.out.size;have a2:Below wc.heap.size wc ((wc.alloc (.cells #[.int .i64 z] 3)).alloc (.cells #[.int .i64 4,.slice (some ⟨wc.heap.size,0,none⟩) 1 1,.string {data:=#[]}] 141)):=((Below.refl _ _).alloc (Nat.le_refl _) _).alloc (by simp) _;have b5:=zC a2;clear a2;go_upto_if 77 with(at_builtin;refine wpList_append_own_at _ rfl (.tmp 55) (.tmp 65) 139 rfl w.heap.size 141 bg _ 3 48 Tryz.underlying139 bi bt bu bv rfl (by decide) _ _ (jA al L0) rfl ((HX.out.own.alloc _).alloc _) ⟨wc.heap.size+1,0,none⟩ 1 1 [Value.int .i64 4,.slice (some ⟨wc.heap.size,0,none⟩) 1 1,.string {data:=#[]}] rfl rfl (by have:=wR (wc.alloc (.cells #[.int .i64 z] 3)) 4 (.slice (some ⟨wc.heap.size,0,none⟩) 1 1) {data:=#[]} 141;rw[World.size_alloc]at this;exact this) (wW 4 _ 1 1 {data:=#[]}) (by unfold maxLen;omega) (by omega) (by simp;omega) ?_;intro v5 G ho5 bk e5 hl5;clear e5;obtain⟨be,c5,rfl⟩:=qL ho5;have hB5:Below w.heap.size w G:=(P.out.trans (b5.out.mono P.out.size)).grown bk (by simp;omega) (λk e=>(HX.out.own.lt k e).1);have q0:=(hB5.cell (p:=⟨a,0,none⟩) V).trans c00;have ee:=(hB5.cell (p:=⟨a,61,none⟩) V).trans c61;have ez:a<G.heap.size:=Nat.lt_of_lt_of_le V hB5.size)
 have d2:OwnI ((wc.alloc (.cells #[.int .i64 z] 3)).alloc (.cells #[.int .i64 4,.slice (some ⟨wc.heap.size,0,none⟩) 1 1,.string {data:=#[]}] 141)) w.heap.size (.slice (some ⟨wc.heap.size,0,none⟩) 1 1) [z]:=(World.ownsRow_lit (base:=w.heap.size) (e:=3) (size:=1) wc #[.int .i64 z] 1 P.out.size (by unfold maxLen;omega) rfl).alloc _;have HX5:Hid (FOwn G w.heap.size (.slice be (L0.length+1) c5) (al++[.slice (some ⟨wc.heap.size,0,none⟩) 1 1]) (L0++[(4,[z],nilB)])):=(HX.out.below b5.out).app (f:=(4,[z],nilB)) d2 HGC.out ho5 bk
 have J:=zC hB5;clear d2 ho5 bk hl5 HX HGC P ei qc1 ai dw ad b5 hB5;generalize(al++[Value.slice (some ⟨wc.heap.size,0,none⟩) 1 1])=df at HX5;go_cut [7] (λs7 r=>s7=.int .i64 ((en e:Nat):Int)/\G=r)
 case first=>
  have l0:=Y.out.inv.l0;by_cases g:e.l<(e.d.size:Int)
  .go_wp2_with fail;go_meet
   exact⟨by rw[show((en e:Nat):Int)=e.l by unfold en;omega],rfl⟩
  go_wp2_with fail;go_meet
  exact⟨by rw[show((en e:Nat):Int)=e.d.size by unfold en;omega],rfl⟩
 case rest=>
 obtain⟨rfl,rfl⟩:=hcut;clear q0 ee;obtain⟨dd,d5,d7,d8,d9⟩:=info_parts Yp;have b6:Hid (en e<=60/\e.t<=en e):=⟨Y.out.inv.en60,Y.out.inv.t1⟩;have ap:Hid (en e<=e.d.size/\e.d.size<=60):=⟨ky e,Y.out.inv.d60⟩;go_upto_region 15 with fail
 go_wp2_with fail;go_loopg [6,8,9,10] (en e+1) (λgk s6 s8 s9 f8 wr=>∃(k:Nat) (x:Option Addr) (c:Nat) (l:List Pc) (fr:Int),gk+k=en e+1/\s9=.int .i64 (k:Int)/\s8=.int .i64 fr/\s6=.slice x l.length c/\wr.ownsRow G.heap.size 146 2 (.slice x l.length c) l.length (zz l)/\Below G.heap.size G wr/\Hid (PS e k l fr))
 case atStart=>exact⟨0,none,0,[],-1,by omega,rfl,rfl,rfl,World.ownsRow_nil _ _ _ _,Below.refl _ _,.inl ⟨Nat.zero_le _,rfl,rfl⟩⟩
 case round=>
  obtain⟨k,x,c,l,fr,a5,rfl,rfl,rfl,ho,F,bc⟩:=hrel;have s:Hid (gk+k=en e+1):=a5;clear a5;by_cases g:(k:Int)<=((en e:Nat):Int)
  .have ew:=b6.out;rcases bc.out with⟨p1,rfl,rfl⟩|⟨p1,p2,f,rfl,p3,p4,p5,p6⟩|⟨p1,_,_⟩
   .by_cases gt:k<e.t
    .have g2:(k:Int)<((en e:Nat):Int):=by omega
     have qt:=((J.out.trans (F.mono J.out.size)).cell (p:=⟨a,1+k,none⟩) V).trans (CT.out k (by omega));rw[decide_eq_true gt]at qt;go_wp2_with fail;go_roundg (en e+1-(k+1))
     case measure=>have:=s.out;omega
     case rel=>exact⟨k+1,x,c,[],(-1),by have:=s.out;omega,by go_num,by first|rfl|go_num,by first|rfl|go_num,ho,F,.inl ⟨by omega,rfl,rfl⟩⟩
    have b1:k=e.t:=by omega
    by_cases g2:(k:Int)<((en e:Nat):Int)
    .have qt:=((J.out.trans (F.mono J.out.size)).cell (p:=⟨a,1+k,none⟩) V).trans (CT.out k (by omega));rw[decide_eq_false gt]at qt;have a9:=zC b1;clear b1 gt p1;go_wp2_with fail;go_roundg (en e+1-(k+1))
     case measure=>have:=s.out;omega
     case rel=>exact⟨k+1,x,c,[],(k:Int),by have:=s.out;omega,by go_num,by first|rfl|go_num,by first|rfl|go_num,ho,F,.inr (.inl ⟨by have:=a9.out;omega,by omega,k,rfl,by have:=a9.out;simp;omega,by omega,by omega,by rw[a9.out];rfl⟩)⟩
    have a9:Hid (k=e.t/\k=en e):=⟨b1,by omega⟩;clear b1 gt p1;go_wp2_with fail;go_roundg (en e+1-(k+1))
    case measure=>have:=s.out;omega
    case rel=>exact⟨k+1,x,c,[],(-1),by have:=s.out;omega,by go_num,by first|rfl|go_num,by first|rfl|go_num,ho,F,.inr (.inr ⟨by have:=a9.out;omega,rfl,by rw[dL (by have:=a9.out;omega)]⟩)⟩
   .have c8:Hid (f=e.t+20*l.length/\e.t<=f):=⟨p3,by omega⟩;have cu:l.length<=2:=by omega
    have f6:e.t<=f:=by omega
    clear p3;have et:¬(f:Int)<0:=by omega
    have eu:(0:Int)<=(f:Int):=by omega
    by_cases g2:(k:Int)<((en e:Nat):Int)
    .have qt:=((J.out.trans (F.mono J.out.size)).cell (p:=⟨a,1+k,none⟩) V).trans (CT.out k (by omega));rw[decide_eq_false (show¬k<e.t by omega)]at qt;by_cases es:(k:Int)-(f:Int)=20
     .have b8:Hid (k=f+20):=by show _=_;omega
      have HP6:Hid (l++z8 e.d (en e) (3-l.length) f=pieces e):=p6;clear p6;have ab:∀W,(Instr.slice 9 (.string e.d) (some (.int .i64 (f:Int))) (some (.int .i64 (k:Int))) none).run Tryz.prog W=.ok (.string (e.d.extract f k)) W:=Vb e.d f k (by omega) (by have:=ap.out;omega) (by have:=ap.out;omega);have q0:=(J.out.trans (F.mono J.out.size)).cell (p:=⟨a,0,none⟩) V |>.trans c00;have cs:=λj u hu=>VD wr f (e.d.extract f k) j u hu
      have CS:Hid (∀(j:Nat) (u:Value),(zz [(f,e.d.extract f k)])[j]? =some u->(wr.alloc (.cells #[.int .i64 (f:Int),.string (e.d.extract f k)] 146)).cell? ((⟨wr.heap.size,0,none⟩:Addr).add j)=some u):=cs;have ad:=F.size;have af:Hid (wr.ownsRow G.heap.size 146 2 (.slice x l.length c) l.length (zz l)):=ho;clear cs;generalize ak:e.d.extract f k=O at ab CS;have bb:Hid (e.d.extract f k=O):=ak;clear ak;go_wp2_with (at_builtin;refine wpList_append_own_at _ rfl (.tmp 114) (.tmp 124) 144 rfl G.heap.size 146 dd _ 2 24 Tryz.underlying144 d5 d7 d8 d9 rfl (by decide) _ _ (zz l) rfl (af.out.alloc _) ⟨wr.heap.size,0,none⟩ 1 1 (zz [(f,O)]) rfl rfl CS.out (λu hu=>VE u hu) (by unfold maxLen;omega) (by omega) (by simp;omega) ?_;intro v3 am ho12 bj bp ct;clear bp;obtain⟨ag,ah,rfl⟩:=qL ho12;have bh:Below G.heap.size G am:=(F.alloc F.size _).grown bj (by simp;omega) (λq e=>(af.out.lt q e).1))
      have b9:Hid (am.ownsRow G.heap.size 146 2 (.slice ag (l++[(f,O)]).length ah) (l++[(f,O)]).length (zz (l++[(f,O)]))):=by
       show World.ownsRow _ _ _ _ _ _ _;rw[List.length_append,VC];exact ho12
      go_roundg (en e+1-(k+1))
      case measure=>have:=s.out;omega
      case rel=>exact⟨k+1,ag,ah,(l++[(f,O)]),(k:Int),by have:=s.out;omega,by go_num,by first|rfl|go_num,by simp,b9.out,bh,.inr (.inl ⟨by omega,by omega,k,rfl,by simp;have:=b8.out;have:=c8.out;omega,by omega,by omega,by rw[<-HP6.out,<-bb.out];exact zms (by have:=b8.out;omega) (by omega) b8.out cu⟩)⟩
     have HP6:Hid (l++z8 e.d (en e) (3-l.length) f=pieces e):=p6;clear p6;go_wp2_with fail;go_roundg (en e+1-(k+1))
     case measure=>have:=s.out;omega
     case rel=>exact⟨k+1,x,c,l,(f:Int),by have:=s.out;omega,by go_num,by first|rfl|go_num,by first|rfl|go_num,ho,F,.inr (.inl ⟨by omega,by omega,f,rfl,c8.out.1,by omega,by omega,HP6.out⟩)⟩
    have b0:k=en e:=by omega
    have b7:=zC b0;have HP6:Hid (l++z8 e.d (en e) (3-l.length) f=pieces e):=p6;clear p6 b0;have ab:∀W,(Instr.slice 9 (.string e.d) (some (.int .i64 (f:Int))) (some (.int .i64 (k:Int))) none).run Tryz.prog W=.ok (.string (e.d.extract f k)) W:=Vb e.d f k (by omega) (by have:=ap.out;omega) (by have:=ap.out;omega);have q0:=(J.out.trans (F.mono J.out.size)).cell (p:=⟨a,0,none⟩) V |>.trans c00;have cs:=λj u hu=>VD wr f (e.d.extract f k) j u hu
    have CS:Hid (∀(j:Nat) (u:Value),(zz [(f,e.d.extract f k)])[j]? =some u->(wr.alloc (.cells #[.int .i64 (f:Int),.string (e.d.extract f k)] 146)).cell? ((⟨wr.heap.size,0,none⟩:Addr).add j)=some u):=cs;have ad:=F.size;have af:Hid (wr.ownsRow G.heap.size 146 2 (.slice x l.length c) l.length (zz l)):=ho;clear cs;generalize ak:e.d.extract f k=O at ab CS;have bb:Hid (e.d.extract f k=O):=ak;clear ak;go_wp2_with (at_builtin;refine wpList_append_own_at _ rfl (.tmp 114) (.tmp 124) 144 rfl G.heap.size 146 dd _ 2 24 Tryz.underlying144 d5 d7 d8 d9 rfl (by decide) _ _ (zz l) rfl (af.out.alloc _) ⟨wr.heap.size,0,none⟩ 1 1 (zz [(f,O)]) rfl rfl CS.out (λu hu=>VE u hu) (by unfold maxLen;omega) (by omega) (by simp;omega) ?_;intro v3 am ho12 bj bp ct;clear bp;obtain⟨ag,ah,rfl⟩:=qL ho12;have bh:Below G.heap.size G am:=(F.alloc F.size _).grown bj (by simp;omega) (λq e=>(af.out.lt q e).1))
    have b9:Hid (am.ownsRow G.heap.size 146 2 (.slice ag (l++[(f,O)]).length ah) (l++[(f,O)]).length (zz (l++[(f,O)]))):=by
     show World.ownsRow _ _ _ _ _ _ _;rw[List.length_append,VC];exact ho12
    go_roundg (en e+1-(k+1))
    case measure=>have:=s.out;omega
    case rel=>exact⟨k+1,ag,ah,(l++[(f,O)]),(-1),by have:=s.out;omega,by go_num,by first|rfl|go_num,by simp,b9.out,bh,.inr (.inr ⟨by have:=b7.out;omega,rfl,by rw[<-HP6.out,<-bb.out];exact zmr (by have:=b7.out;omega) (by omega) b7.out cu⟩)⟩
   .omega
  have b0:k=en e+1:=by have:=s.out;omega
  have HL:Hid (l=pieces e):=by
   rcases bc.out with⟨p1,_,_⟩|⟨_,p2,_⟩|⟨_,_,h3⟩;have:=b6.out;omega;.omega
   exact h3
  have dz:l.length<=3:=by rw[HL.out];exact yO _ _ _ _
  have dm:Hid (∀p∈l,p.1<=60/\p.2.size<=20):=by
   show∀p∈l,_;intro p hp;rw[HL.out]at hp;have:=Zk e.d (en e) (ky e) 3 e.t p hp;have:=b6.out;omega
  rw[<-HL.out]at HFR;have HX6:Hid (FOwn wr w.heap.size (.slice be (L0.length+1) c5) df (L0++[(4,[z],nilB)])):=HX5.out.below F;have HB6:Hid (Below w.heap.size w wr):=J.out.trans (F.mono J.out.size);have HP6:Hid (wr.ownsRow w.heap.size 146 2 (.slice x l.length c) l.length (zz l)):=jE ho J.out.size;clear HX5 bc F ho b0 s;generalize hM:l.length=m at dz HP6 |-;have ae:Hid (l.length=m):=hM;have HL1:Hid ((L0++[(4,[z],nilB)]).length=L0.length+1):=by show _=_;simp
  clear hM;generalize hq:L0++[(4,[z],nilB)]=L1 at HX6 HFR HL1;clear hq;generalize ac:L0.length+1=I at HX6 HL1 |-;have bn:I<=2:=by omega
  clear ac;go_wp2_with fail;generalize ed:wr=wp at HX6 HB6 HP6 |-;clear ed;go_loopg [3,11] m (λgk s3 ek wr=>∃(k:Nat) (a3:Option Addr) (c3:Nat) (a8:List Value),gk+k=m/\ek=.int .i64 (k:Int)/\s3=.slice a3 (I+k) c3/\Hid (FOwn wr w.heap.size (.slice a3 (I+k) c3) a8 (L1++(l.take k).map qK))/\Hid (Below w.heap.size w wr)/\Hid (wr.ownsRow w.heap.size 146 2 (.slice x m c) m (zz l)))
  case atStart=>exact⟨0,be,c5,df,by omega,rfl,rfl,(by show FOwn _ _ _ _ _;rw[List.take_zero,List.map_nil,List.append_nil];exact HX6.out),HB6.out,HP6.out⟩
  case round=>
   obtain⟨k,a3,c3,a8,a5,rfl,rfl,HX,P,HP⟩:=hrel;have s:Hid (gk+k=m):=a5;clear a5;by_cases g:(k:Int)<(m:Int)
   .have aj:k<l.length:=by have:=ae.out;omega
    have hPP:wr.ownsRow w.heap.size 146 2 (.slice x m c) m (zz l):=HP.out;obtain⟨gb,er,ec,f2,co⟩:=hPP.form (by omega);injection ec with e1 e2 e3;subst e1 e3;have bs:wr.ownsRow w.heap.size 146 2 (.slice (some ⟨gb,0,none⟩) m c) m (zz l):=HP.out;have y0:=bs.cellAt (k*2) (by omega);have y1:=bs.cellAt (k*2+1) (by omega);rw[(wm l k aj).1]at y0;rw[(wm l k aj).2]at y1;have HN:Hid (L1++(l.take (k+1)).map qK=(L1++(l.take k).map qK)++[qK l[k]]):=by
     show _=_;rw[List.take_succ_eq_append_getElem aj,List.map_append,List.append_assoc];rfl
    have bo:=dm.out l[k] (List.getElem_mem aj);have HGP:Hid (fF (qK l[k])=0):=KP bo.1 bo.2;have HLK:Hid ((L1++(l.take k).map qK).length=I+k):=by
     show _=_;rw[List.length_append,List.length_map,List.length_take,HL1.out];omega
    clear bo bs hPP;generalize l[k]=pp at*;obtain⟨p,T⟩:=pp;simp only at y0 y1;clear aj;generalize L1++(l.take k).map qK=L at*;have hox0:=HX.out.own;rw[HLK.out]at hox0;have hox:wr.drew.ownsRow w.heap.size 141 3 (.slice a3 (I+k) c3) (I+k) (jA a8 L):=hox0;have ba:=zC hox;have ad:=P.out.size;have z0:wr.drew.cell? ⟨gb,k*2,none⟩=some (.int .i64 (p:Int)):=y0;have z1:wr.drew.cell? ⟨gb,k*2+1,none⟩=some (.string T):=y1
    have Z:=(World.cell?_alloc_lt wr.drew (.cells #[.int .i64 (p:Int)] 3) ⟨gb,k*2,none⟩ co).trans z0;have e1:=(World.cell?_alloc_lt wr.drew (.cells #[.int .i64 (p:Int)] 3) ⟨gb,k*2+1,none⟩ co).trans z1;have dt:(wr.alloc (.cells #[.int .i64 (p:Int)] 3)).cell? ⟨gb,k*2+1,none⟩=some (.string T):=e1;have du:(wr.alloc (.cells #[.int .i64 (p:Int)] 3)).drew.cell? ⟨gb,k*2+1,none⟩=some (.string T):=e1;have CS:Hid (∀(j:Nat) (u:Value),[Value.int .i64 3,.slice (some ⟨wr.heap.size,0,none⟩) 1 1,.string T][j]? =some u->((wr.drew.alloc (.cells #[.int .i64 (p:Int)] 3)).alloc (.cells #[.int .i64 3,.slice (some ⟨wr.heap.size,0,none⟩) 1 1,.string T] 141)).cell? ((⟨wr.heap.size+1,0,none⟩:Addr).add j)=some u):=by
     have:=wR (wr.drew.alloc (.cells #[.int .i64 (p:Int)] 3)) 3 (.slice (some ⟨wr.heap.size,0,none⟩) 1 1) T 141;rw[World.size_alloc]at this;exact this
    clear hox0 hox y0 y1;go_wp2_with fail;go_region_law (refine vR rfl (.tmp 138) (.tmp 151) 139 rfl w.heap.size 141 bg _ 3 48 Tryz.underlying139 bi bt bu bv rfl (by decide) (.slice a3 (I+k) c3) (I+k) (jA a8 L) (by simp[Act.eval,Act.put]) ((ba.out.alloc _).alloc _) ⟨wr.heap.size+1,0,none⟩ 1 1 [Value.int .i64 3,.slice (some ⟨wr.heap.size,0,none⟩) 1 1,.string T] (by simp[Act.eval,Act.put]) rfl CS.out (wW 3 _ 1 1 T) (by unfold maxLen;omega) (by omega) (by simp;omega) ?_;intro v7 w7 ho7 az;obtain⟨ce,c7,rfl⟩:=qL ho7)
    all_goals
     have a2:Below wr.heap.size wr ((wr.drew.alloc (.cells #[.int .i64 (p:Int)] 3)).alloc (.cells #[.int .i64 3,.slice (some ⟨wr.heap.size,0,none⟩) 1 1,.string T] 141)):=((Below.refl _ wr).drew.alloc (by simp) _).alloc (by simp) _
     have d3:OwnI ((wr.drew.alloc (.cells #[.int .i64 (p:Int)] 3)).alloc (.cells #[.int .i64 3,.slice (some ⟨wr.heap.size,0,none⟩) 1 1,.string T] 141)) w.heap.size (.slice (some ⟨wr.heap.size,0,none⟩) 1 1) [(p:Int)]:=(World.ownsRow_lit (base:=w.heap.size) (e:=3) (size:=1) wr.drew #[.int .i64 (p:Int)] 1 (by simp;omega) (by unfold maxLen;omega) rfl).alloc _
     have dr:Hid (FOwn w7 w.heap.size (.slice ce (I+k+1) c7) (a8++[.slice (some ⟨wr.heap.size,0,none⟩) 1 1]) (L++[qK (p,T)])):=(HX.out.below a2).app (f:=qK (p,T)) d3 HGP.out (by rw[HLK.out];exact ho7) az
     have dg:Hid (Below w.heap.size w w7):=(P.out.trans (a2.mono P.out.size)).grown az (by simp;omega) (λq e=>(ba.out.lt q e).1)
     have dk:Hid (w7.ownsRow w.heap.size 146 2 (.slice (some ⟨gb,0,none⟩) m c) m (zz l)):=(Off.of_grown (K:=λq=>(Value.slice a3 (I+k) c3).ownBlock=some q) az (λq e=>e)).row (own_below HP.out a2) (λq e=>Kv (own_below HP.out a2) ((ba.out.alloc _).alloc _) (by decide) q e)
     clear a2 d3 ho7 az Z e1 dt du z0 z1 CS
     go_wp2_with fail
     go_roundg (m-(k+1))
     case measure=>have:=s.out;omega
     case rel=>exact⟨k+1,ce,c7,_,by have:=s.out;omega,by go_num,by rw[Nat.add_assoc],(by show FOwn _ _ _ _ _;rw[HN.out,<-Nat.add_assoc];exact dr.out),dg.out,dk.out⟩
   have dy:k=m:=by have:=s.out;omega
   have HE:Hid (L1++(l.take k).map qK=qO e):=by
    show _=_;rw[List.take_of_length_le (by have:=ae.out;omega)];exact HFR.out
   have cd:Hid (FOwn wr w.heap.size (.slice a3 (qO e).length c3) a8 (qO e)):=by
    have h1:=HX.out;rw[HE.out]at h1;have h2:I+k=(qO e).length:=by
     rw[<-HE.out,List.length_append,List.length_map,List.length_take,HL1.out];have:=ae.out;omega
    rw[h2]at h1;exact h1
   have dx:I+k=(qO e).length:=by
    rw[<-HE.out,List.length_append,List.length_map,List.length_take,HL1.out];have:=ae.out;omega
   rw[dx];have f0:(qO e).length<=12:=(Zl HM.out).2.2.1;have c9:Hid (∀X,Below wr.heap.size wr X->Cl 58 #[.int .i64 (e.m:Int),.int .i64 e.k,.slice a3 (qO e).length c3] X (.tuple #[.string (qP e),.int .i64 0])):=λX hX=>by
    have:=zer (e.m:Int) e.k _ (qO e) X ((cd.out.below hX).row (by omega)) HM.out;rw[K5 HM.out];exact this
   clear HX cd HFR HE dy;have de:=(P.out.cell (p:=⟨a,62,none⟩) V).trans c62;have eg:=(P.out.cell (p:=⟨a,63,none⟩) V).trans c63;have cn:a<wr.heap.size:=Nat.lt_of_lt_of_le V P.out.size;have ef:wr.drew.cell? ⟨a,62,none⟩=some (.slice a1 e.m cm):=de;have eh:wr.drew.cell? ⟨a,63,none⟩=some (.int .i64 e.k):=eg;have bz:Hid (Below wr.heap.size wr wr.drew):=⟨rfl,rfl,rfl,Nat.le_refl _,λ_ _=>rfl⟩;have hpk2:=c9.out wr.drew bz.out
   generalize cy:qP e=mb at c9 hpk2;have di:Hid (qP e=mb):=cy;clear cy;generalize(qO e).length=fl at*;go_upto_region 29 with fail
   go_cut [12,13] (λel f9 r=>el=.string mb/\Hid (Below wr.heap.size wr r))
   case first=>
    go_region_held3 (λX=>X.cell? ⟨a,62,none⟩=some (.slice a1 e.m cm)/\X.cell? ⟨a,63,none⟩=some (.int .i64 e.k)) (go_keep) (first|(go_at_call 58;refine hpk2.mono ?_;rintro ex w9 ⟨rfl,hb9⟩;have y2:=(hb9.cell (p:=⟨a,62,none⟩) cn).trans ef;have y3:=(hb9.cell (p:=⟨a,63,none⟩) cn).trans eh))
    all_goals (try go_wp2_with fail)
    all_goals go_meet
    all_goals exact⟨rfl,bz.out.trans (by first|exact hb9|exact(hb9.drew))⟩
   case rest=>
   obtain⟨rfl,b4⟩:=hcut;have aa:Below w.heap.size w wc:=P.out.trans (b4.out.mono P.out.size);have de:=(aa.cell (p:=⟨a,62,none⟩) V).trans c62;have dp:Hid (wc.ownsRow B 144 1 (.slice a1 e.m cm) e.m us):=own_below dn.out aa;have dj:Hid (wc.ownsRow w.heap.size 146 2 (.slice x m c) m (zz l)):=own_below HP.out b4.out;have ad:=aa.size;have ey:=Y.out.le;have f4:=Y.out.inv.m1;obtain⟨ej,e4,e8,e9,ea⟩:=info_parts zhx
   have an:Hid (Below w.heap.size w (wc.alloc (.cells #[.slice x m c] 144))):=aa.alloc aa.size _;have CS:Hid (∀(j:Nat) (u:Value),[Value.slice x m c][j]? =some u->(wc.alloc (.cells #[.slice x m c] 144)).cell? ((⟨wc.heap.size,0,none⟩:Addr).add j)=some u):=zck wc _ _;have dh:Hid (∀i,w.frozen? ⟨a,i,none⟩=false):=Y.out.fz;have ca:Hid ((Value.slice a1 e.m cm).ownBlock≠some a):=by
    have:=λe1=>(Y.out.am a (.inl e1)).1 rfl;rw[bd.out]at this;exact this
   have dl:Hid ((wc.alloc (.cells #[.slice x m c] 144)).ownsRow w.heap.size 146 2 (.slice x m c) l.length (zz l)):=by
    show World.ownsRow _ _ _ _ _ _ _;rw[ae.out];exact own_below dj.out ((Below.refl _ _).alloc (Nat.le_refl _) _)
   clear HP b4 aa;go_wp2_with (at_builtin;refine wpList_append_own_at _ rfl (.tmp 171) (.tmp 173) 87 rfl B 144 ej _ 1 24 Tryz.underlying87 e4 e8 e9 ea rfl (by decide) _ _ us rfl (dp.out.alloc _) ⟨wc.heap.size,0,none⟩ 1 1 [Value.slice x m c] rfl rfl CS.out (by intro u hu;simp at hu;subst hu;rfl) (by unfold maxLen;omega) (by omega) (by simp;omega) ?_;intro vq wq hoq bl e6 hlq;clear e6;obtain⟨aq,cq,rfl⟩:=qL hoq;have dq:Hid (DTurn w (wq.setCell ⟨a,62,none⟩ (.slice aq (e.m+1) cq)) B a vm vc sb cb us (q9 e)):=Y.out.made HM.out HL.out an.out dl.out hoq (by rw[bd.out];exact bl) (by rw[bd.out];exact hlq);have eo:=(Off.of_grown (K:=λq=>(Value.slice a1 e.m cm).ownBlock=some q) bl (λq e=>e)).cell ((an.out.cell (p:=⟨a,62,none⟩) V).trans c62) ca.out;have QF:wq.frozen? ⟨a,62,none⟩=false:=((Off.of_grown (K:=λq=>(Value.slice a1 e.m cm).ownBlock=some q) bl (λq e=>e)).frozen (p:=⟨a,62,none⟩) (Nat.lt_of_lt_of_le V an.out.size) ca.out).trans ((World.frozen?_of_block (an.out.block a V)).trans (dh.out 62)))
   go_ret;exact⟨by rw[di.out];rfl,dq.out⟩
end Go.Proofs.YtdokgalidhmbbaaGreatDoor
namespace Go.Proofs.YtdokgalidhmbbaaGreatDoor
open Go.RowKit Go.Lib Go.Sort
theorem ze2{w:World}{B f u k:Nat}{x A:Value}{v:List Value}{Z:List (List Pc)}{e:En}(h:DO w B f x A u k v Z e)(b:ByteArray)(r:b.size<=9223372036854775807)(s:zU e<=1073741823)(n:xO b (zU e)≠0):Cl 41 #[.pointer (some ⟨f,0,none⟩),.string b] w (.int .i64 (xO b (zU e))):=by
 have F:=zC h;have HR:Hid (Row w A e.cm):=vY h.cm (by have:=((x9 e.cm).1 h.inv.cm).1;omega);have T:=h.lt;have c64:=h.cl 64 (by omega);rw[QG]at c64;obtain⟨j,Q,g⟩:=qL h.cm;rw[g]at c64 HR;have J:Hid (A=.slice j e.cm.length Q):=g;have y:=zC s;clear g s;have HOP:=zen b (zU e) w r n;generalize xO b (zU e)=N at n HOP;clear h r;go_enter Tryz.func41,Tryz.ntmps41
 go_upto_if 29 with fail
 go_cut [5] (λH I=>H=.int .i64 (zU e)/\w=I)
 case first=>
  cases a:e.cm with
  |nil=>
   have hn0:zU e=0:=by unfold zU;rw[a]
   rw[a]at c64;have d:=zC hn0;clear hn0;have m:¬(0:Int)<(([]:List R).length:Int):=by simp
   go_wp2_with fail;go_meet
   exact⟨by rw[d.out],rfl⟩
  |cons c t=>
   have hn0:zU e=c.2+1:=by unfold zU;rw[a]
   have hl0:0<e.cm.length:=by rw[a];simp
   obtain⟨P,i,V,O,p⟩:∃b o,j=some ⟨b,o,none⟩/\b<w.heap.size/\Cells w b o e.cm:=by
    obtain⟨K,L,U,_,_,h2⟩:=HR.out;injection U with i1 i2 i3;subst i1;rcases h2 with h2|h2;rw [h2]at hl0;simp at hl0;exact h2
   subst V;obtain⟨_,c1⟩:=p 0 hl0;have M:w.cell? ⟨P,i+1,none⟩=some (.int .i64 c.2):=by
    rw[show i+0*2+1=i+1 by omega]at c1;rw[c1];simp[at',a]
   have G:=y.out;rw[hn0]at G;have W:¬(1073741823:Int)<c.2+1:=by omega
   have S:0<=c.2:=by
    have q:=(x9 e.cm).1 F.out.inv.cm;have:=kG q.2.2 c (by rw[a];exact List.mem_cons_self);have:=(q.2.1 c (by rw[a];exact List.mem_cons_self)).1;omega
   generalize c.2=z at*;have d:Hid (zU e=z+1):=hn0;have m:(0:Int)<((c::t).length:Int):=by simp
   rw[a]at c64;generalize D:(c::t).length=X at c64 m |-;clear p c1 hn0 D a hl0;go_wp2_with fail;go_meet
   exact⟨by rw[d.out],rfl⟩
 case rest=>
 obtain⟨rfl,rfl⟩:=hcut;go_wp2_with fail;refine HOP.mono ?_;rintro l Y ⟨rfl,C⟩;clear HOP;go_wp2_with fail;go_ret;exact⟨rfl,C⟩
theorem ze3{w:World}{B d D s:Nat}{H A:Value}{G:List Value}{Z:List (List Pc)}{e:En}(h:DO w B d H A D s G Z e)(b:ByteArray)(V:zU e<=1073741823)(y:b.size<=200)(n:Int)(t:List F)(g:xZ b (zU e)=some (n,t))(Q:xD e.cm n=true):Cl 41 #[.pointer (some ⟨d,0,none⟩),.string b] w (.int .i64 0):=by
 have I:=zC h;have HR:Hid (Row w A e.cm):=vY h.cm (by have:=((x9 e.cm).1 h.inv.cm).1;omega);have P:=h.lt;have c64:=h.cl 64 (by omega);rw[QG]at c64;obtain⟨r,K,k⟩:=qL h.cm;rw[k]at c64 HR;have a0:Hid (A=.slice r e.cm.length K):=k;have m:=zC V;clear k V;have q:=YN b (zU e) w ((U.xG _).2 ⟨aZ h.inv,m.out⟩) y n t g;have HIN:=λX (L:Below w.heap.size w X)=>Lx.fD _ e.cm n X (HR.out.below L);rw[Q]at HIN;clear h y g Q
 go_enter Tryz.func41,Tryz.ntmps41
 go_upto_if 29 with fail
 go_cut [5] (λW wx=>W=.int .i64 (zU e)/\w=wx)
 case first=>
  cases a:e.cm with
  |nil=>
   have hn0:zU e=0:=by unfold zU;rw[a]
   rw[a]at c64;have i:=zC hn0;clear hn0;have u:¬(0:Int)<(([]:List R).length:Int):=by simp
   go_wp2_with fail;go_meet
   exact⟨by rw[i.out],rfl⟩
  |cons c C=>
   have hn0:zU e=c.2+1:=by unfold zU;rw[a]
   have hl0:0<e.cm.length:=by rw[a];simp
   obtain⟨J,l,M,a4,v⟩:∃b o,r=some ⟨b,o,none⟩/\b<w.heap.size/\Cells w b o e.cm:=by
    obtain⟨a2,c',g,_,_,h2⟩:=HR.out;injection g with i1 i2 i3;subst i1;rcases h2 with h2|h2;rw [h2]at hl0;simp at hl0;exact h2
   subst M;obtain⟨_,c1⟩:=v 0 hl0;have a3:w.cell? ⟨J,l+1,none⟩=some (.int .i64 c.2):=by
    rw[show l+0*2+1=l+1 by omega]at c1;rw[c1];simp[at',a]
   have S:=m.out;rw[hn0]at S;have a7:¬(1073741823:Int)<c.2+1:=by omega
   have a6:0<=c.2:=by
    have x:=(x9 e.cm).1 I.out.inv.cm;have:=kG x.2.2 c (by rw[a];exact List.mem_cons_self);have:=(x.2.1 c (by rw[a];exact List.mem_cons_self)).1;omega
   generalize c.2=z at*;have i:Hid (zU e=z+1):=hn0;have u:(0:Int)<((c::C).length:Int):=by simp
   rw[a]at c64;generalize O:(c::C).length=ln at c64 u |-;clear v c1 hn0 O a hl0;go_wp2_with fail;go_meet
   exact⟨by rw[i.out],rfl⟩
 case rest=>
 obtain⟨rfl,rfl⟩:=hcut;go_wp2_with fail;refine q.mono ?_;rintro j Y ⟨v1,a9,rfl,hF1,f⟩;have a8:=(f.cell (p:=⟨d,64,none⟩) P).trans c64;have a5:d<Y.heap.size:=Nat.lt_of_lt_of_le P f.size;obtain⟨a1,c1,T⟩:=qL hF1.own;subst T;clear q hF1;go_wp2_with fail;refine(HIN _ f).mono ?_;rintro j w2 ⟨rfl,N⟩;go_wp2_with fail;go_ret;exact⟨rfl,f.trans (N.mono f.size)⟩
end Go.Proofs.YtdokgalidhmbbaaGreatDoor
