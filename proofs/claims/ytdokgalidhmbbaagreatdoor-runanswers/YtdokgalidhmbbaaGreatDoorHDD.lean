/- What the law RunAnswers needs. -/
import Derived.Test.YtdokgalidhmbbaaGreatDoorHT
import Derived.Test.YtdokgalidhmbbaaGreatDoorHDV
import Derived.Test.YtdokgalidhmbbaaGreatDoorHW
set_option linter.unusedVariables false
set_option linter.unusedSimpArgs false
set_option maxRecDepth 100000
set_option maxHeartbeats 8000000
namespace Go.Proofs.YtdokgalidhmbbaaGreatDoor
open Go.RowKit Go.Lib Go.Sort
theorem Kw{w:World}{B e b n:Nat}{v:Value}{K:List Value}(h:w.ownsRow B e b v n K)(d:0<n):∃g a,v=.slice (some ⟨g,0,none⟩) n a:=by
 rcases h.2 with⟨_,e⟩|⟨g,a,c,e,_⟩;.omega
 exact ⟨g,a,e⟩
theorem zmq{l:List Pc}{j:Nat}{p:Pc}(h:l[j]? =some p):(zz l)[j*2]? =some (.int .i64 (p.1:Int))/\(zz l)[j*2+1]? =some (.string p.2):=by
 obtain⟨a,rfl⟩:=List.getElem?_eq_some_iff.1 h;exact wm l j a
def jS(t i:Nat):Value:=.bool (decide (i<t))
structure TBox(w:World)(T t:Nat):Prop where
 cl:∀i,i<60->w.cell? ⟨T,i,none⟩=some (jS t i)
 fz:∀i,w.frozen? ⟨T,i,none⟩=false
section
variable {w w' : World} {T t : Nat}
theorem TBox.lt(h:TBox w T t):T<w.heap.size:=World.block_lt_of_cell? w _ (h.cl 0 (by omega))
theorem TBox.off{K:Nat->Prop}(h:TBox w T t)(b:Off K w w')(a:¬K T):TBox w' T t:=⟨λi c=>b.cell (h.cl i c) a,λi=>(b.frozen (p:=⟨T,i,none⟩) h.lt a).trans (h.fz i)⟩
theorem TBox.below(h:TBox w T t)(a:Below w.heap.size w w'):TBox w' T t:=h.off (Off.of_below (K:=λ_=>False) a) id
theorem TBox.range(h:TBox w T t):w.rangeAt T 0 (row 60 (jS t)):=vZ λi a=>by rw[Nat.zero_add];exact h.cl i a
theorem TBox.mark{p:Nat}(h:TBox w T t)(c:p<=t)(b:p<60):TBox (w.setCell ⟨T,p,none⟩ (.bool true)) T (max t (p+1)):=by
 refine⟨λi a=>?_,λi=>by simpa using h.fz i⟩;by_cases e:i=p;subst e;rw[World.cell?_setCell_same _ _ _ (h.cl i a)];simp only[jS];congr 2
 exact(decide_eq_true (by omega)).symm;rw [World.cell?_setCell_other _ _ _ _ (λe2=>by injection e2 with _ e2 _;exact e e2.symm),h.cl i a];simp only[jS];congr 2
 exact decide_eq_decide.2 (by omega)
theorem zso(h:w.rangeAt T 0 (row 60 (jS t)))(a:∀i,w.frozen? ⟨T,i,none⟩=false):TBox w T t:=⟨λi b=>by have:=jk h b;rwa[Nat.zero_add]at this,a⟩
end
theorem gX(t i:Nat):(jS t i).oneCell'=true:=rfl
def kC(s:Sx.St)(i:Nat):Value:=if i<60 then .int .i64 (Sx.val s i)else .int .i64 s.tk
theorem dZ(s:Sx.St)(i:Nat):(kC s i).oneCell'=true:=by unfold kC;split<;>rfl
variable {w:World}{B:Nat}{s:Sx.St}
theorem VZ{z:Nat}(h:Sx.Ref w B z s):w.rangeAt z 0 (row 61 (kC s)):=vZ λi a=>by
 rw[Nat.zero_add]
 unfold kC
 by_cases e:i<60
 .rw [if_pos e];exact h.cb i e
 .rw [if_neg e]
  obtain rfl:i=60:=by omega
  exact h.ct
theorem fA{b:Nat}(a:Sx.Inv s)(h:w.rangeAt b 0 (row 61 (kC s)))(d:∀i,i<61->w.frozen? ⟨b,i,none⟩=false)(c:B<=b):Sx.Ref w B b s:=by
 have g:∀i,i<61->w.cell? ⟨b,i,none⟩=some (kC s i):=λi a=>by have:=jk h a;rwa[Nat.zero_add]at this
 exact⟨a,λi a=>by have:=g i (by omega);unfold kC at this;rwa[if_pos a]at this,g 60 (by omega),d,c⟩
theorem zo9{z:Nat}(h:Sx.Ref w B z s):w.there z 0 61:=λj a=>by
 have:=jk (VZ h) a
 exact⟨by rw[this];rfl,by rw[Nat.zero_add];exact h.fz j a⟩
theorem zc9{a:Nat}{c:Cx.St}(h:Cx.Obj w B a c):w.there a 0 4:=λj b=>by
 have:=jk (Xr h) b
 refine⟨by rw[this];rfl,?_⟩
 rw[Nat.zero_add]
 match j,b with
 |0,_=>exact h.four.f0
 |1,_=>exact h.four.f1
 |2,_=>exact h.four.f2
 |3,_=>exact h.four.f3
section
variable {w : World} {B eb sb cb : Nat} {vm vc : Value} {us : List Value} {md : List (List Pc)} {e : En}
theorem DO.told_range(h:DO w B eb vm vc sb cb us md e):w.rangeAt eb 1 (row 60 (jS e.t)):=vZ λi a=>by rw[h.cl (1+i) (by omega),Jj a];rfl
end
theorem zvh(W:World):(zeroValue 86).run Tryz.prog W=.ok (.agg (row 60 (jS 0)).toArray) W:=by kernel_rfl
def s0:Sx.St:=⟨λ_=>0,λ_=>true,0⟩
theorem zvd(W:World):(zeroValue 138).run Tryz.prog W=.ok (.agg (row 61 (kC s0)).toArray) W:=by kernel_rfl
theorem zvb(W:World):(zeroValue 85).run Tryz.prog W=.ok (.agg (row 4 (zZ ⟨0,0,0,0⟩)).toArray) W:=by kernel_rfl
theorem Jf(w:World)(n:Nat)(f g:Nat->Value)(a:TypeId):∃W,Hid (W=(w.alloc (.cells (row n g).toArray a)).setCells w.heap.size 0 (row n f))/\(w.alloc (.cells (row n g).toArray a)).there w.heap.size 0 n/\W.rangeAt w.heap.size 0 (row n f)/\(∀i,W.frozen? ⟨w.heap.size,i,none⟩=false)/\Below w.heap.size w W/\w.heap.size<W.heap.size:=by
 have b:=yw w a n g;have d:Off (λk=>k=w.heap.size) w ((w.alloc (.cells (row n g).toArray a)).setCells w.heap.size 0 (row n f)):=((Off.refl (λk=>k=w.heap.size) w).alloc _).trans (wI _ _ _ _);refine⟨_,rfl,b,World.rangeAt_setCells_same _ _ _ _ (by rw[qM];exact b),λi=>by rw[World.frozen?_setCells];exact ZI w _ _ i,d.below (λk c=>by rw[c];exact Nat.le_refl _) (Nat.le_refl _),?_⟩;have:=(wI w.heap.size (row n f) 0 (w.alloc (.cells (row n g).toArray a))).size
 rw[World.size_alloc]at this;omega
structure DT(W wr:World)(B T S C:Nat)(e:En):Prop where
 tb:TBox wr T e.t
 st:Sx.Ref wr B S e.s
 cr:Cx.Obj wr B C e.c
 off:Off (λk=>k=T\/k=S\/k=C) W wr
 ne:T≠S/\T≠C/\S≠C
section
variable {W wr wx : World} {B T S C : Nat} {e : En}
theorem DT.below(h:DT W wr B T S C e)(a:Below wr.heap.size wr wx):DT W wx B T S C e:=⟨h.tb.below a,h.st.below a,h.cr.below a,h.off.trans (Off.of_below a),h.ne⟩
theorem DT.told{t:Nat}(h:DT W wr B T S C e)(c:TBox wx T t)(a:Off (λk=>k=T) wr wx):DT W wx B T S C {e with t:=t}:=
 ⟨c,h.st.off a (λe=>h.ne.1 e.symm),h.cr.off a (λe=>h.ne.2.1 e.symm),h.off.trans (a.mono λk _ b=>.inl b),h.ne⟩
end
def yE(l:List Pc):Nat:=match l.getLast? with
 |none=>0
 |some p=>p.1+p.2.size
theorem Y5{d:ByteArray}{a b:Nat}(g:b<=d.size)(h:a<b\/(a=0/\b=0))(i:b<=60):yE (z8 d b 3 a)=b:=by
 by_cases j:a<b;have c:=VF (d:=d) (b:=b) 3 a (by omega) (by omega);have k:(z8 d b 3 a).length≠0:=λe=>by rw[e]at c;omega
 unfold yE;rw[List.getLast?_eq_getElem?];obtain⟨p,f⟩:∃p,(z8 d b 3 a)[(z8 d b 3 a).length-1]? =some p:=⟨_,List.getElem?_eq_getElem (by omega)⟩;rw[f];have:=VH g 3 a _ p f;simp only;rw[this.2,show(z8 d b 3 a).length-1+1=(z8 d b 3 a).length by omega,c];obtain ⟨rfl,rfl⟩:a=0/\b=0:=by omega
 simp[z8,yE]
theorem dH{d:ByteArray}{b:Nat}:∀(k a j:Nat) (p:Pc),(z8 d b k a)[j]? =some p->p.1<b
 |0,a,j,p,h=>by simp[z8]at h
 |k+1,a,j,p,h=>by
  by_cases c:a<b
  .have e:z8 d b (k+1) a=(a,d.extract a (min b (a+20)))::z8 d b k (min b (a+20)):=by simp only[z8];rw[if_pos c]
   rw[e]at h
   cases j with
   |zero=>
    rw[List.getElem?_cons_zero]at h
    injection h with h
    subst h
    exact c
   |succ j=>
    rw[List.getElem?_cons_succ]at h
    exact dH k _ j p h
  .simp only[z8]at h
   rw[if_neg c]at h
   simp at h
theorem zs3{G:List Ld}{t:Nat}{a:List R}{k:Nat}(h:k<a.length):tells G t (a.take (k+1))=qy G (tells G t (a.take k)) (at' a k):=by
 have e:a.take (k+1)=a.take k++[at' a k]:=by
  rw[List.take_succ_eq_append_getElem h];simp[at',h]
 rw[e];simp[tells,List.foldl_append]
theorem zaj{b:List R}(n:Good b){j d:Int}(g:at' b 0=(j,d)){k m:Nat}(p:k<b.length)(t:d<(m:Int)):∃i h:Nat,at' b k=((i:Int),(h:Int))/\i<=h/\h<m:=by
 obtain⟨s,l,h3⟩:=n;have hmem:at' b k∈b:=by
  have:b[k]? =some (at' b k):=by simp[at',p]
  exact List.mem_of_getElem? this
 have hb:=l _ hmem;have hle:=kG h3 _ hmem;have htop:(at' b k).2<=d:=by
  match b,g,h3,hmem with
  |r::u,g,h3,hmem=>
   have e:r=(j,d):=by simpa[at']using g
   subst e;rcases List.mem_cons.1 hmem with f|f;rw [f];exact Int.le_refl _;have a:=h3.2.1 _ f;have c:=h3.1;simp only at a c;omega
 obtain⟨x,y,q⟩:∃x y,at' b k=(x,y):=⟨_,_,rfl⟩;rw[q]at hb hle htop |-;simp only at hb hle htop;exact⟨x.toNat,y.toNat,by simp only[Prod.mk.injEq];omega,by omega,by omega⟩
def yT(t a b j:Nat):Nat:=max t (min b (a+20*j))
theorem zsz{t a b:Nat}(h:a<=t):yT t a b 0=t:=by unfold yT;omega
section
variable {w : World} {B eb sb cb : Nat} {vm vc : Value} {us : List Value} {md : List (List Pc)} {e : En}
theorem DO.load(h:DO w B eb vm vc sb cb us md e){m:Nat}(j:m<e.m):∃a b,pat md m=z8 e.d b 3 a/\(a<b\/(a=0/\b=0))/\a<=e.t/\b<=en e/\yE (pat md m)=b/\min b (a+20*(pat md m).length)=b:=by
 obtain⟨x,d,g,i⟩:=h.mds.all m j;obtain⟨_,f,k,l⟩:=h.inv.ls x d;have c:=h.mds.each x d m g i;have p:=ky e;have n:=h.inv.en60;refine⟨x.a,x.b,c,f,k,l,?_,?_⟩;rw [c];exact Y5 (by omega) f (by omega);rw [c];exact VF 3 x.a (by omega) (by omega)
theorem DO.tellM(h:DO w B eb vm vc sb cb us md e){b a:Nat}(i:b<=a)(g:a<e.m)(t:Nat):tellM (λj=>yE (pat md j)) t b (a+1-b)=qy e.ls t ((b:Int),(a:Int)):=by
 refine zsy g i (λx c j d f=>?_) h.mds.all h.mds.low;obtain⟨_,k,_,n⟩:=h.inv.ls x c;have m:=ky e;have l:=h.inv.en60;show yE (pat md j)=x.b;rw[h.mds.each x c j d f];exact Y5 (by omega) k (by omega)
theorem DO.made_at(h:DO w B eb vm vc sb cb us md e){m:Nat}(u:m<e.m):∃g c b f,vm=.slice (some ⟨g,0,none⟩) e.m c/\g<w.heap.size/\w.cell? ⟨g,m,none⟩=some (.slice b (pat md m).length f)/\(∀j p,(pat md m)[j]? =some p->∃a,b=some ⟨a,0,none⟩/\a<w.heap.size/\w.cell? ⟨a,j*2,none⟩=some (.int .i64 (p.1:Int))/\w.cell? ⟨a,j*2+1,none⟩=some (.string p.2)):=by
 have n:=h.ul;have d:m<us.length:=by omega
 obtain⟨g,c,k⟩:=Kw h.rm (by omega);obtain⟨b,f,hu⟩:=qL (h.ru m d);refine⟨g,c,b,f,by rw[k,n],(h.rm.lt g (by rw[k];rfl)).2,?_,λj p l=>?_⟩;have:=h.rm.cells (g:=g) (by rw[k];rfl) m (xI us m) (by simp[xI,d]);rw[Addr.add_lit,Nat.zero_add]at this;rw[this,hu];have t:=(List.getElem?_eq_some_iff.1 l).1;obtain⟨a,s,hu'⟩:=Kw (h.ru m d) (by omega);rw[hu]at hu';injection hu' with e1 e2 e3;subst e1;have i:=h.ru m d;obtain⟨q,r⟩:=zmq l;have c0:=i.cells (g:=a) (by rw[hu];rfl) _ _ q;have c1:=i.cells (g:=a) (by rw[hu];rfl) _ _ r;rw[Addr.add_lit,Nat.zero_add]at c0 c1;exact⟨a,rfl,(i.lt a (by rw[hu];rfl)).2,c0,c1⟩
end
variable {w:World}
theorem dX{K:Nat->Prop}{E:World}{b o:Nat}{a:List Value}(h:w.rangeAt b o a)(d:Off K w E)(c:¬K b):E.rangeAt b o a:=λj v e=>d.cell (h j v e) c
theorem iQ{c:Oper}{a:Act}{K:Act->World->Prop}{Q:Exit->Act->World->Prop}{n:Nat}{f:Nat->Value}{ty:TypeId}(x:Operand)(l:c.op=.load ty x)(b o:Nat)(p:a.eval x=.pointer (some ⟨b,o,none⟩))(j:w.rangeAt b o (row n f))(m:(Tryz.prog.underlying ty).map (·.isRow)=some true)(k:(Tryz.prog.info? ty).map (·.size)=some n)(h:K (a.put c.dst (.agg (row n f).toArray)) w):c.wp Tryz.prog a w K Q:=by
 obtain⟨d,e,g,i⟩:=QK ty n m k f;exact wp_load_mid ty x l b o p (row n f) d j e g i h
theorem iR{c:Oper}{a:Act}{W:World}{K:Act->World->Prop}{Q:Exit->Act->World->Prop}{n:Nat}{f:Nat->Value}{ty:TypeId}(x y:Operand)(k:c.op=.store ty x y)(b o:Nat)(m:a.eval x=.pointer (some ⟨b,o,none⟩))(p:a.eval y=.agg (row n f).toArray)(l:w.there b o n)(j:(Tryz.prog.info? ty).map (·.size)=some n)(d:∀i,(f i).oneCell'=true)(g:Hid (W=w.setCells b o (row n f)))(h:K (a.put c.dst undef) W):c.wp Tryz.prog a w K Q:=
 wp_store_mid ty x y k b o (row n f).toArray m p (by simpa[qM]using l) (by simpa[qM]using j) (row_one λi _=>d i) (by
  have e:w.setCells b o (row n f).toArray.toList=W:=by rw[g.out]
  rw[e];exact h)
theorem Mds.same{e e2:En}{Z:List (List Pc)}(h:Mds e Z)(f:e2.d=e.d)(b:e2.m=e.m)(a:e2.ls=e.ls):Mds e2 Z:=
 ⟨h.len.trans b.symm,λx hx j c d=>by rw[f];rw[a]at hx;exact h.each x hx j c d,λj g=>by rw[a];exact h.all j (by omega),λx hx=>by rw[a]at hx;rw[b];exact h.lst x hx,λx hx=>by rw[a]at hx;exact h.low x hx⟩
section
variable {w W6 : World} {B eb sb cb : Nat} {vm vc v' : Value} {us : List Value} {md : List (List Pc)} {e e' : En} {cm : List R}
theorem DO.there_told(h:DO w B eb vm vc sb cb us md e):w.there eb 1 60:=λj a=>⟨by rw[h.cl (1+j) (by omega)];rfl,h.fz _⟩
theorem Qx{t i:Nat}(a:i=0\/61<=i):(w.setCells eb 1 (row 60 (jS t))).cell? ⟨eb,i,none⟩=w.cell? ⟨eb,i,none⟩:=by
 refine World.cell?_setCells_out eb _ _ _ _ (λ_ _=>?_);rw[qM];show i<1\/1+60<=i;omega
theorem YG(h:DO w B eb vm vc sb cb us md e){t:Nat}(a:W6=w.setCells eb 1 (row 60 (jS t))):W6.cell? ⟨eb,61,none⟩=some (.int .i64 e.l)/\W6.cell? ⟨eb,63,none⟩=some (.int .i64 e.k)/\W6.cell? ⟨eb,64,none⟩=some vc/\W6.frozen? ⟨eb,61,none⟩=false/\W6.frozen? ⟨eb,63,none⟩=false/\W6.frozen? ⟨eb,64,none⟩=false:=by
 subst a;refine⟨(Qx (by omega)).trans (h.cl 61 (by omega)),(Qx (by omega)).trans (h.cl 63 (by omega)),(Qx (by omega)).trans (h.cl 64 (by omega)),?_,?_,?_⟩<;>rw[World.frozen?_setCells]<;>exact h.fz _
theorem zdq(h:DO w B eb vm vc sb cb us md e)(d:W6=w.setCells eb 1 (row 60 (jS e'.t)))(hd:e'.d=e.d){c:World}(q:c=((W6.setCell ⟨eb,61,none⟩ (.int .i64 e'.l)).setCell ⟨eb,63,none⟩ (.int .i64 e'.k)).setCell ⟨eb,64,none⟩ v'):(∀i,i<67->c.cell? ⟨eb,i,none⟩=some (xq {e' with cm:=cm} vm v' sb cb i))/\(∀i,c.frozen? ⟨eb,i,none⟩=false)/\Off (λk=>k=eb) w c:=by
 obtain⟨m,n,p,_⟩:=YG h d;have b:∀(X:World) (i j:Nat) (u:Value),i≠j->(X.setCell ⟨eb,j,none⟩ u).cell? ⟨eb,i,none⟩=X.cell? ⟨eb,i,none⟩:=λX i j u s=>World.cell?_setCell_other _ _ _ _ (λe2=>by injection e2 with _ e2 _;exact s e2.symm);subst q;refine⟨λi r=>?_,λi=>?_,?_⟩;by_cases l:i=64;subst l;exact World.cell?_setCell_same _ _ _ ((b _ _ _ _ (by omega)).trans ((b _ _ _ _ (by omega)).trans p));by_cases g:i=63;subst g;rw[b _ _ _ _ (by omega)];exact World.cell?_setCell_same _ _ _ ((b _ _ _ _ (by omega)).trans n);by_cases f:i=61;subst f;rw[b _ _ _ _ (by omega),b _ _ _ _ (by omega)];exact World.cell?_setCell_same _ _ _ m;rw[b _ _ _ _ l,b _ _ _ _ g,b _ _ _ _ f,d];by_cases v:1<=i/\i<61
 have:=jk (World.rangeAt_setCells_same w eb 1 (row 60 (jS e'.t)) (by rw[qM];exact h.there_told)) (i:=i-1) (by omega);rw[show 1+(i-1)=i by omega]at this;rw[this];have hd:=Jj (e:={e' with cm:=cm}) (vm:=vm) (vc:=v') (sb:=sb) (cb:=cb) (i:=i-1) (by omega);rw[show 1+(i-1)=i by omega]at hd;rw[hd];rfl;rw [Qx (by omega),h.cl i r];congr 1
 rcases(show i=0\/i=62\/i=65\/i=66 by omega)with rfl|rfl|rfl|rfl;rw [QH,QH];simp only[hd];rw [QI,QI];rw [XF,XF];rw [QJ,QJ];simp only[World.frozen?_setCell];rw[d,World.frozen?_setCells];exact h.fz i;have t:Off (λk=>k=eb) w W6:=by rw[d];exact wI eb _ _ _
 exact((t.setCell (a:=⟨eb,61,none⟩) rfl _).setCell (a:=⟨eb,63,none⟩) rfl _).setCell (a:=⟨eb,64,none⟩) rfl _
theorem zdr{b f c:World}{d:Nat}(h:DO w B eb vm vc sb cb us md e)(z:Mds {e' with cm:=cm} md)(Q:EInv {e' with cm:=cm})(V:e'.m=e.m)(m:∀i,i<67->b.cell? ⟨eb,i,none⟩=some (xq {e' with cm:=cm} vm v' sb cb i))(F:∀i,b.frozen? ⟨eb,i,none⟩=false)(A:Off (λk=>k=eb) w b)
  (s:w.ownsRow d 143 2 v' cm.length (flat cm)) (x:B<=d) (l:∀k,vo eb vm vc sb cb us k->k<d) (C:Sx.Ref f B sb e'.s) (r:Off (λk=>k=sb) b f) (y:Cx.Obj c B cb e'.c) (g:Off (λk=>k=cb) f c):
  DO c B eb vm v' sb cb us md {e' with cm:=cm}/\Off (λk=>k=eb\/k=sb\/k=cb) w c:=by
 have o:Off (λk=>k=eb\/k=sb\/k=cb) w c:=((A.mono λk _ a=>.inl a).trans (r.mono λk _ a=>.inr (.inl a))).trans (g.mono λk _ a=>.inr (.inr a));have v:Off (λk=>k=sb\/k=cb) b c:=(r.mono λk _ a=>.inl a).trans (g.mono λk _ a=>.inr a);have u:¬(eb=sb\/eb=cb):=by have:=h.ap;omega
 have U:eb<b.heap.size:=World.block_lt_of_cell? b _ (m 0 (by omega));have t:∀k,v'.ownBlock=some k->d<=k:=λk a=>(s.lt k a).1;have D:=l eb (.inl rfl);have E:=l sb (.inr (.inl rfl));have G:=l cb (.inr (.inr (.inl rfl)));refine⟨⟨Q,z,λi P=>v.cell (m i P) u,λi=>(v.frozen (p:=⟨eb,i,none⟩) U u).trans (F i),h.hs,C.off g h.ap.2.2,y,o.row h.rm λk a q=>?_,h.ul.trans V.symm,λj n=>o.row (h.ru j n) λk a q=>?_,jE (o.row s λk a q=>?_) x,h.ap,λk a=>?_⟩,o⟩
 have:=h.am k (.inl a);omega;have:=h.am k (.inr (.inr ⟨j,n,a⟩));omega;have:=t k a;omega;rcases a with a|a|a;exact h.am k (.inl a);have:=t k a;exact⟨by omega,by omega,by omega⟩;exact h.am k (.inr (.inr a))
end
end Go.Proofs.YtdokgalidhmbbaaGreatDoor
namespace Go.Proofs.YtdokgalidhmbbaaGreatDoor
open Go.RowKit Go.Lib Go.Sort
variable {v:Value}{n:Int}{w:World}
theorem zao{a:List R}(h:Row w v a)(b:xC a=0)(f:qC n=true)(j:12<(qU a n).length):Cl 135 #[v,.int .i64 n] w (.tuple #[.slice none 0 0,.bool false,zN 4]):=
 (WL v a n w h b f).mono λe E ⟨l,c,d,_,g,hc⟩=>by
  have:=WK b c d
  subst this
  rcases hc with⟨_,i⟩|⟨k,_⟩
  .exact ⟨i,g⟩
  .omega
theorem zan{a:List R}(h:Row w v a)(c:xC a=0)(g:qC n=true)(l:(qU a n).length<=12):Calls Tryz.prog 135 #[v,.int .i64 n] w λe E=>∃b,e=.returned (.tuple #[b,.bool (!xD a n),.nilIface])/\E.ownsRow w.heap.size 143 2 b (qU a n).length (flat (qU a n))/\Below w.heap.size w E:=
 (WL v a n w h c g).mono λe E ⟨p,d,f,_,i,hc⟩=>by
  have:=WK c d f
  subst this
  rcases hc with⟨m,_⟩|⟨_,b,k,j⟩
  .omega
  .exact ⟨b,j,k,i⟩
variable {i:Nat}
theorem zfk{e:En}{cm:List R}{C A a:Value}(h:i<250):zM {e with cm:=cm} C a i=zM e C A i:=by
 unfold zM;simp only[h,if_true]
theorem zok{B z:Nat}(h:Sx.Obj w B z Sx.qE):w.rangeAt z 0 (row 121 (zY Sx.qE)):=λj v b=>by
 obtain⟨d,rfl⟩:=JC b
 rw[Nat.zero_add]
 by_cases a:j<60
 .rw [Qb a];exact h.cb j a
 .by_cases c:j<120
  .have:=h.cc (j-60) (by omega)
   rw[show 60+(j-60)=j by omega]at this
   rw[this]
   have:=Qc (s:=Sx.qE) (i:=j-60) (by omega)
   rw[show 60+(j-60)=j by omega]at this
   rw[this]
  .obtain rfl:j=120:=by omega
   exact h.ct
theorem zb4(n:Int)(w:World):(Instr.build 104 #[(3,.int .i64 n),(5,.int .i64 (-1)),(7,.agg (row 121 (zY Sx.qE)).toArray),(8,.agg #[.int .i64 n,.int .i64 n,.int .i64 0,.int .i64 0])]).run Tryz.prog w=.ok (.agg (row 251 (zM (zi n) (.slice none 0 0) (.slice none 0 0))).toArray) w:=by kernel_rfl
theorem step_end{b:Array Oper}{o:Oper}{a:Act}{K:Act->World->Prop}{Q:Exit->Act->World->Prop}{E:Prop}{L:Array Value}{u:Value}(e:o.guard=none)(x y z:Operand)(f:o.op=.build 104 #[(3,x),(5,.const (.int .i64 (-1))),(7,y),(8,z)])(i:a.eval x=.int .i64 n)(j:a.eval y=u)(k:a.eval z=v)
  (c:∀W:World,(Instr.build 104 #[(3,.int .i64 n),(5,.int .i64 (-1)),(7,u),(8,v)]).run Tryz.prog W=.ok (.agg L) W) (h:K (a.put o.dst (.agg L)) w):
  if Region.wanted o (yielded b a.tmps)=true then Oper.wp Tryz.prog o a w K Q else E:=by
 have g:Region.wanted o (yielded b a.tmps)=true:=by simp[Region.wanted,e]
 have d:a.eval (.const (.int .i64 (-1)))=.int .i64 (-1):=rfl;rw[if_pos g];unfold Oper.wp execOp;simp only[f,List.map_toArray,List.map_cons,List.map_nil,i,j,k,d,Sem.run_bind,c,Result.andThen_ok,Sem.run_pure];exact h
theorem zr6:∃d,Tryz.prog.underlying 100=some d/\d.isRow=true/\(Tryz.prog.info? 100).map (·.size)=some (row 121 (zY Sx.qE)).length:=by
 have h:(Tryz.prog.underlying 100).map (·.isRow)=some true:=by kernel_rfl
 cases a:Tryz.prog.underlying 100 with
 |none=>rw[a]at h;cases h
 |some d=>
  rw[a]at h;exact⟨d,rfl,by simpa using h,by rw[qM];kernel_rfl⟩
theorem Xf(n:Int)(w:World)(h:Cx.vL n=true):Calls Tryz.prog 47 #[.int .i64 n] w λF E=>∃V,F=.returned (.tuple #[.pointer (some ⟨V,0,none⟩),.nilIface])/\EO E w.heap.size V (.slice none 0 0) (.slice none 0 0) (zi n)/\Below w.heap.size w E:=by
 have U:=Cx.Xf n w h;have O:=zC h;obtain⟨t,G,D,C⟩:=zr6;have N:Hid (Tryz.prog.underlying 100=some t):=G;have M:Hid (t.isRow=true):=D;have J:Hid ((Tryz.prog.info? 100).map (·.size)=some (row 121 (zY Sx.qE)).length):=C;obtain⟨L,P⟩:∃L,(row 251 (zM (zi n) (.slice none 0 0) (.slice none 0 0))).toArray=L:=⟨_,rfl⟩;have I:Hid ((row 251 (zM (zi n) (.slice none 0 0) (.slice none 0 0))).toArray=L):=P;have hbe:=λW=>zb4 n W
 rw[P]at hbe;have H:Hid (∀W:World,(Instr.build 104 #[(3,.int .i64 n),(5,.int .i64 (-1)),(7,.agg (row 121 (zY Sx.qE)).toArray),(8,.agg #[.int .i64 n,.int .i64 n,.int .i64 0,.int .i64 0])]).run Tryz.prog W=.ok (.agg L) W):=hbe;clear h G D C P hbe;go_enter Tryz.func47,Tryz.ntmps47
 go_wp2_with (go_at_call 67;refine U.mono ?_;rintro F f ⟨rfl,r,Q⟩);have d0:f.drew.cell? ⟨w.heap.size,0,none⟩=some (.int .i64 n):=r.four.c0;have d1:f.drew.cell? ⟨w.heap.size,1,none⟩=some (.int .i64 n):=r.four.c1;have d2:f.drew.cell? ⟨w.heap.size,2,none⟩=some (.int .i64 0):=r.four.c2;have d3:f.drew.cell? ⟨w.heap.size,3,none⟩=some (.int .i64 0):=r.four.c3;have hcbd:w.heap.size<f.drew.heap.size:=World.block_lt_of_cell? _ _ d0
 obtain⟨b,A⟩:∃b,w.heap.size=b:=⟨_,rfl⟩;rw[A]at d0 d1 d2 d3 hcbd;clear U r;rw[A];refine wp_region_noPanic ?_;refine wp_region_held_drew (S:=λE=>E.cell? ⟨b,0,none⟩=some (.int .i64 n)/\E.cell? ⟨b,1,none⟩=some (.int .i64 n)/\E.cell? ⟨b,2,none⟩=some (.int .i64 0)/\E.cell? ⟨b,3,none⟩=some (.int .i64 0)) (by kernel_rfl) ⟨d0,d1,d2,d3⟩ (λd=>?_);refine zI 0 (.int .i64 n) rfl (by kernel_rfl) rfl (by assumption) ?_ ?_
 .intro q a;obtain⟨g,j,l,m⟩:=a;go_simp
 try simp only[Act.put,zD,zF,zG]
 refine zI 4 (.pointer (some ⟨b,0,none⟩)) rfl (by kernel_rfl) rfl (by assumption) ?_ ?_;.intro q a;obtain⟨g,j,l,m⟩:=a;go_simp
 try simp only[Act.put,zD,zF,zG]
 refine zI 5 (.pointer (some ⟨b,0,none⟩)) rfl (by kernel_rfl) rfl (by assumption) ?_ ?_;.intro q a;obtain⟨g,j,l,m⟩:=a;go_simp
 try simp only[Act.put,zD,zF,zG]
 refine zI 6 (.agg #[.int .i64 n,.int .i64 n,.int .i64 0,.int .i64 0]) rfl (by kernel_rfl) rfl (by assumption) ?_ ?_;.intro q a;obtain⟨g,j,l,m⟩:=a;go_simp
 try simp only[Act.put,zD,zF,zG]
 refine wpAnyH_ready (rs:=[1]) (by kernel_rfl) (by simp) ?_;refine AllReadyH.cons (o:= ⟨some 15,.call {callee:=.value (.func 68),args:=#[],argTypes:=#[]},159,"end.go:55",#[],none⟩) rfl (λK c=>?_) AllReadyH.nil;go_simp;refine(Sx.Ki _).mono ?_;rintro F s ⟨rfl,R,e⟩;have u:=(e.cell (p:=⟨b,0,none⟩) hcbd).trans d.1;have x:=(e.cell (p:=⟨b,1,none⟩) hcbd).trans d.2.1;have y:=(e.cell (p:=⟨b,2,none⟩) hcbd).trans d.2.2.1
 have B:=(e.cell (p:=⟨b,3,none⟩) hcbd).trans d.2.2.2;refine c.out _ _ ⟨u,x,y,B⟩ (λd=>?_);clear c K;try simp only[Act.put,zD,zF,zG]
 refine zI 2 (.pointer (some ⟨f.drew.heap.size,0,none⟩)) rfl (by kernel_rfl) rfl (by assumption) ?_ ?_;.intro q a;obtain⟨g,j,l,m⟩:=a;go_simp
 try simp only[Act.put,zD,zF,zG]
 refine wpAnyH_ready (rs:=[3]) (by kernel_rfl) (by simp) ?_;refine AllReadyH.cons (o:= ⟨some 17,.load 100 (.tmp 16),100,"end.go:55",#[⟨2,.data⟩],none⟩) rfl (λK c=>?_) AllReadyH.nil;rw[if_pos (by rfl)];refine wp_load_mid 100 (.tmp 16) rfl f.drew.heap.size 0 rfl (row 121 (zY Sx.qE)) t (zok R) N.out M.out J.out ?_;refine c.out _ _ d (λd=>?_);clear c K;try simp only[Act.put,zD,zF,zG]
 refine wpAnyH_ready (rs:=[7]) (by kernel_rfl) (by simp) ?_;refine AllReadyH.cons (o:= ⟨some 21,.build 104 #[(3,.tmp 14),(5,.const (Value.int IntKind.i64 (-1))),(7,.tmp 17),(8,.tmp 20)],104,"end.go:55",#[⟨0,.data⟩,⟨3,.data⟩,⟨6,.data⟩],none⟩) rfl (λK c=>?_) AllReadyH.nil;refine step_end rfl (.tmp 14) (.tmp 17) (.tmp 20) rfl (by rfl) (by rfl) (by rfl) H.out ?_;refine c.out _ _ d (λd=>?_);clear c K;try simp only[Act.put,zD,zF,zG]
 refine wpAnyH_ready (rs:=[8]) (by kernel_rfl) (by simp) ?_;refine AllReadyH.cons (o:= ⟨some 22,.box 104 (.tmp 21),108,"end.go:55",#[⟨7,.data⟩],none⟩) rfl (λK c=>?_) AllReadyH.nil;go_simp;refine c.out _ _ ⟨(World.cell?_alloc_lt _ _ _ (World.block_lt_of_cell? _ _ u)).trans u,(World.cell?_alloc_lt _ _ _ (World.block_lt_of_cell? _ _ x)).trans x,(World.cell?_alloc_lt _ _ _ (World.block_lt_of_cell? _ _ y)).trans y,(World.cell?_alloc_lt _ _ _ (World.block_lt_of_cell? _ _ B)).trans B⟩ (λd=>?_)
 clear c K;try simp only[Act.put,zD,zF,zG]
 refine zI 9 (.pointer (some ⟨s.heap.size,0,none⟩)) rfl (by kernel_rfl) rfl (by assumption) ?_ ?_;.intro q a;obtain⟨g,j,l,m⟩:=a;go_simp
 try simp only[Act.put,zD,zF,zG]
 refine zI 10 (.nilIface) rfl (by kernel_rfl) rfl (by assumption) ?_ ?_;.intro q a;obtain⟨g,j,l,m⟩:=a;go_simp
 try simp only[Act.put,zD,zF,zG]
 refine wpAnyH_done (by kernel_rfl) (NoPanic.normal ?_) _;go_wp2_with fail;go_ret2
 refine⟨s.heap.size,rfl,?_,?_⟩;have X:w.heap.size<=s.heap.size:=Nat.le_trans Q.size e.size;have:=EO.new O.out s X;rw[I.out]at this;exact this;have z:Below w.heap.size w s:=Q.trans (⟨e.os,e.tape,e.output,e.size,λk T=>e.block k (Nat.lt_of_lt_of_le T Q.size)⟩);exact z.alloc z.size _
structure Tv where
 la:Value
 ca:Value
 lb:Value
 cb:Value
 v:Value
def ku(s:Tt)(u:Tv)(i:Nat):Value:=if i<251 then zM s.a u.la u.ca i else if i<502 then zM s.b u.lb u.cb (i-251)else u.v
theorem Vr{s:Tt}{u:Tv}(h:i<251):ku s u i=zM s.a u.la u.ca i:=if_pos h
theorem Vs{s:Tt}{u:Tv}(a:251<=i)(h:i<502):ku s u i=zM s.b u.lb u.cb (i-251):=by
 unfold ku;rw[if_neg (by omega),if_pos h]
def qi(H:Nat)(u:Tv)(k:Nat):Prop:=k=H\/u.la.ownBlock=some k\/u.ca.ownBlock=some k\/u.lb.ownBlock=some k\/u.cb.ownBlock=some k\/u.v.ownBlock=some k
structure TO(w:World)(B tb:Nat)(u:Tv)(s:Tt):Prop where
 ia:EInv s.a
 ib:EInv s.b
 il:Lk.Inv s.ls
 cl:∀i,i<503->w.cell? ⟨tb,i,none⟩=some (ku s u i)
 fz:∀i,w.frozen? ⟨tb,i,none⟩=false
 hs:B<=tb
 la:w.ownsRow B 241 62 u.la s.a.ls.length (qf s.a.ls)
 ca:w.ownsRow B 143 2 u.ca s.a.cm.length (flat s.a.cm)
 lb:w.ownsRow B 241 62 u.lb s.b.ls.length (qf s.b.ls)
 cb:w.ownsRow B 143 2 u.cb s.b.cm.length (flat s.b.cm)
 lv:w.ownsRow B 212 2 u.v s.ls.length (Lk.flat s.ls)
 ap:u.la.ownBlock≠some tb/\u.ca.ownBlock≠some tb/\u.lb.ownBlock≠some tb/\u.cb.ownBlock≠some tb/\u.v.ownBlock≠some tb
 dl:∀k,u.la.ownBlock=some k->u.lb.ownBlock≠some k
 dc:∀k,u.ca.ownBlock=some k->u.cb.ownBlock≠some k
theorem yQ{B b n m t a z j:Nat}{u:Value}{K i:List Value}(h:w.ownsRow B t z u n K)(d:w.ownsRow b a j v m i)(f:t≠a):∀k,v.ownBlock=some k->u.ownBlock≠some k:=by
 intro k hk hu;rcases h.2 with⟨rfl,_⟩|⟨g,l,q,rfl,_,hg,_⟩;cases hu;rcases d.2 with⟨rfl,_⟩|⟨c,p,r,rfl,_,hg',_⟩;cases hk;obtain rfl:g=k:=by simpa[Value.ownBlock]using hu
 obtain rfl:c=g:=by simpa[Value.ownBlock]using hk
 rw[hg]at hg';injection hg' with hg';injection hg' with _ e _;exact f e
section
variable {w w' : World} {B tb : Nat} {u : Tv} {s : Tt}
theorem TO.lt(h:TO w B tb u s):tb<w.heap.size:=World.block_lt_of_cell? w _ (h.cl 60 (by omega))
theorem TO.own_lt(h:TO w B tb u s){k:Nat}(a:qi tb u k):B<=k/\k<w.heap.size:=by
 rcases a with rfl|a|a|a|a|a;exact ⟨h.hs,h.lt⟩;exact h.la.lt k a;exact h.ca.lt k a;exact h.lb.lt k a;exact h.cb.lt k a;exact h.lv.lt k a
theorem TO.le(h:TO w B tb u s):B<=w.heap.size:=by have:=h.hs;have:=h.lt;omega
theorem TO.off{K:Nat->Prop}(h:TO w B tb u s)(c:Off K w w')(b:∀k,qi tb u k->¬K k):TO w' B tb u s:=
 ⟨h.ia,h.ib,h.il,λi d=>c.cell (h.cl i d) (b tb (.inl rfl)),λi=>(c.frozen (p:=⟨tb,i,none⟩) h.lt (b tb (.inl rfl))).trans (h.fz i),h.hs,
  c.row h.la λk a=>b k (.inr (.inl a)),c.row h.ca λk a=>b k (.inr (.inr (.inl a))),c.row h.lb λk a=>b k (.inr (.inr (.inr (.inl a)))),c.row h.cb λk a=>b k (.inr (.inr (.inr (.inr (.inl a))))),c.row h.lv λk a=>b k (.inr (.inr (.inr (.inr (.inr a))))),h.ap,h.dl,h.dc⟩
theorem TO.below(h:TO w B tb u s)(a:Below w.heap.size w w'):TO w' B tb u s:=h.off (Off.of_below (K:=λ_=>False) a) λ_ _=>id
theorem TO.base(h:TO w B tb u s){b:Nat}(a:b<=B):TO w b tb u s:=
 ⟨h.ia,h.ib,h.il,h.cl,h.fz,Nat.le_trans a h.hs,jE h.la a,jE h.ca a,jE h.lb a,jE h.cb a,jE h.lv a,h.ap,h.dl,h.dc⟩
theorem TO.a(h:TO w B tb u s):Ez.EP 0 (λi=>w.cell? ⟨tb,i,none⟩) w B tb u.la u.ca s.a:=
 ⟨h.ia,λi a=>by rw[Nat.zero_add,h.cl i (by omega),Vr a],h.fz,λ_ _=>rfl,h.hs,h.la,h.ca,h.ap.1,h.ap.2.1⟩
theorem TO.b(h:TO w B tb u s):Ez.EP 251 (λi=>w.cell? ⟨tb,i,none⟩) w B tb u.lb u.cb s.b:=
 ⟨h.ib,λi a=>by rw[h.cl _ (by omega),Vs (by omega) (by omega),show 251+i-251=i by omega],h.fz,λ_ _=>rfl,h.hs,h.lb,h.cb,h.ap.2.2.1,h.ap.2.2.2.1⟩
theorem TO.l(h:TO w B tb u s):Lk.Lnk (λi=>w.cell? ⟨tb,i,none⟩) w 212 502 B tb u.v s.ls:=
 ⟨h.il,h.cl 502 (by omega),h.fz 502,h.lv,h.hs,λk a e=>h.ap.2.2.2.2 (by rw[<-e];exact a),λ_ _=>rfl,h.fz⟩
end
def TTurn(w E:World)(B H:Nat)(u:Tv)(s:Tt):Prop:=
 ∃a,TO E B H a s/\Off (qi H u) w E/\∀k,qi H a k->qi H u k\/w.heap.size<=k
section
variable {w w' w2 : World} {B tb : Nat} {u : Tv} {s s' : Tt}
theorem TTurn.below(h:TO w B tb u s)(a:Below w.heap.size w w'):TTurn w w' B tb u s:=⟨u,h.below a,Off.of_below a,λ_ b=>.inl b⟩
theorem TTurn.same(h:TO w B tb u s):TTurn w w B tb u s:=⟨u,h,Off.refl _ _,λ_ a=>.inl a⟩
theorem TTurn.drew(h:TTurn w.drew w' B tb u s):TTurn w w' B tb u s:=by
 obtain⟨d,a,b,c⟩:=h;exact⟨d,a,((Off.refl _ w).drew).trans b,c⟩
theorem TTurn.trans{c:Tv}(n:TO w' B tb c s)(a:Off (qi tb u) w w')(d:∀k,qi tb c k->qi tb u k\/w.heap.size<=k)(i:TTurn w' w2 B tb c s'):TTurn w w2 B tb u s':=by
 obtain⟨m,l,b,j⟩:=i;refine⟨m,l,?_,λk h=>?_⟩;refine ⟨b.os.trans a.os,b.tape.trans a.tape,b.output.trans a.output,Nat.le_trans a.size b.size,λk f g=>?_⟩;rw[b.block k (Nat.lt_of_lt_of_le f a.size) (λe=>?_),a.block k f g];rcases d k e with h|h;exact g h;.omega
 rcases j k h with h|h;exact d k h;exact .inr (Nat.le_trans a.size h)
theorem TTurn.a{e:En}(h:TO w B tb u s)(t:Ez.TurnP 0 (λi=>w.cell? ⟨tb,i,none⟩) w w' B tb u.la u.ca e):TTurn w w' B tb u {s with a:=e}:=by
 obtain⟨C,A,c,m,n⟩:=t;have p:∀k,u.lb.ownBlock=some k->¬qz tb u.la u.ca k:=λk b l=>by
  rcases l with e|e|e;exact h.ap.2.2.1 (by rw[<-e];exact b);exact h.dl k e b;exact yQ h.lb h.ca (by decide) k e b
 have q:∀k,u.cb.ownBlock=some k->¬qz tb u.la u.ca k:=λk b l=>by
  rcases l with e|e|e;exact h.ap.2.2.2.1 (by rw[<-e];exact b);exact yQ h.cb h.la (by decide) k e b;exact h.dc k e b
 have v:∀k,u.v.ownBlock=some k->¬qz tb u.la u.ca k:=λk b l=>by
  rcases l with e|e|e;exact h.ap.2.2.2.2 (by rw[<-e];exact b);exact yQ h.lv h.la (by decide) k e b;exact yQ h.lv h.ca (by decide) k e b
 refine⟨⟨C,A,u.lb,u.cb,u.v⟩,⟨c.inv,h.ib,h.il,λi r=>?_,c.fz,h.hs,c.ld,c.cm,m.row h.lb p,m.row h.cb q,m.row h.lv v,⟨c.ap.1,c.ap.2,h.ap.2.2⟩,λk b j=>?_,λk b j=>?_⟩,m.mono λk _ b=>?_,λk b=>?_⟩;by_cases g:i<251;have:=c.cl i g;rw[Nat.zero_add]at this;rw[this,Vr g];rw [c.rs i (by omega)];refine(h.cl i r).trans (congrArg some ?_);unfold ku;rw[if_neg g,if_neg g];rcases n k (.inr (.inl b))with d|d;exact p k j d;have:=(h.lb.lt k j).2;omega
 rcases n k (.inr (.inr b))with d|d;exact q k j d;have:=(h.cb.lt k j).2;omega;rcases b with e|e|e;exact .inl e;exact .inr (.inl e);exact .inr (.inr (.inl e));have f:qz tb C A k->qi tb u k\/w.heap.size<=k:=λb=>by
  rcases n k b with(e|e|e)|d;exact .inl (.inl e);exact .inl (.inr (.inl e));exact .inl (.inr (.inr (.inl e)));exact .inr d
 rcases b with e|e|e|e;exact .inl (.inl e);exact f (.inr (.inl e));exact f (.inr (.inr e));exact .inl (.inr (.inr (.inr e)))
theorem TTurn.b{e:En}(h:TO w B tb u s)(v:Ez.TurnP 251 (λi=>w.cell? ⟨tb,i,none⟩) w w' B tb u.lb u.cb e):TTurn w w' B tb u {s with b:=e}:=by
 obtain⟨C,A,c,m,n⟩:=v;have q:∀k,u.la.ownBlock=some k->¬qz tb u.lb u.cb k:=λk a j=>by
  rcases j with e|e|e;exact h.ap.1 (by rw[<-e];exact a);exact h.dl k a e;exact yQ h.la h.cb (by decide) k e a
 have r:∀k,u.ca.ownBlock=some k->¬qz tb u.lb u.cb k:=λk a j=>by
  rcases j with e|e|e;exact h.ap.2.1 (by rw[<-e];exact a);exact yQ h.ca h.lb (by decide) k e a;exact h.dc k a e
 have x:∀k,u.v.ownBlock=some k->¬qz tb u.lb u.cb k:=λk a j=>by
  rcases j with e|e|e;exact h.ap.2.2.2.2 (by rw[<-e];exact a);exact yQ h.lv h.lb (by decide) k e a;exact yQ h.lv h.cb (by decide) k e a
 refine⟨⟨u.la,u.ca,C,A,u.v⟩,⟨h.ia,c.inv,h.il,λi t=>?_,c.fz,h.hs,m.row h.la q,m.row h.ca r,c.ld,c.cm,m.row h.lv x,⟨h.ap.1,h.ap.2.1,c.ap.1,c.ap.2,h.ap.2.2.2.2⟩,λk a p=>?_,λk a p=>?_⟩,m.mono λk _ a=>?_,λk a=>?_⟩;by_cases g:251<=i/\i<502;have:=c.cl (i-251) (by omega);rw[show 251+(i-251)=i by omega]at this;rw[this,Vs g.1 g.2];rw [c.rs i (by omega)];refine(h.cl i t).trans (congrArg some ?_);unfold ku;by_cases l:i<251;rw [if_pos l,if_pos l];rw [if_neg l,if_neg l,if_neg (by omega),if_neg (by omega)]
 rcases n k (.inr (.inl p))with d|d;exact q k a d;have:=(h.la.lt k a).2;omega;rcases n k (.inr (.inr p))with d|d;exact r k a d;have:=(h.ca.lt k a).2;omega;rcases a with e|e|e;exact .inl e;exact .inr (.inr (.inr (.inl e)));exact .inr (.inr (.inr (.inr (.inl e))));have f:qz tb C A k->qi tb u k\/w.heap.size<=k:=λa=>by
  rcases n k a with(e|e|e)|d;exact .inl (.inl e);exact .inl (.inr (.inr (.inr (.inl e))));exact .inl (.inr (.inr (.inr (.inr (.inl e)))));exact .inr d
 rcases a with e|e|e|e|e|e;exact .inl (.inl e);exact .inl (.inr (.inl e));exact .inl (.inr (.inr (.inl e)));exact f (.inr (.inl e));exact f (.inr (.inr e));exact .inl (.inr (.inr (.inr (.inr (.inr e)))))
theorem TTurn.l{ls:List Lk.LR}(h:TO w B tb u s)(j:Lk.Turn (λi=>w.cell? ⟨tb,i,none⟩) w w' 212 502 B tb u.v ls):TTurn w w' B tb u {s with ls:=ls}:=by
 obtain⟨v,a,c,l⟩:=j;have f:∀ {t z n:Nat} {y:Value} {K:List Value},w.ownsRow B t z y n K->t≠212->y.ownBlock≠some tb->∀k,y.ownBlock=some k->¬Lk.own tb u.v k:=λq j r k b p=>by
  rcases p with e|e;exact r (by rw[<-e];exact b);exact yQ q h.lv j k e b
 refine⟨⟨u.la,u.ca,u.lb,u.cb,v⟩,⟨h.ia,h.ib,a.inv,λi m=>?_,a.rf,h.hs,c.row h.la (f h.la (by decide) h.ap.1),c.row h.ca (f h.ca (by decide) h.ap.2.1),c.row h.lb (f h.lb (by decide) h.ap.2.2.1),c.row h.cb (f h.cb (by decide) h.ap.2.2.2.1),a.row,⟨h.ap.1,h.ap.2.1,h.ap.2.2.1,h.ap.2.2.2.1,λe=>a.nv tb e rfl⟩,h.dl,h.dc⟩,c.mono λk _ b=>?_,λk b=>?_⟩;by_cases g:i=502;subst g;exact a.c;rw [a.rs i g];refine(h.cl i m).trans (congrArg some ?_);unfold ku;by_cases d:i<251;rw [if_pos d,if_pos d];rw [if_neg d,if_neg d,if_pos (by omega),if_pos (by omega)]
 rcases b with e|e;exact .inl e;exact .inr (.inr (.inr (.inr (.inr e))));rcases b with e|e|e|e|e|e;exact .inl (.inl e);exact .inl (.inr (.inl e));exact .inl (.inr (.inr (.inl e)));exact .inl (.inr (.inr (.inr (.inl e))));exact .inl (.inr (.inr (.inr (.inr (.inl e)))));rcases l k e with e|e;exact .inl (.inr (.inr (.inr (.inr (.inr e)))));exact .inr e
end
end Go.Proofs.YtdokgalidhmbbaaGreatDoor
namespace Go.Proofs.YtdokgalidhmbbaaGreatDoor.Ez
open Go.RowKit Go.Lib Go.Sort
open Sx (zP)
variable {pz : Nat} {Qz : Nat -> Option Value}
variable {w:World}{B o:Nat}{C A:Value}{e:En}
theorem zku(h:EP pz Qz w B o C A e)(a:e.cm=[]):Cs 132 #[.pointer (some ⟨o,pz,none⟩)] w (.int .i64 (zU e)):=by
 have c250:=h.cl 250 (by omega);rw[vw]at c250;obtain⟨g,c,f⟩:=qL h.cm;rw[f,a]at c250;simp only[List.length_nil]at c250;have d:zU e=0:=by unfold zU;rw[a]
 rw[d];go_enter Tryz.func132,Tryz.ntmps132
 go_wp2_with fail;go_ret;exact⟨rfl,rfl⟩
theorem zkv(h:EP pz Qz w B o C A e)(r:R)(a:List R)(b:e.cm=r::a):Cs 132 #[.pointer (some ⟨o,pz,none⟩)] w (.int .i64 (zU e)):=by
 have f:=h.cl 250 (by omega);rw[vw]at f;have hcm:=h.cm;have hg:=(x9 e.cm).1 h.inv.cm;rw[b]at hcm hg;obtain⟨g,k,rfl,_,_⟩:=hcm.form (by simp);have j:=hcm.cellAt 1 (by simp;omega);have d:(flat (r::a))[1]? =some (.int .i64 r.2):=by simp[flat,encR]
 rw[d]at j;have c:zU e=r.2+1:=by unfold zU;rw[b]
 have p:=(hg.2.1 r List.mem_cons_self).2;have t:=kG hg.2.2 r List.mem_cons_self;have u:=(hg.2.1 r List.mem_cons_self).1;rw[c];have s:0<(r::a).length:=by simp
 clear hcm hg h d c b;generalize(r::a).length=n at*;obtain⟨v,q⟩:=r;simp only at*;have l:¬(n:Int)=0:=by omega
 have m:(0:Int)<(n:Int):=by omega
 go_enter Tryz.func132,Tryz.ntmps132
 go_wp2_with fail;go_ret;exact⟨rfl,rfl⟩
theorem Xg(h:EP pz Qz w B o C A e):Cs 132 #[.pointer (some ⟨o,pz,none⟩)] w (.int .i64 (zU e)):=by
 cases a:e.cm with
 |nil=>exact zku h a
 |cons r c=>exact zkv h r c a
theorem EP.copy{W:World}{a:Nat}(h:EP pz Qz w B o C A e)(f:Off (λk=>k=a) w W)(m:W.rangeAt a 0 (row 251 (zM e C A)))(j:∀i,W.frozen? ⟨a,i,none⟩=false)(g:w.heap.size<=a):EO W B a C A e:=by
 have d:∀k,qz o C A k->k≠a:=λk b c=>by have:=(h.own_lt b).2;omega
 exact⟨h.inv,λi l=>by have:=jk m l;rwa[Nat.zero_add]at this,j,Nat.le_trans h.le g,f.row h.ld (λk b=>d k (.inr (.inl b))),f.row h.cm (λk b=>d k (.inr (.inr b))),λc=>d a (.inr (.inl c)) rfl,λc=>d a (.inr (.inr c)) rfl⟩
theorem EP.range_all(h:EP pz Qz w B o C A e):w.rangeAt o pz (row 251 (zM e C A)):=vZ λi a=>h.cl i a
end Go.Proofs.YtdokgalidhmbbaaGreatDoor.Ez
namespace Go.Proofs.YtdokgalidhmbbaaGreatDoor.Ez
open Go.RowKit Go.Lib Go.Sort
open Sx (zP)
variable {pz : Nat} {Qz : Nat -> Option Value}
variable {w:World}{B o:Nat}{C A:Value}{e:En}
theorem zsf{f:World}{b:Nat}{c:Value}{e':En}{cm:List R}(h:EP pz Qz w B o C A e)(V:w.heap.size<=b)(x:Off (λk=>k=b) w f)(h5:EO f B b C A e')(j:EInv {e' with cm:=cm})(q:f.ownsRow w.heap.size 143 2 c cm.length (flat cm))(hva:c.ownBlock≠some b):
  ∃p s,Hid (p=f.setCell ⟨b,250,none⟩ c)/\Hid (s=p.setCells o pz (row 251 (zM {e' with cm:=cm} C c)))/\p.rangeAt b 0 (row 251 (zM {e' with cm:=cm} C c))/\p.there o pz 251/\(∀i,(zM {e' with cm:=cm} C c i).oneCell'=true)/\TurnP pz Qz w s B o C A {e' with cm:=cm}:=by
 have z:o≠b:=by have:=h.lt;omega
 have l:Off (λk=>k=b) w (f.setCell ⟨b,250,none⟩ c):=x.setCell (a:=⟨b,250,none⟩) rfl _;have r:EP pz Qz (f.setCell ⟨b,250,none⟩ c) B o C A e:=h.off l λk d e'=>by have:=(h.own_lt d).2;omega
 have P:(f.setCell ⟨b,250,none⟩ c).ownsRow w.heap.size 143 2 c cm.length (flat cm):=((Off.refl (λk=>k=b) f).setCell (a:=⟨b,250,none⟩) rfl _).row q λk d e'=>by subst e';exact hva d
 have F:(f.setCell ⟨b,250,none⟩ c).rangeAt b 0 (row 251 (zM {e' with cm:=cm} C c)):=vZ λi j=>by
  rw[Nat.zero_add];by_cases n:i=250;subst n;exact World.cell?_setCell_same _ _ _ (h5.cl 250 (by omega));rw [World.cell?_setCell_other _ _ _ _ (λe'=>by injection e' with _ e' _;exact n e'.symm),h5.cl i j];exact congrArg some (zfk (by omega)).symm
 have t:=r.there 0 251 (by omega);have y:∀i,(zM {e' with cm:=cm} C c i).oneCell'=true:=λi=>XH h5.ones.1 (by
  rcases q.2 with⟨n,_⟩|⟨g,Q,U,n,_⟩<;>rw[n]<;>rfl) i
 refine⟨_,_,rfl,rfl,F,t,y,?_⟩;have m:Off (λk=>k=o) (f.setCell ⟨b,250,none⟩ c) ((f.setCell ⟨b,250,none⟩ c).setCells o pz (row 251 (zM {e' with cm:=cm} C c))):=wI o _ _ _;have u:(f.setCell ⟨b,250,none⟩ c).ownsRow B 241 62 C e'.ls.length (qf e'.ls):=((Off.refl (λk=>k=b) f).setCell (a:=⟨b,250,none⟩) rfl _).row h5.ld λk d e'=>by subst e';exact h5.ap.1 d
 have hve:c.ownBlock≠some o:=λe'=>by have:=(q.lt o e').1;have:=h.lt;omega
 refine⟨C,c,⟨j,λi j=>?_,λi=>by rw[World.frozen?_setCells];exact r.fz i,λi j=>by rw[World.cell?_setCells_out o _ pz _ _ (λ_ _=>by rw[qM];show i<pz\/pz+251<=i;omega)];exact r.rs i j,h.hs,m.row u (λk d e'=>by subst e';exact h.ap.1 d),jE (m.row P (λk d e'=>by subst e';exact hve d)) h.le,h.ap.1,hve⟩,?_,λk d=>?_⟩;exact jk (World.rangeAt_setCells_same (f.setCell ⟨b,250,none⟩ c) o pz (row 251 (zM {e' with cm:=cm} C c)) (by rw[qM];exact t)) j
 refine ⟨m.os.trans l.os,m.tape.trans l.tape,m.output.trans l.output,Nat.le_trans l.size m.size,λk d v=>?_⟩;rw[m.block k (Nat.lt_of_lt_of_le d l.size) (λe'=>v (.inl e')),l.block k d (λe'=>by omega)];rcases d with rfl|d|d;exact .inl (.inl rfl);exact .inl (.inr (.inl d));exact .inr (q.lt k d).1
theorem zsd(h:EP pz Qz w B o C A e)(b:ByteArray)(i:b.size<=9223372036854775807)(f:V.Forms w)(d:Cnts w)(c:xO b (zU e)≠0):Cl 102 #[.pointer (some ⟨o,pz,none⟩),.string b] w (zN (xO b (zU e))):=by
 have HN:=Xg h;have HP:=zm9 b (zU e) w f d i c;rw[qj c]at HP |-;clear h f d;generalize xO b (zU e)=k at*;generalize zU e=l at*;go_enter Tryz.func102,Tryz.ntmps102
 go_wp2_with (first|(go_at_call 132;refine HN.mono ?_;rintro a m ⟨rfl,j⟩;obtain rfl:=j.symm)|(go_at_call 131;refine HP.mono ?_;rintro a n ⟨rfl,g⟩));go_ret;exact⟨rfl,g⟩
theorem zse(h:EP pz Qz w B o C A e)(b:ByteArray)(k:V.Forms w)(j:Cnts w)(s:U.zH (zU e)=true)(r:b.size<=200)(n:Int)(g:List F)(f:xZ b (zU e)=some (n,g))(i:xD e.cm n=true):Cl 102 #[.pointer (some ⟨o,pz,none⟩),.string b] w .nilIface:=by
 have HN:=Xg h;have HP:=VI b (zU e) w k j s r n g f;have HH:=λX (l:Below w.heap.size w X)=>KQ A e.cm n X (h.below l).crow (ZL f) h.inv.cm;rw[i]at HH;have c250:=h.cl 250 (by omega);rw[vw]at c250;have q:=h.lt;obtain⟨P,c,v⟩:=qL h.cm;rw[v]at c250 HH;clear h k j i f;generalize zU e=G at*;generalize e.cm.length=D at*;go_enter Tryz.func102,Tryz.ntmps102
 go_wp2_with (first|(go_at_call 132;refine HN.mono ?_;rintro a J ⟨rfl,x⟩;obtain rfl:=x.symm)|(go_at_call 131;refine HP.mono ?_;rintro a K ⟨I,H,rfl,t,d⟩;obtain⟨y,Q,u⟩:=qL t.own;subst u;have z:=(d.cell (p:=⟨o,pz+250,none⟩) q).trans c250)|(go_at_call 133;refine(HH _ d).mono ?_;rintro a L ⟨rfl,m⟩));go_ret;exact⟨rfl,d.trans (m.mono d.size)⟩
theorem zsi(h:EP pz Qz w B o C A e)(b:ByteArray)(hF:V.Forms w)(hC:Cnts w)(hm:U.zH (zU e)=true)(hl:b.size<=200)(n:Int)(l:List F)(M:xZ b (zU e)=some (n,l))(h0:xD e.cm n=false)(hA:∀f∈l,f.1=2->yx f.2.1)(ap:12<(qU e.cm n).length):
  Calls Tryz.prog 102 #[.pointer (some ⟨o,pz,none⟩),.string b] w λx w'=>x=.returned (zN (come e n l).1)/\TurnP pz Qz w w' B o C A (come e n l).2:=by
 have S:=zC h;have ai:=zC h0;have b0:=zC hA;have ag:=zC ap;have b4:Hid (qC n=true):=ZL M;have b3:Hid (l.length<=12):=VX M;have HN:=Xg h;have HP:=VI b (zU e) w hF hC hm hl n l M;have HH:=λX (hX:Below w.heap.size w X)=>KQ A e.cm n X (h.below hX).crow (ZL M) h.inv.cm;rw[h0]at HH;have c250:=h.cl 250 (by omega);rw[vw]at c250;have b6:=h.lt;obtain⟨ao,c,aa⟩:=qL h.cm;have aj:Hid (A=.slice ao e.cm.length c):=aa
 rw[aa]at c250 HH;have hze:=iY;generalize hZ:(row 251 (zM ⟨nilB,0,0,0,0,[],Sx.qE,⟨0,0,0,0⟩,[]⟩ (.slice none 0 0) (.slice none 0 0))).toArray=O at hze;have HZ:Hid ((row 251 (zM ⟨nilB,0,0,0,0,[],Sx.qE,⟨0,0,0,0⟩,[]⟩ (.slice none 0 0) (.slice none 0 0))).toArray=O):=hZ;obtain⟨v,a7⟩:∃v,(come e n l).1=v:=⟨_,rfl⟩;rw[a7];have ad:Hid ((come e n l).1=v):=a7;have ah:Hid (∀d,Below w.heap.size w d->d.rangeAt o pz (row 251 (zM e C A))/\∃W,Hid (W=(d.alloc (.cells O 104)).setCells d.heap.size 0 (row 251 (zM e C A)))/\(d.alloc (.cells O 104)).there d.heap.size 0 251/\EO W B d.heap.size C A e/\Off (λk=>k=d.heap.size) d W):=by
  show∀d,_->_;intro d hb;have h3:=S.out.below hb;have N:(d.alloc (.cells O 104)).there d.heap.size 0 251:=by rw[<-HZ.out];exact yw d _ 251 _
  have oW:Off (λk=>k=d.heap.size) d ((d.alloc (.cells O 104)).setCells d.heap.size 0 (row 251 (zM e C A))):=((Off.refl (λk=>k=d.heap.size) d).alloc _).trans (wI _ _ _ _);refine⟨h3.range_all,_,rfl,N,?_,oW⟩;exact h3.copy oW (World.rangeAt_setCells_same _ _ _ _ (by rw[qM];exact N)) (λi=>by rw[World.frozen?_setCells];exact ZI d _ _ i) (Nat.le_refl _)
 have b2:Hid (∀i,(zM e C A i).oneCell'=true):=λi=>XH h.ones.1 h.ones.2 i;clear h hF hC h0 M hA ap hZ aa a7;generalize zU e=nx at*;generalize ar:e.cm.length=nc at c250 HH;clear ar;go_enter Tryz.func102,Tryz.ntmps102
 go_wp2_with (first|(go_at_call 132;refine HN.mono ?_;rintro x w1 ⟨rfl,b9⟩;obtain rfl:=b9.symm)|(go_at_call 131;refine HP.mono ?_;rintro x w2 ⟨v2,I,rfl,ho2,K⟩;obtain⟨a2,c2,b8⟩:=qL ho2.own;subst b8;have b5:=(K.cell (p:=⟨o,pz+250,none⟩) b6).trans c250)|(go_at_call 133;refine(HH _ K).mono ?_;rintro x d ⟨rfl,a5⟩;have a1:=K.trans (a5.mono K.size);obtain⟨av,W,HW,N,au,an⟩:=ah.out d a1)|(refine vH (n:=251) (f:=zM e C A) (ty:=104) rfl (.tmp 40) rfl o pz rfl av (by kernel_rfl) (by kernel_rfl) ?_)|(refine vI (n:=251) (f:=zM e C A) (ty:=104) rfl (.tmp 9) (.tmp 41) rfl d.heap.size 0 rfl rfl N (by kernel_rfl) b2.out HW ?_))
 have u:Hid (Below w.heap.size w d):=a1;have HOF:Hid (FOwn d w.heap.size (.slice a2 l.length c2) I l):=ho2.below a5;have HAB:Hid (EO W B d.heap.size C A e):=au;have HFW:Hid (Off (λk=>k=d.heap.size) d W):=an;clear HN HP HH ah hze av N HW au an ho2 K a5 a1 b5 c250;obtain⟨q,a4⟩:∃q,d.heap.size=q:=⟨_,rfl⟩;have z:Hid (d.heap.size=q):=a4;rw[a4]at HAB HFW |-;clear a4;generalize hM:l.length=m at HOF |-;have D:Hid (l.length=m):=hM
 clear hM;go_loopg [44] m (λgk ba wr=>∃(k:Nat) (r:En),gk+k=m/\ba=.int .i64 k/\Hid (runF l e=runF (l.drop k) r)/\Hid (EO wr B q C A r)/\Hid (Off (λj=>j=q) d wr))
 case atStart=>exact⟨0,e,rfl,rfl,rfl,HAB,HFW⟩
 case round=>
  obtain⟨k,r,s,rfl,HR,R,J⟩:=hrel;have HK:Hid (gk+k=m):=s;clear s;have HOFr:Hid (FOwn wr w.heap.size (.slice a2 m c2) I l):=HOF.out.off J.out (λk s Y=>by have:=(HOF.out.own.lt k s).2;have:=z.out;omega) (λj P k s Y=>by have:=Qj HOF.out P s;have:=z.out;omega);have bi:d.heap.size<=wr.heap.size:=J.out.size;have bh:m<=12:=by have:=b3.out;have:=D.out;omega
  by_cases g:(k:Int)<(m:Int)
  .have Q:k<l.length:=by have:=D.out;omega
   obtain⟨gb,bd,hv1,_,bg⟩:=HOFr.out.own.form (by have:=D.out;omega);rw[D.out]at hv1;injection hv1 with i1 i2 i3;subst i1 i3;have hown:=HOFr.out.own;rw[D.out]at hown;have Z:=QP I l k HOFr.out.len Q;have y0:=hown.cellAt (k*3) (by omega);have y1:=hown.cellAt (k*3+1) (by omega);have y2:=hown.cellAt (k*3+2) (by omega);rw[Z.1]at y0;rw[Z.2.1]at y1;rw[Z.2.2]at y2;have a9:=HOFr.out.rows k Q;have a8:=HOFr.out.good k Q
   have aq:=Js Q;have ac:=b0.out (zS l k) aq;have am:=Jv Q;have aw:runF l e=runF (zS l k::l.drop (k+1)) r:=by rw[HR.out,am]
   have b7:=XK a8;have ay:(xI I k).ownBlock≠some q:=λY=>by have:=Qj HOF.out Q Y;have:=z.out;omega
   have T:Below wr.heap.size wr (wr.alloc (.cells #[.int .i64 (zS l k).1,xI I k,.string (zS l k).2.2] 141)):=(Below.refl _ _).alloc (Nat.le_refl _) _;have HTF:=gV (R.out.below T) (zS l k) a8 (X0 (a9.below T) (by omega)) ay ac;have HRN:=zC aw;obtain⟨ua,uc,az⟩:=qL a9;have HFB:Hid (Off (λj=>j=q) d (wr.alloc (.cells #[.int .i64 (zS l k).1,xI I k,.string (zS l k).2.2] 141))):=J.out.trans (Off.of_below T)
   rw[az]at y1 HTF HFB;clear aw am a9 a8 aq ac Z hown b7 ay T az Q;generalize zS l k=f at*;obtain⟨G,y,E⟩:=f;simp only at y0 y1 y2 HTF HFB HRN;generalize y.length=fl at*;by_cases t:(zn r (G,y,E)).1=0
   .have HN2:Hid (runF l e=runF (l.drop (k+1)) (zn r (G,y,E)).2):=by show _=_;rw[HRN.out,Qa t]
    rw[t,jm]at HTF;clear t HRN;generalize(zn r (G,y,E)).2=e2 at*;go_wp2_with (go_at_call 134;refine HTF.mono ?_;rintro x w4 ⟨rfl,a0⟩);go_roundg (m-(k+1))
    case measure=>have:=HK.out;omega
    case rel=>exact⟨k+1,e2,by have:=HK.out;omega,by go_num,HN2,a0.1,HFB.out.trans a0.2⟩
   have HN2:Hid (come e n l=((zn r (G,y,E)).1,e)):=by
    show _=_;unfold come;rw[if_neg (by rw[ai.out];decide),HRN.out,Zt t,if_pos t]
   have L:v=(zn r (G,y,E)).1:=by rw[<-ad.out,HN2.out]
   rw[qj t,<-L]at HTF;have al:v≠0:=by rw[L];exact t
   have b1:=zC al;clear t HRN L al;generalize(zn r (G,y,E)).2=e2 at*;go_wp2_with (go_at_call 134;refine HTF.mono ?_;rintro x w4 ⟨rfl,a0⟩);go_ret;refine⟨by rw[qj b1.out];rfl,?_⟩;rw[HN2.out];have o4:Off (λj=>j=q) d w4:=HFB.out.trans a0.2;exact TurnP.below S.out (u.out.trans (o4.below (λj P=>by rw[P,<-z.out];exact u.out.size) u.out.size))
  have s:k=m:=by have:=HK.out;omega
  have ax:runF l e=(0,r):=by
   rw[HR.out,List.drop_eq_nil_of_le (by have:=D.out;omega)];rfl
  have a3:EP pz Qz d B o C A e:=S.out.below u.out;have H:EP pz Qz wr B o C A e:=a3.off J.out λj P Y=>by have:=(a3.own_lt P).2;have:=z.out;omega
  have bb:=zC H;have r250:=H.cl 250 (by omega);rw[vw,aj.out]at r250;have a250:=R.out.cl 250 (by omega);rw[vw]at a250;have af:=R.out.fz 250;have hAC:=zao (h:=H.crow) H.inv.cm b4.out ag.out;rw[aj.out]at hAC a250;have ak:q<wr.heap.size:=R.out.lt;have be:o<wr.heap.size:=H.lt;have ae:Hid (come e n l=(4,e)):=by
   show _=_;unfold come;rw[if_neg (by rw[ai.out];decide),ax,if_neg (by simp),if_pos ag.out]
  have L:v=4:=by rw[<-ad.out,ae.out]
  subst L;clear ax H a3 s;rw[zf1]at hAC;generalize ar:e.cm.length=nc at*;go_wp2_with (go_at_call 135;refine hAC.mono ?_;rintro x w5 ⟨rfl,a6⟩;have bc:=(a6.cell (p:=⟨q,250,none⟩) ak).trans a250;have bf:w5.frozen? ⟨q,250,none⟩=false:=(World.frozen?_of_block (a6.block q ak)).trans af);go_ret;refine⟨rfl,?_⟩;rw[ae.out];have o6:Off (λj=>j=q) d (w5.setCell ⟨q,250,none⟩ (.slice none 0 0)):=(J.out.trans (Off.of_below a6)).setCell (a:=⟨q,250,none⟩) rfl _
  exact TurnP.below S.out (u.out.trans (o6.below (λj P=>by rw[P,<-z.out];exact u.out.size) u.out.size))
theorem zsg(h:EP pz Qz w B o C A e)(b:ByteArray)(hF:V.Forms w)(hC:Cnts w)(hm:U.zH (zU e)=true)(hl:b.size<=200)(n:Int)(d:List F)(Z:xZ b (zU e)=some (n,d))(h0:xD e.cm n=false)(hA:∀f∈d,f.1=2->yx f.2.1)(ar:(qU e.cm n).length<=12):
  Calls Tryz.prog 102 #[.pointer (some ⟨o,pz,none⟩),.string b] w λP w'=>P=.returned (zN (come e n d).1)/\TurnP pz Qz w w' B o C A (come e n d).2:=by
 have N:=zC h;have aj:=zC h0;have b2:=zC hA;have a4:=zC ar;have ak:Hid (qC n=true):=ZL Z;have b5:Hid (d.length<=12):=VX Z;have HN:=Xg h;have HP:=VI b (zU e) w hF hC hm hl n d Z;have HH:=λX (hX:Below w.heap.size w X)=>KQ A e.cm n X (h.below hX).crow (ZL Z) h.inv.cm;rw[h0]at HH;have c250:=h.cl 250 (by omega);rw[vw]at c250;have b9:=h.lt;obtain⟨ao,c,ae⟩:=qL h.cm;have al:Hid (A=.slice ao e.cm.length c):=ae
 rw[ae]at c250 HH;have hze:=iY;generalize hZ:(row 251 (zM ⟨nilB,0,0,0,0,[],Sx.qE,⟨0,0,0,0⟩,[]⟩ (.slice none 0 0) (.slice none 0 0))).toArray=ze at hze;have HZ:Hid ((row 251 (zM ⟨nilB,0,0,0,0,[],Sx.qE,⟨0,0,0,0⟩,[]⟩ (.slice none 0 0) (.slice none 0 0))).toArray=ze):=hZ;obtain⟨y,aa⟩:∃y,(come e n d).1=y:=⟨_,rfl⟩;rw[aa];have ah:Hid ((come e n d).1=y):=aa;have ai:Hid (∀a,Below w.heap.size w a->a.rangeAt o pz (row 251 (zM e C A))/\∃W,Hid (W=(a.alloc (.cells ze 104)).setCells a.heap.size 0 (row 251 (zM e C A)))/\(a.alloc (.cells ze 104)).there a.heap.size 0 251/\EO W B a.heap.size C A e/\Off (λk=>k=a.heap.size) a W):=by
  show∀a,_->_;intro a hb;have h3:=N.out.below hb;have a0:(a.alloc (.cells ze 104)).there a.heap.size 0 251:=by rw[<-HZ.out];exact yw a _ 251 _
  have oW:Off (λk=>k=a.heap.size) a ((a.alloc (.cells ze 104)).setCells a.heap.size 0 (row 251 (zM e C A))):=((Off.refl (λk=>k=a.heap.size) a).alloc _).trans (wI _ _ _ _);refine⟨h3.range_all,_,rfl,a0,?_,oW⟩;exact h3.copy oW (World.rangeAt_setCells_same _ _ _ _ (by rw[qM];exact a0)) (λi=>by rw[World.frozen?_setCells];exact ZI a _ _ i) (Nat.le_refl _)
 have b4:Hid (∀i,(zM e C A i).oneCell'=true):=λi=>XH h.ones.1 h.ones.2 i;clear h hF hC h0 Z hA ar hZ ae aa;generalize zU e=nx at*;generalize av:e.cm.length=nc at c250 HH;clear av;go_enter Tryz.func102,Tryz.ntmps102
 go_wp2_with (first|(go_at_call 132;refine HN.mono ?_;rintro P w1 ⟨rfl,be⟩;obtain rfl:=be.symm)|(go_at_call 131;refine HP.mono ?_;rintro P w2 ⟨v2,M,rfl,ho2,S⟩;obtain⟨a2,c2,bc⟩:=qL ho2.own;subst bc;have b8:=(S.cell (p:=⟨o,pz+250,none⟩) b9).trans c250)|(go_at_call 133;refine(HH _ S).mono ?_;rintro P a ⟨rfl,a9⟩;have a6:=S.trans (a9.mono S.size);obtain⟨ax,W,HW,a0,aw,aq⟩:=ai.out a a6)|(refine vH (n:=251) (f:=zM e C A) (ty:=104) rfl (.tmp 40) rfl o pz rfl ax (by kernel_rfl) (by kernel_rfl) ?_)|(refine vI (n:=251) (f:=zM e C A) (ty:=104) rfl (.tmp 9) (.tmp 41) rfl a.heap.size 0 rfl rfl a0 (by kernel_rfl) b4.out HW ?_))
 have x:Hid (Below w.heap.size w a):=a6;have HOF:Hid (FOwn a w.heap.size (.slice a2 d.length c2) M d):=ho2.below a9;have HAB:Hid (EO W B a.heap.size C A e):=aw;have HFW:Hid (Off (λk=>k=a.heap.size) a W):=aq;clear HN HP HH ai hze ax a0 HW aw aq ho2 S a9 a6 b8 c250;obtain⟨q,a8⟩:∃q,a.heap.size=q:=⟨_,rfl⟩;have E:Hid (a.heap.size=q):=a8;rw[a8]at HAB HFW |-;clear a8;generalize hM:d.length=m at HOF |-;have G:Hid (d.length=m):=hM
 clear hM;go_loopg [44] m (λgk bg wr=>∃(k:Nat) (l:En),gk+k=m/\bg=.int .i64 k/\Hid (runF d e=runF (d.drop k) l)/\Hid (EO wr B q C A l)/\Hid (Off (λj=>j=q) a wr))
 case atStart=>exact⟨0,e,rfl,rfl,rfl,HAB,HFW⟩
 case round=>
  obtain⟨k,l,t,rfl,HR,r,D⟩:=hrel;have HK:Hid (gk+k=m):=t;clear t;have HOFr:Hid (FOwn wr w.heap.size (.slice a2 m c2) M d):=HOF.out.off D.out (λk t H=>by have:=(HOF.out.own.lt k t).2;have:=E.out;omega) (λj Y k t H=>by have:=Qj HOF.out Y t;have:=E.out;omega);have bq:a.heap.size<=wr.heap.size:=D.out.size;have bo:m<=12:=by have:=b5.out;have:=G.out;omega
  by_cases g:(k:Int)<(m:Int)
  .have z:k<d.length:=by have:=G.out;omega
   obtain⟨gb,bj,hv1,_,bn⟩:=HOFr.out.own.form (by have:=G.out;omega);rw[G.out]at hv1;injection hv1 with i1 i2 i3;subst i1 i3;have hown:=HOFr.out.own;rw[G.out]at hown;have fg:=QP M d k HOFr.out.len z;have y0:=hown.cellAt (k*3) (by omega);have y1:=hown.cellAt (k*3+1) (by omega);have y2:=hown.cellAt (k*3+2) (by omega);rw[fg.1]at y0;rw[fg.2.1]at y1;rw[fg.2.2]at y2;have ad:=HOFr.out.rows k z;have ac:=HOFr.out.good k z
   have au:=Js z;have ag:=b2.out (zS d k) au;have ap:=Jv z;have ay:runF d e=runF (zS d k::d.drop (k+1)) l:=by rw[HR.out,ap]
   have bb:=XK ac;have b0:(xI M k).ownBlock≠some q:=λH=>by have:=Qj HOF.out z H;have:=E.out;omega
   have bA:Below wr.heap.size wr (wr.alloc (.cells #[.int .i64 (zS d k).1,xI M k,.string (zS d k).2.2] 141)):=(Below.refl _ _).alloc (Nat.le_refl _) _;have HTF:=gV (r.out.below bA) (zS d k) ac (X0 (ad.below bA) (by omega)) b0 ag;have HRN:=zC ay;obtain⟨ua,uc,b1⟩:=qL ad;have HFB:Hid (Off (λj=>j=q) a (wr.alloc (.cells #[.int .i64 (zS d k).1,xI M k,.string (zS d k).2.2] 141))):=D.out.trans (Off.of_below bA)
   rw[b1]at y1 HTF HFB;clear ay ap ad ac au ag fg hown bb b0 bA b1 z;generalize zS d k=f at*;obtain⟨J,Q,I⟩:=f;simp only at y0 y1 y2 HTF HFB HRN;generalize Q.length=fl at*;by_cases u:(zn l (J,Q,I)).1=0
   .have HN2:Hid (runF d e=runF (d.drop (k+1)) (zn l (J,Q,I)).2):=by show _=_;rw[HRN.out,Qa u]
    rw[u,jm]at HTF;clear u HRN;generalize(zn l (J,Q,I)).2=R at*;go_wp2_with (go_at_call 134;refine HTF.mono ?_;rintro P w4 ⟨rfl,a1⟩);go_roundg (m-(k+1))
    case measure=>have:=HK.out;omega
    case rel=>exact⟨k+1,R,by have:=HK.out;omega,by go_num,HN2,a1.1,HFB.out.trans a1.2⟩
   have HN2:Hid (come e n d=((zn l (J,Q,I)).1,e)):=by
    show _=_;unfold come;rw[if_neg (by rw[aj.out];decide),HRN.out,Zt u,if_pos u]
   have T:y=(zn l (J,Q,I)).1:=by rw[<-ah.out,HN2.out]
   rw[qj u,<-T]at HTF;have an:y≠0:=by rw[T];exact u
   have b3:=zC an;clear u HRN T an;generalize(zn l (J,Q,I)).2=R at*;go_wp2_with (go_at_call 134;refine HTF.mono ?_;rintro P w4 ⟨rfl,a1⟩);go_ret;refine⟨by rw[qj b3.out];rfl,?_⟩;rw[HN2.out];have o4:Off (λj=>j=q) a w4:=HFB.out.trans a1.2;exact TurnP.below N.out (x.out.trans (o4.below (λj Y=>by rw[Y,<-E.out];exact x.out.size) x.out.size))
  have t:k=m:=by have:=HK.out;omega
  have az:runF d e=(0,l):=by
   rw[HR.out,List.drop_eq_nil_of_le (by have:=G.out;omega)];rfl
  have a7:EP pz Qz a B o C A e:=N.out.below x.out;have K:EP pz Qz wr B o C A e:=a7.off D.out λj Y H=>by have:=(a7.own_lt Y).2;have:=E.out;omega
  have bh:=zC K;have r250:=K.cl 250 (by omega);rw[vw,al.out]at r250;have a250:=r.out.cl 250 (by omega);rw[vw]at a250;have af:=r.out.fz 250;have hAC:=zan (h:=K.crow) K.inv.cm ak.out a4.out;rw[al.out]at hAC a250;have am:q<wr.heap.size:=r.out.lt;have bm:o<wr.heap.size:=K.lt;have ba:qU e.cm n=qU e.cm n:=rfl;have HCM:Hid (come e n d=(0,{l with cm:=qU e.cm n})):=by
   show _=_;unfold come;rw[if_neg (by rw[aj.out];decide),az,if_neg (by simp),if_neg (by have:=a4.out;omega)]
  have T:y=0:=by rw[<-ah.out,HCM.out]
  have hi:EInv {l with cm:=qU e.cm n}:=⟨r.out.inv.d60,r.out.inv.t1,r.out.inv.l0,r.out.inv.l1,r.out.inv.m1,r.out.inv.k0,r.out.inv.k1,r.out.inv.ls,r.out.inv.s,r.out.inv.c,J2 N.out.inv.cm ak.out a4.out,r.out.inv.ll⟩;have HEND:Hid (∀s v,Below wr.heap.size wr s->s.ownsRow wr.heap.size 143 2 v (qU e.cm n).length (flat (qU e.cm n))->∃O W7,Hid (O=s.setCell ⟨q,250,none⟩ v)/\Hid (W7=O.setCells o pz (row 251 (zM {l with cm:=qU e.cm n} C v)))/\O.rangeAt q 0 (row 251 (zM {l with cm:=qU e.cm n} C v))/\O.there o pz 251/\(∀i,(zM {l with cm:=qU e.cm n} C v i).oneCell'=true)/\TurnP pz Qz w W7 B o C A {l with cm:=qU e.cm n}):=by
   show∀s v,_->_->_;intro s v L a3;have bd:s.ownsRow w.heap.size 143 2 v (qU e.cm n).length (flat (qU e.cm n)):=jE a3 (Nat.le_trans x.out.size D.out.size);have o5:Off (λj=>j=q) w s:=by
    have oB:Off (λj=>j=q) w a:=Off.of_below x.out;exact(oB.trans D.out).trans (Off.of_below L)
   exact zsf N.out (by rw[<-E.out];exact x.out.size) o5 (r.out.below L) hi bd (λH=>by have:=(a3.lt q H).1;omega)
  subst T;clear az K a7 t hi ba;generalize bl:qU e.cm n=cn at*;generalize av:e.cm.length=nc at*;generalize xD e.cm n=mb at*;generalize bk:({l with cm:=cn}:En)=R at*;go_wp2_with (first|(go_at_call 135;refine hAC.mono ?_;rintro P s ⟨v5,rfl,ho5,L⟩;obtain⟨a5,c5,a3⟩:=qL ho5;subst a3;have bi:=(L.cell (p:=⟨q,250,none⟩) am).trans a250;have bf:s.frozen? ⟨q,250,none⟩=false:=(World.frozen?_of_block (L.block q am)).trans af;obtain⟨O,W7,b6,b7,n1,n2,n3,n4⟩:=HEND.out s _ L ho5;have bp:=b6.out.symm)|(refine vH (n:=251) (f:=zM R C (.slice a5 cn.length c5)) (ty:=104) rfl (.tmp 9) rfl q 0 rfl n1 (by kernel_rfl) (by kernel_rfl) ?_)|(refine vI (n:=251) (f:=zM R C (.slice a5 cn.length c5)) (ty:=104) rfl (.tmp 70) (.tmp 69) rfl o pz rfl rfl n2 (by kernel_rfl) n3 b7 ?_))
  go_ret;refine⟨rfl,?_⟩;rw[HCM.out];exact n4
theorem Y1(h:EP pz Qz w B o C A e)(b:ByteArray)(v:b.size<=9223372036854775807)(l:V.Forms w)(k:Cnts w)(s:∀n d,xZ b (zU e)=some (n,d)->∀f∈d,f.1=2->yx f.2.1):
  Calls Tryz.prog 102 #[.pointer (some ⟨o,pz,none⟩),.string b] w λp E=>p=.returned (zN (qD e b).1)/\TurnP pz Qz w E B o C A (qD e b).2:=by
 by_cases i:xO b (zU e)=0;obtain ⟨q,r,n,d,g⟩:=bY i;have m:qD e b=come e n d:=by
  unfold qD;rw[if_neg (by simpa using i),g]
 rw[m];cases j:xD e.cm n with
 |true=>
  have t:come e n d=(0,e):=by unfold come;rw[if_pos j]
  rw[t];exact(zse h b l k q r n d g j).mono λp E ⟨a,c⟩=>⟨a,TurnP.below h c⟩
 |false=>
  by_cases u:12<(qU e.cm n).length;exact zsi h b l k q r n d g j (s n d g) u;exact zsg h b l k q r n d g j (s n d g) (by omega)
 have m:qD e b=(xO b (zU e),e):=by
  unfold qD;rw[if_pos i]
 rw[m];exact(zsd h b v l k i).mono λp E ⟨a,c⟩=>⟨a,TurnP.below h c⟩
end Go.Proofs.YtdokgalidhmbbaaGreatDoor.Ez
namespace Go.Proofs.YtdokgalidhmbbaaGreatDoor
open Go.RowKit Go.Lib Go.Sort
theorem Vy(H:Nat)(a:Int)(w:World)(c:Lk.qN a=false):Cs 95 #[.pointer (some ⟨H,0,none⟩),.int .i64 a] w (.tuple #[.pointer none,.iface 133 (.int .i64 1)]):=by
 have b:=of_decide_eq_false c;clear c;by_cases e:a<0
 .clear b;go_enter Tryz.func95,Tryz.ntmps95
  go_wp2_with fail;go_ret2
  exact⟨rfl,rfl⟩
 have f:2<=a:=by omega
 clear b;go_enter Tryz.func95,Tryz.ntmps95
 go_wp2_with fail;go_ret2
 exact⟨rfl,rfl⟩
theorem JO(H:Nat)(w:World):Cs 95 #[.pointer (some ⟨H,0,none⟩),.int .i64 0] w (.tuple #[.pointer (some ⟨H,0,none⟩),.nilIface]):=by
 go_enter Tryz.func95,Tryz.ntmps95
 go_wp2_with fail;go_ret2
 exact⟨rfl,rfl⟩
theorem JP(H:Nat)(w:World):Cs 95 #[.pointer (some ⟨H,0,none⟩),.int .i64 1] w (.tuple #[.pointer (some ⟨H,251,none⟩),.nilIface]):=by
 go_enter Tryz.func95,Tryz.ntmps95
 go_wp2_with fail;go_ret2
 exact⟨rfl,rfl⟩
theorem JQ(a:Int)(w:World)(h:Lk.qN a=true):Cs 99 #[.int .i64 a] w (.int .i64 (1-a)):=by
 rcases wU h with rfl|rfl
 .go_enter Tryz.func99,Tryz.ntmps99
  go_wp2_with fail;go_ret;exact⟨rfl,rfl⟩
 go_enter Tryz.func99,Tryz.ntmps99
 go_wp2_with fail;go_ret;exact⟨rfl,rfl⟩
theorem zt4(H:Nat)(a:Int)(d:ByteArray)(w:World)(c:Lk.qN a=false):Cs 73 #[.pointer (some ⟨H,0,none⟩),.int .i64 a,.string d] w (.iface 133 (.int .i64 1)):=by
 have e:=Vy H a w c;clear c;go_enter Tryz.func73,Tryz.ntmps73
 go_wp2_with (go_at_call 95;refine e.mono ?_;rintro b g ⟨rfl,f⟩;obtain rfl:=f.symm);go_ret;exact⟨rfl,rfl⟩
variable {w:World}{B H:Nat}{u:Tv}{s:Tt}
theorem zt1(h:TO w B H u s)(d:ByteArray)(f:d.size<=140737488351232):Calls Tryz.prog 73 #[.pointer (some ⟨H,0,none⟩),.int .i64 0,.string d] w λb E=>b=.returned (zN (vk s.a d))/\TTurn w E B H u {s with a:=xR s.a d}:=by
 have c:=JO H w;have HW:=Ez.iT h.a d f;have e:Hid (∀E,Ez.TurnP 0 (λi=>w.cell? ⟨H,i,none⟩) w E B H u.la u.ca (xR s.a d)->TTurn w E B H u {s with a:=xR s.a d}):=λE g=>TTurn.a h g;clear h;generalize zN (vk s.a d)=l at HW |-;go_enter Tryz.func73,Tryz.ntmps73
 go_wp2_with (first|(go_at_call 95;refine c.mono ?_;rintro b m ⟨rfl,k⟩;obtain rfl:=k.symm)|(go_at_call 96;refine HW.mono ?_;rintro b n ⟨rfl,j⟩));go_ret;exact⟨rfl,e.out _ j⟩
theorem zt2(h:TO w B H u s)(d:ByteArray)(f:d.size<=140737488351232):Calls Tryz.prog 73 #[.pointer (some ⟨H,0,none⟩),.int .i64 1,.string d] w λa E=>a=.returned (zN (vk s.b d))/\TTurn w E B H u {s with b:=xR s.b d}:=by
 have c:=JP H w;have HW:=Ez.iT h.b d f;have e:Hid (∀E,Ez.TurnP 251 (λi=>w.cell? ⟨H,i,none⟩) w E B H u.lb u.cb (xR s.b d)->TTurn w E B H u {s with b:=xR s.b d}):=λE g=>TTurn.b h g;clear h;generalize zN (vk s.b d)=l at HW |-;go_enter Tryz.func73,Tryz.ntmps73
 go_wp2_with (first|(go_at_call 95;refine c.mono ?_;rintro a m ⟨rfl,k⟩;obtain rfl:=k.symm)|(go_at_call 96;refine HW.mono ?_;rintro a n ⟨rfl,j⟩));go_ret;exact⟨rfl,e.out _ j⟩
theorem zt3(h:TO w B H u s)(c:Int)(d:ByteArray)(g:d.size<=140737488351232):Calls Tryz.prog 73 #[.pointer (some ⟨H,0,none⟩),.int .i64 c,.string d] w λf E=>f=.returned (zN (kM s c d))/\TTurn w E B H u (kP s c d):=by
 cases e:Lk.qN c with
 |false=>
  unfold kM kP;rw[e,if_neg (by decide),if_neg (by decide),qj (by decide)];exact(zt4 H c d w e).mono λf E ⟨a,b⟩=>⟨a,by rw[b];exact TTurn.same h⟩
 |true=>
  unfold kM kP;rw[e,if_pos rfl,if_pos rfl];rcases wU e with rfl|rfl;exact zt1 h d g;exact zt2 h d g
theorem ztn(H:Nat)(a n:Int)(w:World)(c:Lk.qN a=false):Cs 105 #[.pointer (some ⟨H,0,none⟩),.int .i64 a,.int .i64 n] w (.tuple #[.string {data:=#[]},.iface 133 (.int .i64 1)]):=by
 have d:=Vy H a w c;clear c;go_enter Tryz.func105,Tryz.ntmps105
 go_wp2_with (go_at_call 95;refine d.mono ?_;rintro b f ⟨rfl,e⟩;obtain rfl:=e.symm);go_ret2
 exact⟨rfl,rfl⟩
theorem ztk(h:TO w B H u s)(n:Int):Calls Tryz.prog 105 #[.pointer (some ⟨H,0,none⟩),.int .i64 0,.int .i64 n] w λb E=>b=.returned (.tuple #[.string (jR s.a n),zN (xH s.a n)])/\TTurn w E B H u {s with a:=qg s.a n}:=by
 have c:=JO H w;have HW:=Ez.ZN h.a n;have d:Hid (∀E,Ez.TurnP 0 (λi=>w.cell? ⟨H,i,none⟩) w E B H u.la u.ca (qg s.a n)->TTurn w E B H u {s with a:=qg s.a n}):=λE e=>TTurn.a h e;clear h;generalize zN (xH s.a n)=k at HW |-;generalize jR s.a n=j at HW |-;go_enter Tryz.func105,Tryz.ntmps105
 go_wp2_with (first|(go_at_call 95;refine c.mono ?_;rintro b l ⟨rfl,g⟩;obtain rfl:=g.symm)|(go_at_call 136;refine HW.mono ?_;rintro b m ⟨rfl,f⟩));go_ret2
 exact⟨rfl,d.out _ f⟩
theorem ztl(h:TO w B H u s)(n:Int):Calls Tryz.prog 105 #[.pointer (some ⟨H,0,none⟩),.int .i64 1,.int .i64 n] w λa E=>a=.returned (.tuple #[.string (jR s.b n),zN (xH s.b n)])/\TTurn w E B H u {s with b:=qg s.b n}:=by
 have c:=JP H w;have HW:=Ez.ZN h.b n;have d:Hid (∀E,Ez.TurnP 251 (λi=>w.cell? ⟨H,i,none⟩) w E B H u.lb u.cb (qg s.b n)->TTurn w E B H u {s with b:=qg s.b n}):=λE e=>TTurn.b h e;clear h;generalize zN (xH s.b n)=k at HW |-;generalize jR s.b n=j at HW |-;go_enter Tryz.func105,Tryz.ntmps105
 go_wp2_with (first|(go_at_call 95;refine c.mono ?_;rintro a l ⟨rfl,g⟩;obtain rfl:=g.symm)|(go_at_call 136;refine HW.mono ?_;rintro a m ⟨rfl,f⟩));go_ret2
 exact⟨rfl,d.out _ f⟩
theorem ztm(h:TO w B H u s)(c n:Int):Calls Tryz.prog 105 #[.pointer (some ⟨H,0,none⟩),.int .i64 c,.int .i64 n] w λe E=>e=.returned (.tuple #[.string (ve s c n),zN (jY s c n)])/\TTurn w E B H u (kD s c n):=by
 cases d:Lk.qN c with
 |false=>
  unfold jY kD ve;rw[d,if_neg (by decide),if_neg (by decide),if_neg (by decide),qj (by decide)];exact(ztn H c n w d).mono λe E ⟨a,b⟩=>⟨a,by rw[b];exact TTurn.same h⟩
 |true=>
  unfold jY kD ve;rw[d,if_pos rfl,if_pos rfl,if_pos rfl];rcases wU d with rfl|rfl;exact ztk h n;exact ztl h n
theorem ztc(h:TO w B H u s)(i:Int):Calls Tryz.prog 76 #[.pointer (some ⟨H,0,none⟩),.int .i64 i] w λa E=>a=.returned (zN (Lk.xU s.ls i))/\TTurn w E B H u (jf s i):=by
 have HW:=Lk.zj8 h.l i;have b:Hid (∀E,Lk.Turn (λi=>w.cell? ⟨H,i,none⟩) w E 212 502 B H u.v (Lk.yI s.ls i)->TTurn w E B H u (jf s i)):=λE c=>TTurn.l h c;clear h;generalize zN (Lk.xU s.ls i)=e at HW |-;go_enter Tryz.func76,Tryz.ntmps76
 go_wp2_with (go_at_call 103;refine HW.mono ?_;rintro a f ⟨rfl,d⟩);go_ret;exact⟨rfl,b.out _ d⟩
theorem ztv(h:TO w B H u s)(i:Int):Calls Tryz.prog 77 #[.pointer (some ⟨H,0,none⟩),.int .i64 i] w λa E=>a=.returned (zN (Lk.xk s.ls i))/\TTurn w E B H u (yS s i):=by
 have HW:=Lk.ztx h.l i;have b:Hid (∀E,Lk.Turn (λi=>w.cell? ⟨H,i,none⟩) w E 212 502 B H u.v (Lk.vg s.ls i)->TTurn w E B H u (yS s i)):=λE c=>TTurn.l h c;clear h;generalize zN (Lk.xk s.ls i)=e at HW |-;go_enter Tryz.func77,Tryz.ntmps77
 go_wp2_with (go_at_call 104;refine HW.mono ?_;rintro a f ⟨rfl,d⟩);go_ret;exact⟨rfl,b.out _ d⟩
theorem zst(h:TO w B H u s):Cs 80 #[.pointer (some ⟨H,0,none⟩)] w (.int .i64 (s.ls.length:Int)):=by
 have HW:=Lk.QD h.l;clear h;generalize s.ls.length=m at HW |-;go_enter Tryz.func80,Tryz.ntmps80
 go_wp2_with (go_at_call 97;refine HW.mono ?_;rintro a c ⟨rfl,b⟩;obtain rfl:=b.symm);go_ret;exact⟨rfl,rfl⟩
theorem zts(H:Nat)(a:Int)(w:World)(c:Lk.qN a=false):Cs 74 #[.pointer (some ⟨H,0,none⟩),.int .i64 a] w (.iface 133 (.int .i64 1)):=by
 have d:=Vy H a w c;clear c;go_enter Tryz.func74,Tryz.ntmps74
 go_wp2_with (go_at_call 95;refine d.mono ?_;rintro b f ⟨rfl,e⟩;obtain rfl:=e.symm);go_ret;exact⟨rfl,rfl⟩
theorem ztq(h:TO w B H u s)(c:40<=s.ls.length):Cs 74 #[.pointer (some ⟨H,0,none⟩),.int .i64 0] w (.iface 133 (.int .i64 4)):=by
 have b:=JO H w;have HC:=Lk.QD h.l;have d:(40:Int)<=(s.ls.length:Int):=by omega
 clear h c;generalize s.ls.length=m at HC d;go_enter Tryz.func74,Tryz.ntmps74
 go_wp2_with (first|(go_at_call 95;refine b.mono ?_;rintro a g ⟨rfl,e⟩;obtain rfl:=e.symm)|(go_at_call 97;refine HC.mono ?_;rintro a i ⟨rfl,f⟩;obtain rfl:=f.symm));go_ret;exact⟨rfl,rfl⟩
theorem ztt(h:TO w B H u s)(t:s.ls.length<40)(f:xV s.a=0)(n:V.Forms w)(l:Cnts w):Calls Tryz.prog 74 #[.pointer (some ⟨H,0,none⟩),.int .i64 0] w λc E=>c=.returned .nilIface/\TTurn w E B H u {s with a:=q9 s.a,ls:=s.ls++[(1,qP s.a)]}:=by
 have p:=JO H w;have HC:=Lk.QD h.l;have z:=JQ 0 w.drew rfl;have HM:=Ez.aO (h.below ((Below.refl _ w).drew)).a (Ez.Yt h.ia) (n.below ((Below.refl _ w).drew)) (l.below ((Below.refl _ w).drew));have HK:Hid (∀d,Ez.TurnP 0 (λi=>w.cell? ⟨H,i,none⟩) w.drew d B H u.la u.ca (q9 s.a)->∃j,TO d B H j {s with a:=q9 s.a}/\(Calls Tryz.prog 98 #[.pointer (some ⟨H,502,none⟩),.int .i64 1,.string (qP s.a)] d λc E=>c=.returned .nilIface/\TTurn w E B H u {s with a:=q9 s.a,ls:=s.ls++[(1,qP s.a)]})):=by
  show∀d,_->_;intro d y;obtain⟨j,e,r,U⟩:=TTurn.drew (TTurn.a (h.below ((Below.refl _ w).drew)) y);refine⟨j,e,?_⟩;have k:Lk.kJ s.ls 1 (qP s.a)=0:=by
   unfold Lk.kJ;rw[if_pos (show Lk.qN 1=true from rfl),if_neg (by have:=Za f;omega)]
  have x:=Lk.Vh e.l 1 (qP s.a) (by have:=Za f;omega);refine x.mono λc E ⟨a,b⟩=>⟨?_,?_⟩;rw [a,k,jm];rw [Lk.Vg k]at b;exact TTurn.trans e r U (TTurn.l e b)
 have v:¬(40:Int)<=(s.ls.length:Int):=by omega
 clear h t f n l;generalize s.ls.length=m at HC v;generalize({s with a:=q9 s.a,ls:=s.ls++[(1,qP s.a)]}:Tt)=D at HK |-;generalize qP s.a=A at HM HK;go_enter Tryz.func74,Tryz.ntmps74
 go_wp2_with (first|(go_at_call 95;refine p.mono ?_;rintro c I ⟨rfl,Q⟩;obtain rfl:=Q.symm)|(go_at_call 97;refine HC.mono ?_;rintro c d ⟨rfl,g⟩;obtain rfl:=g.symm));go_region_with (first|(go_at_call 99;refine(JQ 0 _ rfl).mono ?_;rintro c d ⟨rfl,g⟩;obtain rfl:=g.symm)|(go_at_call 100;refine HM.mono ?_;rintro c o ⟨rfl,F⟩;obtain⟨G,C,q⟩:=HK.out o F)|(go_at_call 98;refine q.mono ?_;rintro c J ⟨rfl,P⟩))
 all_goals (try go_wp2_with fail)
 all_goals go_ret
 all_goals exact⟨rfl,P⟩
theorem ztr(h:TO w B H u s)(c:40<=s.ls.length):Cs 74 #[.pointer (some ⟨H,0,none⟩),.int .i64 1] w (.iface 133 (.int .i64 4)):=by
 have b:=JP H w;have HC:=Lk.QD h.l;have d:(40:Int)<=(s.ls.length:Int):=by omega
 clear h c;generalize s.ls.length=m at HC d;go_enter Tryz.func74,Tryz.ntmps74
 go_wp2_with (first|(go_at_call 95;refine b.mono ?_;rintro a g ⟨rfl,e⟩;obtain rfl:=e.symm)|(go_at_call 97;refine HC.mono ?_;rintro a i ⟨rfl,f⟩;obtain rfl:=f.symm));go_ret;exact⟨rfl,rfl⟩
theorem ztu(h:TO w B H u s)(t:s.ls.length<40)(f:xV s.b=0)(n:V.Forms w)(l:Cnts w):Calls Tryz.prog 74 #[.pointer (some ⟨H,0,none⟩),.int .i64 1] w λc E=>c=.returned .nilIface/\TTurn w E B H u {s with b:=q9 s.b,ls:=s.ls++[(0,qP s.b)]}:=by
 have p:=JP H w;have HC:=Lk.QD h.l;have z:=JQ 1 w.drew rfl;have HM:=Ez.aO (h.below ((Below.refl _ w).drew)).b (Ez.Yt h.ib) (n.below ((Below.refl _ w).drew)) (l.below ((Below.refl _ w).drew));have HK:Hid (∀d,Ez.TurnP 251 (λi=>w.cell? ⟨H,i,none⟩) w.drew d B H u.lb u.cb (q9 s.b)->∃j,TO d B H j {s with b:=q9 s.b}/\(Calls Tryz.prog 98 #[.pointer (some ⟨H,502,none⟩),.int .i64 0,.string (qP s.b)] d λc E=>c=.returned .nilIface/\TTurn w E B H u {s with b:=q9 s.b,ls:=s.ls++[(0,qP s.b)]})):=by
  show∀d,_->_;intro d y;obtain⟨j,e,r,U⟩:=TTurn.drew (TTurn.b (h.below ((Below.refl _ w).drew)) y);refine⟨j,e,?_⟩;have k:Lk.kJ s.ls 0 (qP s.b)=0:=by
   unfold Lk.kJ;rw[if_pos (show Lk.qN 0=true from rfl),if_neg (by have:=Za f;omega)]
  have x:=Lk.Vh e.l 0 (qP s.b) (by have:=Za f;omega);refine x.mono λc E ⟨a,b⟩=>⟨?_,?_⟩;rw [a,k,jm];rw [Lk.Vg k]at b;exact TTurn.trans e r U (TTurn.l e b)
 have v:¬(40:Int)<=(s.ls.length:Int):=by omega
 clear h t f n l;generalize s.ls.length=m at HC v;generalize({s with b:=q9 s.b,ls:=s.ls++[(0,qP s.b)]}:Tt)=D at HK |-;generalize qP s.b=A at HM HK;go_enter Tryz.func74,Tryz.ntmps74
 go_wp2_with (first|(go_at_call 95;refine p.mono ?_;rintro c I ⟨rfl,Q⟩;obtain rfl:=Q.symm)|(go_at_call 97;refine HC.mono ?_;rintro c d ⟨rfl,g⟩;obtain rfl:=g.symm));go_region_with (first|(go_at_call 99;refine(JQ 1 _ rfl).mono ?_;rintro c d ⟨rfl,g⟩;obtain rfl:=g.symm)|(go_at_call 100;refine HM.mono ?_;rintro c o ⟨rfl,F⟩;obtain⟨G,C,q⟩:=HK.out o F)|(go_at_call 98;refine q.mono ?_;rintro c J ⟨rfl,P⟩))
 all_goals (try go_wp2_with fail)
 all_goals go_ret
 all_goals exact⟨rfl,P⟩
theorem ztp(h:TO w B H u s)(c:Int)(hm:Lk.qN c=true->xV (s.who c)=0)(k:V.Forms w)(j:Cnts w):Calls Tryz.prog 74 #[.pointer (some ⟨H,0,none⟩),.int .i64 c] w λg E=>g=.returned (zN (jH s c))/\TTurn w E B H u (xy s c):=by
 cases e:Lk.qN c with
 |false=>
  have d:jH s c=1:=by unfold jH;rw[e,if_neg (by decide)]
  have f:xy s c=s:=by unfold xy;rw[d,if_neg (by decide)]
  rw[d,f,qj (by decide)];exact(zts H c w e).mono λg E ⟨a,b⟩=>⟨a,by rw[b];exact TTurn.same h⟩
 |true=>
  have hm:=hm e;by_cases i:40<=s.ls.length;have d:jH s c=4:=by unfold jH;rw[e,if_pos rfl,if_pos i]
  have f:xy s c=s:=by unfold xy;rw[d,if_neg (by decide)]
  rw[d,f,qj (by decide)];rcases wU e with rfl|rfl;exact (ztq h i).mono λg E ⟨a,b⟩=>⟨a,by rw[b];exact TTurn.same h⟩;exact (ztr h i).mono λg E ⟨a,b⟩=>⟨a,by rw[b];exact TTurn.same h⟩;have d:jH s c=0:=by unfold jH;rw[e,if_pos rfl,if_neg i]
  have f:xy s c={s.set c (q9 (s.who c))with ls:=s.ls++[(1-c,qP (s.who c))]}:=by unfold xy;rw[d,if_pos rfl]
  rw[d,f,jm];rcases wU e with rfl|rfl;exact ztt h (by omega) hm k j;exact ztu h (by omega) hm k j
theorem zss(h:TO w B H u s)(i:Int)(b:Lk.qa s.ls i=false):Cs 75 #[.pointer (some ⟨H,0,none⟩),.int .i64 i] w (.iface 133 (.int .i64 1)):=by
 have c:=Lk.Yk h.l i b;clear h b;go_enter Tryz.func75,Tryz.ntmps75
 go_wp2_with (go_at_call 101;refine c.mono ?_;rintro a e ⟨rfl,d⟩;obtain rfl:=d.symm);go_ret;exact⟨rfl,rfl⟩
variable {Y:World}
theorem zsp(h:TO w Y.heap.size H u s)(f:V.Forms Y/\Cnts Y)(j:Below Y.heap.size Y w)(p:Nat)(l:p<s.ls.length)(c:ByteArray)(g:Lk.at' s.ls p=(0,c)):Calls Tryz.prog 75 #[.pointer (some ⟨H,0,none⟩),.int .i64 (p:Int)] w λe E=>e=.returned (zN (qD s.a c).1)/\TTurn w E Y.heap.size H u {s with a:=(qD s.a c).2,ls:=Lk.qB s.ls p}:=by
 have hz:=(h.il.ok _ (Lk.at_mem l)).2;rw[g]at hz;have HG:=Lk.KM h.l p l (p:Int) rfl;rw[g]at HG;have HK:Hid (∀d,Lk.Turn (λi=>w.cell? ⟨H,i,none⟩) w d 212 502 Y.heap.size H u.v (Lk.qB s.ls p)->Calls Tryz.prog 102 #[.pointer (some ⟨H,0,none⟩),.string c] d λe E=>e=.returned (zN (qD s.a c).1)/\TTurn w E Y.heap.size H u {s with a:=(qD s.a c).2,ls:=Lk.qB s.ls p}):=by
  show∀d,_->_;intro d y;obtain⟨z,m,q,P⟩:=TTurn.l h y;have r:Below Y.heap.size Y d:=j.trans (q.below (λk x=>(h.own_lt x).1) j.size);exact(Ez.Y1 m.a c (by simp only at hz;omega) (f.1.below r) (f.2.below r) (λn U v=>eQ v)).mono λe E ⟨a,b⟩=>⟨a,TTurn.trans m q P (TTurn.a m b)⟩
 clear h l g hz f j;generalize zN (qD s.a c).1=Q at HK |-;generalize({s with a:=(qD s.a c).2,ls:=Lk.qB s.ls p}:Tt)=o at HK |-;go_enter Tryz.func75,Tryz.ntmps75
 go_wp2_with (first|(go_at_call 101;refine HG.mono ?_;rintro e d ⟨rfl,B⟩;have t:=HK.out d B)|(go_at_call 102;refine t.mono ?_;rintro e A ⟨rfl,F⟩));go_ret;exact⟨rfl,F⟩
theorem zsq(h:TO w Y.heap.size H u s)(f:V.Forms Y/\Cnts Y)(j:Below Y.heap.size Y w)(p:Nat)(l:p<s.ls.length)(c:ByteArray)(g:Lk.at' s.ls p=(1,c)):Calls Tryz.prog 75 #[.pointer (some ⟨H,0,none⟩),.int .i64 (p:Int)] w λe E=>e=.returned (zN (qD s.b c).1)/\TTurn w E Y.heap.size H u {s with b:=(qD s.b c).2,ls:=Lk.qB s.ls p}:=by
 have hz:=(h.il.ok _ (Lk.at_mem l)).2;rw[g]at hz;have HG:=Lk.KM h.l p l (p:Int) rfl;rw[g]at HG;have HK:Hid (∀d,Lk.Turn (λi=>w.cell? ⟨H,i,none⟩) w d 212 502 Y.heap.size H u.v (Lk.qB s.ls p)->Calls Tryz.prog 102 #[.pointer (some ⟨H,251,none⟩),.string c] d λe E=>e=.returned (zN (qD s.b c).1)/\TTurn w E Y.heap.size H u {s with b:=(qD s.b c).2,ls:=Lk.qB s.ls p}):=by
  show∀d,_->_;intro d y;obtain⟨z,m,q,P⟩:=TTurn.l h y;have r:Below Y.heap.size Y d:=j.trans (q.below (λk x=>(h.own_lt x).1) j.size);exact(Ez.Y1 m.b c (by simp only at hz;omega) (f.1.below r) (f.2.below r) (λn U v=>eQ v)).mono λe E ⟨a,b⟩=>⟨a,TTurn.trans m q P (TTurn.b m b)⟩
 clear h l g hz f j;generalize zN (qD s.b c).1=Q at HK |-;generalize({s with b:=(qD s.b c).2,ls:=Lk.qB s.ls p}:Tt)=o at HK |-;go_enter Tryz.func75,Tryz.ntmps75
 go_wp2_with (first|(go_at_call 101;refine HG.mono ?_;rintro e d ⟨rfl,B⟩;have t:=HK.out d B)|(go_at_call 102;refine t.mono ?_;rintro e A ⟨rfl,F⟩));go_ret;exact⟨rfl,F⟩
theorem zsr(h:TO w Y.heap.size H u s)(f:V.Forms Y/\Cnts Y)(g:Below Y.heap.size Y w)(i:Int):Calls Tryz.prog 75 #[.pointer (some ⟨H,0,none⟩),.int .i64 i] w λd E=>d=.returned (zN (vT s i))/\TTurn w E Y.heap.size H u (ko s i):=by
 cases hi:Lk.qa s.ls i with
 |false=>
  unfold vT ko;rw[hi,if_neg (by decide),if_neg (by decide),qj (by decide)];exact(zss h i hi).mono λd E ⟨a,b⟩=>⟨a,by rw[b];exact TTurn.same h⟩
 |true=>
  obtain⟨p,rfl,c⟩:=Lk.Zi hi;unfold vT ko;rw[hi,if_pos rfl,if_pos rfl,Int.toNat_natCast];have j:=(h.il.ok _ (Lk.at_mem c)).1;have ha:Lk.at' s.ls p=((Lk.at' s.ls p).1,(Lk.at' s.ls p).2):=rfl;rcases wU j with e|e;rw [e]at ha |-;exact zsp h f g p c _ ha;rw [e]at ha |-;exact zsq h f g p c _ ha
def zeroE:En:=⟨nilB,0,0,0,0,[],Sx.qE,⟨0,0,0,0⟩,[]⟩
def vE:Tv:=⟨(.slice none 0 0),(.slice none 0 0),(.slice none 0 0),(.slice none 0 0),(.slice none 0 0)⟩
def Kh(n:Int)(k:Nat):Tt:=⟨if 0<k then zi n else zeroE,if 1<k then zi n else zeroE,[]⟩
theorem zvg:Tryz.zeroCells107.setIfInBounds 502 (.slice none 0 0)=(row 503 (ku ⟨zeroE,zeroE,[]⟩ vE)).toArray:=by kernel_rfl
theorem iI{c:Oper}{a:Act}{K:Act->World->Prop}{Q:Exit->Act->World->Prop}{n:Nat}{f:Nat->Value}{ty:TypeId}(x:Operand)(l:c.op=.load ty x)(b o:Nat)(p:a.eval x=.pointer (some ⟨b,o,none⟩))(j:w.rangeAt b o (row n f))(m:(Tryz.prog.underlying ty).map (·.isRow)=some true)(k:(Tryz.prog.info? ty).map (·.size)=some n)(h:K (a.put c.dst (.agg (row n f).toArray)) w):c.wp Tryz.prog a w K Q:=by
 obtain⟨d,e,g,i⟩:=QK ty n m k f;exact wp_load_mid ty x l b o p (row n f) d j e g i h
theorem iJ{c:Oper}{a:Act}{W:World}{K:Act->World->Prop}{Q:Exit->Act->World->Prop}{n:Nat}{f:Nat->Value}{ty:TypeId}(x y:Operand)(k:c.op=.store ty x y)(b o:Nat)(m:a.eval x=.pointer (some ⟨b,o,none⟩))(p:a.eval y=.agg (row n f).toArray)(l:w.there b o n)(j:(Tryz.prog.info? ty).map (·.size)=some n)(d:∀i,(f i).oneCell'=true)(g:Hid (W=w.setCells b o (row n f)))(h:K (a.put c.dst undef) W):c.wp Tryz.prog a w K Q:=
 wp_store_mid ty x y k b o (row n f).toArray m p (by simpa[qM]using l) (by simpa[qM]using j) (row_one λi _=>d i) (by
  have e:w.setCells b o (row n f).toArray.toList=W:=by rw[g.out]
  rw[e];exact h)
theorem below_setCells{B b:Nat}(c:B<=b){w:World}:∀(a:List Value) (o:Nat) (E:World),Below B w E->Below B w (E.setCells b o a)
 |[],_,_,h=>h
 |v::a,o,E,h=>below_setCells c a (o+1) (E.setCell ⟨b,o,none⟩ v) (h.setCell (p:=⟨b,o,none⟩) c v)
structure TNew(w:World)(B tb:Nat)(n:Int)(k:Nat):Prop where
 cl:∀i,i<503->w.cell? ⟨tb,i,none⟩=some (ku (Kh n k) vE i)
 fz:∀i,w.frozen? ⟨tb,i,none⟩=false
 hs:B<=tb
variable {n:Int}
theorem TNew.lt{k:Nat}(h:TNew w B H n k):H<w.heap.size:=World.block_lt_of_cell? w _ (h.cl 60 (by omega))
theorem TNew.all(a:Cx.vL n=true)(h:TNew w B H n 2):TO w B H vE (zQ n):=
 ⟨EInv.new a,EInv.new a,Lk.Inv.start,h.cl,h.fz,h.hs,World.ownsRow_nil _ _ _ _,World.ownsRow_nil _ _ _ _,World.ownsRow_nil _ _ _ _,World.ownsRow_nil _ _ _ _,World.ownsRow_nil _ _ _ _,by simp[vE,Value.ownBlock],λk b=>by simp[vE,Value.ownBlock],λk b=>by simp[vE,Value.ownBlock]⟩
theorem TNew.start(w:World)(a:B<=w.heap.size)(n:Int):TNew (w.alloc (.cells (row 503 (ku ⟨zeroE,zeroE,[]⟩ vE)).toArray 107)) B w.heap.size n 0:=
 ⟨λi b=>by simp[row,b];rfl,λi=>by simp,a⟩
theorem TNew.step0{c a:World}{o:Nat}(h:TNew c w.heap.size H n 0)(k:Below w.heap.size w c)(m:EO a c.heap.size o (.slice none 0 0) (.slice none 0 0) (zi n))(d:Below c.heap.size c a):
  ∃W,Hid (W=a.drew.setCells H 0 (row 251 (zM (zi n) (.slice none 0 0) (.slice none 0 0))))/\a.drew.there H 0 251/\a.drew.rangeAt o 0 (row 251 (zM (zi n) (.slice none 0 0) (.slice none 0 0)))/\W.rangeAt o 0 (row 251 (zM (zi n) (.slice none 0 0) (.slice none 0 0)))/\TNew W w.heap.size H n 1/\Hid (Below w.heap.size w W):=by
 have f:∀i,i<503->a.drew.cell? ⟨H,i,none⟩=some (ku (Kh n 0) vE i):=λi b=>(d.cell (p:=⟨H,i,none⟩) h.lt).trans (h.cl i b);have e:∀i,a.drew.frozen? ⟨H,i,none⟩=false:=λi=>(World.frozen?_of_block (d.block H h.lt)).trans (h.fz i);have u:o≠H:=by have:=m.hs;have:=h.lt;omega
 have r:a.drew.there H 0 251:=λj l=>⟨by rw[f _ (by omega)];rfl,e _⟩;have q:a.drew.rangeAt o 0 (row 251 (zM (zi n) (.slice none 0 0) (.slice none 0 0))):=vZ λi b=>by rw[Nat.zero_add];exact m.cl i b
 have t:Below w.heap.size w a.drew:=(k.trans (d.mono k.size)).drew;have s:Below w.heap.size w (a.drew.setCells H 0 (row 251 (zM (zi n) (.slice none 0 0) (.slice none 0 0)))):=below_setCells (by exact h.hs) _ _ _ t;refine⟨_,rfl,r,q,World.rangeAt_setCells_apart q _ _ _ (.inl u),⟨λi b=>?_,λi=>by rw[World.frozen?_setCells];exact e i,h.hs⟩,s⟩;by_cases g:0<=i/\i<251;obtain ⟨j,l⟩:∃j,i=0+j:=⟨i-0,by omega⟩;have:=jk (World.rangeAt_setCells_same a.drew H 0 (row 251 (zM (zi n) (.slice none 0 0) (.slice none 0 0))) (by rw[qM];exact r)) (i:=j) (by omega);rw[l,this];refine congrArg some ?_;rw[Nat.zero_add,Vr (by omega)];rfl
 rw [World.cell?_setCells_out H _ 0 _ _ (λ_ _=>by rw[qM];show i<0\/0+251<=i;omega),f i b];refine congrArg some ?_;unfold ku;simp only[if_neg (show¬i<251 by omega)];rfl
theorem TNew.step1{c a:World}{o:Nat}(h:TNew c w.heap.size H n 1)(l:Below w.heap.size w c)(q:EO a c.heap.size o (.slice none 0 0) (.slice none 0 0) (zi n))(e:Below c.heap.size c a):
  ∃W,Hid (W=a.drew.setCells H 251 (row 251 (zM (zi n) (.slice none 0 0) (.slice none 0 0))))/\a.drew.there H 251 251/\a.drew.rangeAt o 0 (row 251 (zM (zi n) (.slice none 0 0) (.slice none 0 0)))/\W.rangeAt o 0 (row 251 (zM (zi n) (.slice none 0 0) (.slice none 0 0)))/\TNew W w.heap.size H n 2/\Hid (Below w.heap.size w W):=by
 have k:∀i,i<503->a.drew.cell? ⟨H,i,none⟩=some (ku (Kh n 1) vE i):=λi b=>(e.cell (p:=⟨H,i,none⟩) h.lt).trans (h.cl i b);have f:∀i,a.drew.frozen? ⟨H,i,none⟩=false:=λi=>(World.frozen?_of_block (e.block H h.lt)).trans (h.fz i);have v:o≠H:=by have:=q.hs;have:=h.lt;omega
 have s:a.drew.there H 251 251:=λj m=>⟨by rw[k _ (by omega)];rfl,f _⟩;have r:a.drew.rangeAt o 0 (row 251 (zM (zi n) (.slice none 0 0) (.slice none 0 0))):=vZ λi b=>by rw[Nat.zero_add];exact q.cl i b
 have u:Below w.heap.size w a.drew:=(l.trans (e.mono l.size)).drew;have t:Below w.heap.size w (a.drew.setCells H 251 (row 251 (zM (zi n) (.slice none 0 0) (.slice none 0 0)))):=below_setCells (by exact h.hs) _ _ _ u;refine⟨_,rfl,s,r,World.rangeAt_setCells_apart r _ _ _ (.inl v),⟨λi b=>?_,λi=>by rw[World.frozen?_setCells];exact f i,h.hs⟩,t⟩;by_cases g:251<=i/\i<502;obtain ⟨j,m⟩:∃j,i=251+j:=⟨i-251,by omega⟩;have:=jk (World.rangeAt_setCells_same a.drew H 251 (row 251 (zM (zi n) (.slice none 0 0) (.slice none 0 0))) (by rw[qM];exact s)) (i:=j) (by omega);rw[m,this];refine congrArg some ?_;rw[Vs (by omega) (by omega),show 251+j-251=j by omega];rfl
 rw [World.cell?_setCells_out H _ 251 _ _ (λ_ _=>by rw[qM];show i<251\/251+251<=i;omega),k i b];refine congrArg some ?_;unfold ku;by_cases d:i<251;rw [if_pos d,if_pos d];rfl;rw [if_neg d,if_neg d,if_neg (by omega),if_neg (by omega)]
theorem ztd(n:Int)(w:World)(F:Cx.vL n=true):Calls Tryz.prog 30 #[.int .i64 n] w λj E=>∃H,j=.returned (.tuple #[.pointer (some ⟨H,0,none⟩),.nilIface])/\TO E w.heap.size H vE (zQ n)/\Below w.heap.size w E:=by
 have hst:TNew ((w.alloc (.cells #[.slice none 0 0] 93)).alloc (.cells (row 503 (ku ⟨zeroE,zeroE,[]⟩ vE)).toArray 107)) w.heap.size (w.alloc (.cells #[.slice none 0 0] 93)).heap.size n 0:=TNew.start _ (by simp) n;rw[World.size_alloc,<-zvg]at hst;have HST:Hid (TNew ((w.alloc (.cells #[.slice none 0 0] 93)).alloc (.cells (Tryz.zeroCells107.setIfInBounds 502 (.slice none 0 0)) 107)) w.heap.size (w.heap.size+1) n 0):=hst
 have HB0:Hid (Below w.heap.size w ((w.alloc (.cells #[.slice none 0 0] 93)).alloc (.cells (Tryz.zeroCells107.setIfInBounds 502 (.slice none 0 0)) 107))):=((Below.refl _ _).alloc (Nat.le_refl _) _).alloc (by simp) _;have m:=zC F;have B:Hid (∀i,(zM (zi n) (.slice none 0 0) (.slice none 0 0) i).oneCell'=true):=λi=>XH rfl rfl i;clear F hst;go_enter Tryz.func30,Tryz.ntmps30
 go_wp2_with (go_at_call 46;refine(Lk.Ki w).mono ?_;rintro j P ⟨rfl,U⟩;subst U);generalize(w.alloc (.cells #[.slice none 0 0] 93)).alloc (.cells (Tryz.zeroCells107.setIfInBounds 502 (.slice none 0 0)) 107)=z at HST HB0 |-;generalize w.heap.size+1=H at HST |-;go_loopg [13] 2 (λQ V wr=>∃k:Nat,Q+k=2/\V=.int .i64 (k:Int)/\TNew wr w.heap.size H n k/\Hid (Below w.heap.size w wr))
 case atStart=>exact⟨0,rfl,rfl,HST.out,HB0⟩
 case round=>
  obtain⟨k,A,rfl,hT,l⟩:=hrel;clear HST HB0;obtain rfl|rfl|rfl:k=0\/k=1\/k=2:=by omega
  .have g:(((0:Nat):Int))<2:=by omega
   go_wp2_with (go_at_call 47;refine(Xf n wr m.out).mono ?_;rintro j P ⟨e,rfl,u,s⟩);obtain⟨W,p,y,x,t,r,q⟩:=TNew.step0 hT l.out u s;go_wp2_with fail;refine wp_region_noPanic ?_;refine wp_region_held_drew (S:=λX=>X.rangeAt e 0 (row 251 (zM (zi n) (.slice none 0 0) (.slice none 0 0)))) (by kernel_rfl) x (λc=>?_);refine zI 0 (.pointer (some ⟨H,0,none⟩)) rfl (by kernel_rfl) rfl (by assumption) ?_ ?_;.intro b a;clear a;go_simp
   try simp only[Act.put,zD,zF,zG]
   refine zI 1 (.int .i64 0) rfl (by kernel_rfl) rfl (by assumption) ?_ ?_;.intro b a;clear a;go_simp
   try simp only[Act.put,zD,zF,zG]
   refine zI 2 (.pointer (some ⟨e,0,none⟩)) rfl (by kernel_rfl) rfl (by assumption) ?_ ?_;.intro b a;clear a;go_simp
   try simp only[Act.put,zD,zF,zG]
   refine zI 3 (.pointer (some ⟨e,0,none⟩)) rfl (by kernel_rfl) rfl (by assumption) ?_ ?_;.intro b a;clear a;go_simp
   try simp only[Act.put,zD,zF,zG]
   refine zI 5 (.pointer (some ⟨H,0,none⟩)) rfl (by kernel_rfl) rfl (by assumption) ?_ ?_;.intro b a;clear a;go_simp
   try simp only[Act.put,zD,zF,zG]
   refine zI 6 (.pointer (some ⟨H,0,none⟩)) rfl (by kernel_rfl) rfl (by assumption) ?_ ?_;.intro b a;clear a;go_simp
   try simp only[Act.put,zD,zF,zG]
   refine wpAnyH_ready (rs:=[4]) (by kernel_rfl) (by simp) ?_;refine AllReadyH.cons (o:= ⟨some 28,.load 104 (.tmp 27),104,"talk.go:26",#[⟨3,.data⟩],none⟩) rfl (λK d=>?_) AllReadyH.nil;rw[if_pos (by rfl)];refine iI (n:=251) (f:=zM (zi n) (.slice none 0 0) (.slice none 0 0)) (ty:=104) (.tmp 27) rfl e 0 rfl c (by kernel_rfl) (by kernel_rfl) ?_;refine d.out _ _ c (λc=>?_);clear d K;try simp only[Act.put,zD,zF,zG]
   refine zI 7 (.pointer (some ⟨H,0,none⟩)) rfl (by kernel_rfl) rfl (by assumption) ?_ ?_;.intro b a;clear a;go_simp
   try simp only[Act.put,zD,zF,zG]
   refine wpAnyH_ready (rs:=[8]) (by kernel_rfl) (by simp) ?_;refine AllReadyH.cons (o:= ⟨none,.store 104 (.tmp 31) (.tmp 28),0,"talk.go:26",#[⟨7,.data⟩,⟨4,.data⟩,⟨0,.phase⟩,⟨1,.phase⟩,⟨2,.phase⟩,⟨3,.phase⟩,⟨4,.phase⟩],none⟩) rfl (λK d=>?_) AllReadyH.nil;rw[if_pos (by rfl)];refine iJ (n:=251) (f:=zM (zi n) (.slice none 0 0) (.slice none 0 0)) (ty:=104) (.tmp 31) (.tmp 28) rfl H 0 rfl rfl y (by kernel_rfl) B.out p ?_
   refine d.out _ _ t (λc=>?_);clear d K c;try simp only[Act.put,zD,zF,zG]
   refine wpAnyH_done (by kernel_rfl) (NoPanic.normal ?_) _;go_wp2_with fail;go_roundg 1
   case measure=>omega
   case rel=>exact⟨1,by omega,rfl,r,q⟩
  .have g:(((1:Nat):Int))<2:=by omega
   go_wp2_with (go_at_call 47;refine(Xf n wr m.out).mono ?_;rintro j P ⟨e,rfl,u,s⟩);obtain⟨W,p,y,x,t,r,q⟩:=TNew.step1 hT l.out u s;go_wp2_with fail;refine wp_region_noPanic ?_;refine wp_region_held_drew (S:=λX=>X.rangeAt e 0 (row 251 (zM (zi n) (.slice none 0 0) (.slice none 0 0)))) (by kernel_rfl) x (λc=>?_);refine zI 0 (.pointer (some ⟨H,0,none⟩)) rfl (by kernel_rfl) rfl (by assumption) ?_ ?_;.intro b a;clear a;go_simp
   try simp only[Act.put,zD,zF,zG]
   refine zI 1 (.int .i64 1) rfl (by kernel_rfl) rfl (by assumption) ?_ ?_;.intro b a;clear a;go_simp
   try simp only[Act.put,zD,zF,zG]
   refine zI 2 (.pointer (some ⟨e,0,none⟩)) rfl (by kernel_rfl) rfl (by assumption) ?_ ?_;.intro b a;clear a;go_simp
   try simp only[Act.put,zD,zF,zG]
   refine zI 3 (.pointer (some ⟨e,0,none⟩)) rfl (by kernel_rfl) rfl (by assumption) ?_ ?_;.intro b a;clear a;go_simp
   try simp only[Act.put,zD,zF,zG]
   refine zI 5 (.pointer (some ⟨H,0,none⟩)) rfl (by kernel_rfl) rfl (by assumption) ?_ ?_;.intro b a;clear a;go_simp
   try simp only[Act.put,zD,zF,zG]
   refine zI 6 (.pointer (some ⟨H,0,none⟩)) rfl (by kernel_rfl) rfl (by assumption) ?_ ?_;.intro b a;clear a;go_simp
   try simp only[Act.put,zD,zF,zG]
   refine wpAnyH_ready (rs:=[4]) (by kernel_rfl) (by simp) ?_;refine AllReadyH.cons (o:= ⟨some 28,.load 104 (.tmp 27),104,"talk.go:26",#[⟨3,.data⟩],none⟩) rfl (λK d=>?_) AllReadyH.nil;rw[if_pos (by rfl)];refine iI (n:=251) (f:=zM (zi n) (.slice none 0 0) (.slice none 0 0)) (ty:=104) (.tmp 27) rfl e 0 rfl c (by kernel_rfl) (by kernel_rfl) ?_;refine d.out _ _ c (λc=>?_);clear d K;try simp only[Act.put,zD,zF,zG]
   refine zI 7 (.pointer (some ⟨H,251,none⟩)) rfl (by kernel_rfl) rfl (by assumption) ?_ ?_;.intro b a;clear a;go_simp
   try simp only[Act.put,zD,zF,zG]
   refine wpAnyH_ready (rs:=[8]) (by kernel_rfl) (by simp) ?_;refine AllReadyH.cons (o:= ⟨none,.store 104 (.tmp 31) (.tmp 28),0,"talk.go:26",#[⟨7,.data⟩,⟨4,.data⟩,⟨0,.phase⟩,⟨1,.phase⟩,⟨2,.phase⟩,⟨3,.phase⟩,⟨4,.phase⟩],none⟩) rfl (λK d=>?_) AllReadyH.nil;rw[if_pos (by rfl)];refine iJ (n:=251) (f:=zM (zi n) (.slice none 0 0) (.slice none 0 0)) (ty:=104) (.tmp 31) (.tmp 28) rfl H 251 rfl rfl y (by kernel_rfl) B.out p ?_
   refine d.out _ _ t (λc=>?_);clear d K c;try simp only[Act.put,zD,zF,zG]
   refine wpAnyH_done (by kernel_rfl) (NoPanic.normal ?_) _;go_wp2_with fail;go_roundg 0
   case measure=>omega
   case rel=>exact⟨2,by omega,rfl,r,q⟩
  have g:¬(((2:Nat):Int))<2:=by omega
  go_wp2_with fail;go_ret2
  exact⟨H,rfl,TNew.all m.out hT,l.out⟩
end Go.Proofs.YtdokgalidhmbbaaGreatDoor
