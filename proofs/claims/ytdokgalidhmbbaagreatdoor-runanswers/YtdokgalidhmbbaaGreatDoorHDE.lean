/- What the law RunAnswers needs. -/
import Derived.Test.YtdokgalidhmbbaaGreatDoorHTK
import Derived.Test.YtdokgalidhmbbaaGreatDoorHDB
import Derived.Test.YtdokgalidhmbbaaGreatDoorHDD
import Derived.Test.YtdokgalidhmbbaaGreatDoorHT
import Derived.Test.YtdokgalidhmbbaaGreatDoorHL
import Derived.Deep.LoopGhost
import Derived.Deep.DeepCutAuto
import Derived.Deep.CutBlock
import Derived.Deep.RegionWith
set_option linter.unusedVariables false
set_option linter.unusedSimpArgs false
set_option maxRecDepth 100000
set_option maxHeartbeats 8000000
namespace Go.Proofs.YtdokgalidhmbbaaGreatDoor
open Go.RowKit Go.Lib Go.Sort
variable {w:World}{B:Nat}
theorem ze4{V Y L:Nat}{vm vc:Value}{us:List Value}{md:List (List Pc)}{e:En}(h:DO w B V vm vc Y L us md e)(b:ByteArray)(ep:zU e<=1073741823)(hl:b.size<=200)(n:Int)(Q:List F)(h1:xZ b (zU e)=some (n,Q))(cs:xD e.cm n=false):Calls Tryz.prog 41 #[.pointer (some ⟨V,0,none⟩),.string b] w λex w'=>ex=.returned (.int .i64 (come e n Q).1)/\DTurn w w' B V vm vc Y L us (come e n Q).2:=by
 have J:=zC h;have HR:Hid (Row w vc e.cm):=vY h.cm (by have:=((x9 e.cm).1 h.inv.cm).1;omega);have h5:=h.lt;have c64:=h.cl 64 (by omega);rw[QG]at c64;obtain⟨ds,cc,d3⟩:=qL h.cm;rw[d3]at c64 HR;have dn:Hid (vc=.slice ds e.cm.length cc):=d3;have de:=zC ep;clear d3 ep;have au:=zC cs;have dc:Hid (qC n=true):=ZL h1;have fu:Hid (Q.length<=12):=VX h1;have dg:=YN b (zU e) w ((U.xG _).2 ⟨aZ h.inv,de.out⟩) hl n Q h1
 have HIN:=λX (hX:Below w.heap.size w X)=>Lx.fD _ e.cm n X (HR.out.below hX);rw[cs]at HIN;obtain⟨cf,cl⟩:∃cf,(come e n Q).1=cf:=⟨_,rfl⟩;rw[cl];have ar:Hid ((come e n Q).1=cf):=cl;have hz1:=zvh;have hz2:=zvd;have hz3:=zvb;have HC1:=λX=>Jf X 60 (jS e.t) (jS 0) 86;have HC2:=λX=>Jf X 61 (kC e.s) (kC s0) 138;have HC3:=λX=>Jf X 4 (zZ e.c) (zZ ⟨0,0,0,0⟩) 85;generalize(row 60 (jS 0)).toArray=Z1 at hz1 HC1;generalize(row 61 (kC s0)).toArray=Z2 at hz2 HC2
 generalize(row 4 (zZ ⟨0,0,0,0⟩)).toArray=Z3 at hz3 HC3;have ax:=gX e.t;have b4:=dZ e.s;have ak:=ZE e.c;have j3:=h.st.lt;have ij:=h.cr.lt;clear h hl h1 cs cl;go_enter Tryz.func41,Tryz.ntmps41
 go_upto_if 29 with fail
 go_cut [5] (λs5 wx=>s5=.int .i64 (zU e)/\w=wx)
 case first=>
  cases a9:e.cm with
  |nil=>
   have hn0:zU e=0:=by unfold zU;rw[a9]
   rw[a9]at c64;have c2:=zC hn0;clear hn0;have gl:¬(0:Int)<(([]:List R).length:Int):=by simp
   go_wp2_with fail;go_meet
   exact⟨by rw[c2.out],rfl⟩
  |cons r0 I=>
   have hn0:zU e=r0.2+1:=by unfold zU;rw[a9]
   have hl0:0<e.cm.length:=by rw[a9];simp
   obtain⟨b0,o0,gs,ii,hC⟩:∃b o,ds=some ⟨b,o,none⟩/\b<w.heap.size/\Cells w b o e.cm:=by
    obtain⟨ic,c',h1,_,_,h2⟩:=HR.out;injection h1 with i1 i2 i3;subst i1;rcases h2 with h2|h2;rw [h2]at hl0;simp at hl0;exact h2
   subst gs;obtain⟨_,c1⟩:=hC 0 hl0;have id:w.cell? ⟨b0,o0+1,none⟩=some (.int .i64 r0.2):=by
    rw[show o0+0*2+1=o0+1 by omega]at c1;rw[c1];simp[at',a9]
   have h6:=de.out;rw[hn0]at h6;have ai:¬(1073741823:Int)<r0.2+1:=by omega
   have it:0<=r0.2:=by
    have hg:=(x9 e.cm).1 J.out.inv.cm;have:=kG hg.2.2 r0 (by rw[a9];exact List.mem_cons_self);have:=(hg.2.1 r0 (by rw[a9];exact List.mem_cons_self)).1;omega
   generalize r0.2=z at*;have c2:Hid (zU e=z+1):=hn0;have gl:(0:Int)<((r0::I).length:Int):=by simp
   rw[a9]at c64;generalize cr:(r0::I).length=G at c64 gl |-;clear hC c1 hn0 cr a9 hl0;go_wp2_with fail;go_meet
   exact⟨by rw[c2.out],rfl⟩
 case rest=>
 obtain⟨rfl,rfl⟩:=hcut;go_wp2_with fail;refine dg.mono ?_;rintro ex w1 ⟨v1,ao,rfl,hF1,bc⟩;have hx:=(bc.cell (p:=⟨V,64,none⟩) h5).trans c64;obtain⟨a1,c1,hv1⟩:=qL hF1.own;subst hv1;clear dg;go_wp2_with fail;refine(HIN _ bc).mono ?_;rintro ex w2 ⟨rfl,ci⟩;have b6:=bc.trans (ci.mono bc.size);have ch:=hF1.below ci;clear HIN hF1 bc ci hx c64;obtain⟨W1,dp,fa,ey,ed,cj,hs1⟩:=HC1 w2;have f5:=(J.out.below b6).told_range
 go_upto_region 13 with(first|(refine vH (n:=60) (f:=jS e.t) (ty:=86) rfl (.tmp 59) rfl V 1 rfl f5 (by kernel_rfl) (by kernel_rfl) ?_)|(refine vI (n:=60) (f:=jS e.t) (ty:=86) rfl (.tmp 10) (.tmp 60) rfl w2.heap.size 0 rfl rfl fa (by kernel_rfl) ax dp ?_))
 have b7:=b6.trans (cj.mono b6.size);have dy:=ch.below cj;have HTB:Hid (TBox W1 w2.heap.size e.t):=zso ey ed;have aa:Hid (Below w.heap.size w w2):=b6;obtain⟨T,hT⟩:∃T,w2.heap.size=T:=⟨_,rfl⟩;have a8:Hid (w2.heap.size=T):=hT;rw[hT]at HTB hs1 |-;have bw:Hid (FOwn w2 w.heap.size (.slice a1 Q.length c1) ao Q):=ch;clear f5 HC1 dp fa ey ed cj b6 ch hT hz1 ax;have b9:=J.out.below b7;have d61:=b9.cl 61 (by omega)
 have d63:=b9.cl 63 (by omega);have d65:=b9.cl 65 (by omega);rw[YF]at d61;rw[YE]at d63;rw[XF]at d65;have f6:=VZ b9.st;obtain⟨W2,dq,fb,f0,ee,bp,hs2⟩:=HC2 W1;clear b9;go_upto_region 16 with(first|(refine vH (n:=61) (f:=kC e.s) (ty:=138) rfl (.tmp 73) rfl Y 0 rfl f6 (by kernel_rfl) (by kernel_rfl) ?_)|(refine vI (n:=61) (f:=kC e.s) (ty:=138) rfl (.tmp 13) (.tmp 74) rfl W1.heap.size 0 rfl rfl fb (by kernel_rfl) b4 dq ?_))
 have b8:=b7.trans (bp.mono b7.size);have dz:=dy.below bp;have dk:Hid (TBox W2 T e.t):=HTB.out.below bp;have HSB:Hid (Sx.Ref W2 B W1.heap.size e.s):=fA J.out.inv.s f0 (λi _=>ee i) (Nat.le_trans J.out.le b7.size);obtain⟨S,hS⟩:∃S,W1.heap.size=S:=⟨_,rfl⟩;have di:Hid (T<S):=by rw[<-hS];exact hs1
 rw[hS]at HSB hs2 |-;clear f6 HC2 dq fb f0 ee bp b7 dy hS hz2 b4 HTB hs1 d61 d63 d65;have ce:=J.out.below b8;have d66:=ce.cl 66 (by omega);rw[QJ]at d66;have f7:=Xr ce.cr;obtain⟨W3,dr,fc,f1,ef,bd,ha⟩:=HC3 W2;clear ce;go_upto_region 17 with(first|(refine vH (n:=4) (f:=zZ e.c) (ty:=85) rfl (.tmp 79) rfl L 0 rfl f7 (by kernel_rfl) (by kernel_rfl) ?_)|(refine vI (n:=4) (f:=zZ e.c) (ty:=85) rfl (.tmp 14) (.tmp 80) rfl W2.heap.size 0 rfl rfl fc (by kernel_rfl) ak dr ?_))
 have dw:=b8.trans (bd.mono b8.size);have HOF:Hid (FOwn W3 w.heap.size (.slice a1 Q.length c1) ao Q):=dz.below bd;have ae:Hid (Below w.heap.size w W3):=dw;obtain⟨C,hC⟩:∃C,W2.heap.size=C:=⟨_,rfl⟩;have W:Hid (T<S/\S<C):=by
  have:=di.out;exact⟨this,by rw[<-hC];exact hs2⟩
 have fj:Hid (DT W3 W3 B T S C e):=by
  have j4:=W.out;refine⟨dk.out.below bd,HSB.out.below bd,?_,Off.refl _ _,by omega,by omega,by omega⟩;rw[<-hC];exact Jd J.out.inv.c f1 ef (Nat.le_trans J.out.le b8.size)
 rw[hC];clear f7 HC3 dr fc f1 ef bd b8 dw dz hC hz3 ak dk HSB di d66 hs2 ha;have HFB:Hid (∀q,((Value.slice a1 Q.length c1).ownBlock=some q\/∃j,j<Q.length/\(xI ao j).ownBlock=some q)->q<T):=by
  show∀q,_->_;intro q hq;rw[<-a8.out];rcases hq with hq|⟨j,P,hq⟩;exact (bw.out.own.lt q hq).2;exact Qj bw.out P hq
 clear bw;generalize hM:Q.length=m at HOF HFB |-;have HM:Hid (Q.length=m):=hM;clear hM;go_wp2_with fail;go_loopg [11,12,15] m (λgk i0 i4 i5 wr=>∃(k:Nat) (x:En),gk+k=m/\i0=.int .i64 x.l/\i4=.int .i64 x.k/\i5=.int .i64 k/\Hid (runF Q e=runF (Q.drop k) x)/\Hid (EInv x)/\Hid (x.d=e.d/\x.m=e.m/\x.ls=e.ls/\x.cm=e.cm/\e.t<=x.t)/\Hid (DT W3 wr B T S C x))
 case atStart=>exact⟨0,e,by omega,rfl,rfl,rfl,rfl,J.out.inv,(show _/\_ from⟨rfl,rfl,rfl,rfl,Nat.le_refl _⟩),fj⟩
 case round=>
  obtain⟨k,x,hk,rfl,rfl,rfl,dh,O,a4,HD⟩:=hrel;have HK:Hid (gk+k=m):=hk;clear hk;have WW:=HD.out.off;have iu:m<=12:=by have:=fu.out;have:=HM.out;omega
  by_cases g:(k:Int)<(m:Int)
  .have HOFr:Hid (FOwn wr w.heap.size (.slice a1 m c1) ao Q):=HOF.out.off WW (λq hq e1=>by have:=HFB.out q (.inl hq);have:=W.out;rcases e1 with e1|e1|e1<;>omega) (λj P q hq e1=>by have:=HFB.out q (.inr ⟨j,by have:=HM.out;omega,hq⟩);have:=W.out;rcases e1 with e1|e1|e1<;>omega);have be:k<Q.length:=by have:=HM.out;omega
   obtain⟨gb,ie,hv1,_,ip⟩:=HOFr.out.own.form (by have:=HM.out;omega);rw[HM.out]at hv1;injection hv1 with i1 i2 i3;subst i1 i3;have hown:=HOFr.out.own;rw[HM.out]at hown;have fg:=QP ao Q k HOFr.out.len be;have y0:=hown.cellAt (k*3) (by omega);have y1:=hown.cellAt (k*3+1) (by omega);have y2:=hown.cellAt (k*3+2) (by omega);rw[fg.1]at y0;rw[fg.2.1]at y1;rw[fg.2.2]at y2;have d0:=HOFr.out.rows k be;have cp:=HOFr.out.good k be
   have hdr:=Jv be;have HRN:Hid (runF Q e=runF (zS Q k::Q.drop (k+1)) x):=by show _=_;rw[dh.out,hdr]
   have hsz:=XK cp;have bs:∀q,(xI ao k).ownBlock=some q->q<T:=λq hq=>HFB.out q (.inr ⟨k,by have:=HM.out;omega,hq⟩);have io:gb<T:=HFB.out gb (.inl rfl);obtain⟨ua,uc,d1⟩:=qL d0;have HUI:Hid (OwnI wr w.heap.size (xI ao k) (zS Q k).2.1):=d0;rw[d1]at y1 HUI;have HUB:Hid (∀q,(Value.slice ua (zS Q k).2.1.length uc).ownBlock=some q->q<T):=by rw[<-d1];exact bs
   have HGD:Hid (fF (zS Q k)=0):=cp;clear hdr d0 cp fg hown bs d1 be;generalize zS Q k=f at*;obtain⟨fk,a2,D⟩:=f;simp only at y0 y1 y2 HUI HRN HUB hsz;have HOK:Hid (zw fk=true/\zW fk a2.length=true/\(fk≠3->D.size=0)/\qp a2/\D.size<=20/\(fk=2->Good (zR a2))):=kV HGD.out;have ir:a2.length<=24:=hsz.1;have ik:D.size<=20:=hsz.2;clear hsz;by_cases f2:fk=2
   .subst f2;as_aux_lemma=>
     have hcn:0<a2.length/\a2.length%2=0/\a2.length<=24:=by have:=HOK.out.2.1;simpa[zW]using this
     obtain⟨A,a3,rest,rfl⟩:∃A a3 rest,a2=A::a3::rest:=by
      match a2,hcn with
      |[],h=>simp at h
      |[a],h=>simp at h
      |a::c::r,_=>exact⟨a,c,r,rfl⟩
     obtain⟨M,hM⟩:∃M,(A::a3::rest).length=2*M:=⟨(A::a3::rest).length/2,by omega⟩
     have e0:1<=M:=by simp at hM;omega
     have gi:M<=12:=by omega
     have hRL:(zR (A::a3::rest)).length=M:=ZQ M _ hM
     have hdr:=zez _ _ M wr (X0 HUI.out (by omega)) hM e0 gi
     have HG:Hid (Good (zR (A::a3::rest))):=HOK.out.2.2.2.2.2 rfl
     have HR0:Hid (at' (zR (A::a3::rest)) 0=(a3,A)):=by show _=_;simp[zR,at']
     have fp:Hid (first (A::a3::rest)=A):=rfl
     have hh:=HOK.out.2.2.2.1 A List.mem_cons_self
     have HST0:Hid (zn x (2,A::a3::rest,D)=if(e.m:Int)<=A then(6,x)else(0,{x with k:=max x.k A,t:=tells x.ls x.t (zR (A::a3::rest))})):=by
      show _=_
      simp only[zn,if_true,fp.out,a4.out.2.1]
     generalize h8:zR (A::a3::rest)=I at*
     generalize hs:(A::a3::rest).length=ul at*
     have aw:Hid (I.length=M):=hRL
     clear hcn h8 hs hRL hM
     go_upto_region 24 with(go_at_call 61;refine hdr.mono ?_;rintro ex E ⟨v4,rfl,ho4,e8⟩)
     rw[aw.out]at ho4
     obtain⟨gr,c4,hv⟩:=Kw ho4 e0
     subst hv
     have fr:Hid (T<gr):=by
      have:=(ho4.lt gr rfl).1
      have:=HD.out.tb.lt
      show T<gr
      omega
     have bv:Hid (Cells E gr 0 I):=QB ho4
     have bi:Hid (DT W3 E B T S C x):=HD.out.below e8
     have ag:Hid (Below w.heap.size w E):=ae.out.trans (bi.out.off.below (λj P=>by have:=a8.out;have:=W.out;have:=aa.out.size;rcases P with P|P|P<;>omega) ae.out.size)
     have bo:=J.out.below ag.out
     have d62:=bo.cl 62 (by omega)
     rw[QI]at d62
     obtain⟨am,ig,bg⟩:=qL bo.rm
     have g4:Hid (us.length=e.m):=bo.ul
     rw[bg,g4.out]at d62
     have fh:E.cell? ⟨gr,1,none⟩=some (.int .i64 A):=by
      have:=(bv.out 0 (by have:=aw.out;omega)).2
      rw[HR0.out]at this
      exact this
     have iv:=J.out.inv.m1
     clear bo hdr ho4 e8 y0 y1 y2 bg
     by_cases g6:(e.m:Int)<=A
     .have HSP:Hid (zn x (2,A::a3::rest,D)=(6,x)):=by show _=_;rw[HST0.out,if_pos g6]
      have HNZ:Hid ((6:Int)≠0):=by show(6:Int)≠0;decide
      have WW:=bi.out.off
      have HCM:Hid (come e n Q=(6,e)):=by
       show _=_
       unfold come
       rw[if_neg (by rw[au.out];decide),HRN.out,Zt (by rw[HSP.out];exact HNZ.out),HSP.out,if_pos HNZ.out]
      have ad:cf=6:=by rw[<-ar.out,HCM.out]
      subst ad
      clear HST0 HSP HRN
      go_quiet (fail)
      go_wp2_with fail
      go_ret
      refine⟨rfl,?_⟩
      rw[HCM.out]
      exact DTurn.below J.out (by repeat (first|exact ag.out|exact below_drewN ag.out _|refine Below.drew ?_))
     .have HSP:Hid (zn x (2,A::a3::rest,D)=(0,{x with k:=max x.k A,t:=tells x.ls x.t I})):=by show _=_;rw[HST0.out,if_neg g6]
      have HN2:Hid (runF Q e=runF (Q.drop (k+1)) {x with k:=max x.k A,t:=tells x.ls x.t I}):=by show _=_;rw[HRN.out,Qa (by rw[HSP.out]),HSP.out]
      have HI2:Hid (EInv {x with k:=max x.k A,t:=tells x.ls x.t I}):=by
       have:=O.out.stp HGD.out
       rw[HSP.out]at this
       exact this
      have dl:Hid (x.t<=tells x.ls x.t I):=(iA (b:=en x) (λy hy=>(O.out.ls y hy).2.2.2) I x.t O.out.t1).1
      have HSM2:Hid (({x with k:=max x.k A,t:=tells x.ls x.t I}:En).d=e.d/\({x with k:=max x.k A,t:=tells x.ls x.t I}:En).m=e.m/\({x with k:=max x.k A,t:=tells x.ls x.t I}:En).ls=e.ls/\({x with k:=max x.k A,t:=tells x.ls x.t I}:En).cm=e.cm/\e.t<=({x with k:=max x.k A,t:=tells x.ls x.t I}:En).t):=by
       have h1:=a4.out
       have h2:=dl.out
       exact⟨h1.1,h1.2.1,h1.2.2.1,h1.2.2.2.1,Nat.le_trans h1.2.2.2.2 h2⟩
      have fv:Hid (x.ls=e.ls):=a4.out.2.2.1
      have fm:Hid (e.t<=x.t):=a4.out.2.2.2.2
      have ft:Hid (A<(e.m:Int)):=by show _<_;omega
      have k0:=O.out.k0
      have e5:=λq=>bi.out.tb.below (below_drewN (Below.refl E.heap.size E) q)
      have e3:=λq=>Off.of_below (K:=λj=>j=T) (below_drewN (Below.refl E.heap.size E) q)
      have ca:Hid (w.heap.size<=T):=by have:=a8.out;have:=aa.out.size;show w.heap.size<=T;omega
      have d8:Hid (∀X,Off (λj=>j=T) E X->DO X B V vm vc Y L us md e):=λX ho=>J.out.below (ag.out.trans (ho.below (λj P=>by rw[P];exact ca.out) ag.out.size))
      have ej:gr≠T:=by have:=fr.out;omega
      have c9:Hid (∀X,Off (λj=>j=T) E X->∀N,N<M->X.cell? ⟨gr,N*2,none⟩=some (.int .i64 (at' I N).1)/\X.cell? ⟨gr,N*2+1,none⟩=some (.int .i64 (at' I N).2)):=λX ho N cq=>by
       have:=bv.out N (by have:=aw.out;omega)
       rw[Nat.zero_add]at this
       exact⟨ho.cell this.1 ej,ho.cell this.2 ej⟩
      clear HST0 HSP HRN a4 O HGD HOK dl WW HD HUI HUB bv
      go_quiet (fail)
      clear d62 fh
      go_wp2_with fail
      go_loopg [17] M (λgj i6 wx=>∃N t1:Nat,gj+N=M/\i6=.int .i64 N/\Hid (t1=tells e.ls x.t (I.take N))/\Hid (e.t<=t1)/\Hid (TBox wx T t1)/\Hid (Off (λj=>j=T) E wx))
      case atStart=>exact⟨0,x.t,by omega,rfl,(show x.t=tells e.ls x.t (I.take 0)from rfl),fm,e5 _,e3 _⟩
      case round=>
       clear e5 e3
       obtain⟨N,t1,cq,rfl,ax,db,bt,ay⟩:=hrel
       have c0:Hid (gk+N=M):=cq
       clear cq
       by_cases gM:(N:Int)<(M:Int)
       .obtain ⟨G,hn,e7,cr,h0⟩:=zaj HG.out HR0.out (show N<I.length by have:=aw.out;omega) ft.out
        have d4:Hid (at' I N=((G:Int),(hn:Int))):=e7
        have HX:Hid (∀X,Off (λj=>j=T) E X->X.cell? ⟨gr,N*2,none⟩=some (.int .i64 (G:Int))/\X.cell? ⟨gr,N*2+1,none⟩=some (.int .i64 (hn:Int))):=λX ho=>by
         have:=c9.out X ho N (by omega)
         rw[d4.out]at this
         exact this
        clear e7
        obtain⟨xl,xh⟩:=HX.out _ ay.out
        go_wp2_with fail
        clear xl xh
        go_loopg [18] (hn+1-G) (λgj i7 wy=>∃c t2:Nat,gj+c=hn+1-G/\i7=.int .i64 ((G:Int)+(c:Int))/\Hid (t2=tellM (λj=>yE (pat md j)) t1 G c)/\Hid (e.t<=t2)/\Hid (TBox wy T t2)/\Hid (Off (λj=>j=T) E wy))
        case atStart=>exact⟨0,t1,by omega,by simp,rfl,db,bt,ay⟩
        case round=>
         obtain⟨c,t2,hc,rfl,b4,bx,d5,c7⟩:=hrel
         have bu:Hid (gk+c=hn+1-G):=hc
         clear hc
         obtain⟨xl,xh⟩:=HX.out _ c7.out
         by_cases gc:(G:Int)+(c:Int)<=(hn:Int)
         .have ct:G+c<e.m:=by omega
          obtain⟨pa,pb,cv,er,et,eu,eh,es⟩:=J.out.load ct
          have HP:Hid (pat md (G+c)=z8 e.d pb 3 pa/\(pa<pb\/(pa=0/\pb=0))/\pa<=e.t/\pb<=en e/\yE (pat md (G+c))=pb/\min pb (pa+20*(pat md (G+c)).length)=pb):=(show _/\_ from⟨cv,er,et,eu,eh,es⟩)
          obtain⟨gm,du,dt,cu,bg,ek,a9,ev⟩:=J.out.made_at ct
          have g5:Hid (vm=.slice (some ⟨gm,0,none⟩) e.m du):=bg
          have ix:((G:Int)+(c:Int)).toNat=G+c:=by omega
          have h7:(pat md (G+c)).length<=3:=by rw[cv];exact yO _ _ _ _
          have HQ:Hid (∀X,Off (λj=>j=T) E X->X.cell? ⟨V,62,none⟩=some (.slice (some ⟨gm,0,none⟩) e.m du)/\X.cell? ⟨gm,G+c,none⟩=some (.slice dt (pat md (G+c)).length cu)):=λX ho=>by
           have hX:=d8.out X ho
           have h62:=hX.cl 62 (by omega)
           rw[QI,g5.out]at h62
           exact⟨h62,((ag.out.trans (ho.below (λj P=>by rw[P];exact ca.out) ag.out.size)).cell (p:=⟨gm,G+c,none⟩) ek).trans a9⟩
          have fz:Hid (∀j p,(pat md (G+c))[j]? =some p->∃gu,dt=some ⟨gu,0,none⟩/\∀X,Off (λj=>j=T) E X->X.cell? ⟨gu,j*2,none⟩=some (.int .i64 (p.1:Int))/\X.cell? ⟨gu,j*2+1,none⟩=some (.string p.2)):=λj p hp=>by
           obtain⟨gu,h1,h2,h3,h4⟩:=ev j p hp
           refine⟨gu,h1,λX ho=>?_⟩
           have hb:=ag.out.trans (ho.below (λj P=>by rw[P];exact ca.out) ag.out.size)
           exact⟨(hb.cell (p:=⟨gu,j*2,none⟩) h2).trans h3,(hb.cell (p:=⟨gu,j*2+1,none⟩) h2).trans h4⟩
          clear cv er et eu eh es bg a9 ev ek
          generalize eo:(pat md (G+c)).length=np at HQ h7
          have dd:Hid ((pat md (G+c)).length=np):=eo
          clear eo
          have iw:G+c<e.m:=ct
          go_wp2_with fail
          clear xl xh
          go_loopg [19] np (λgj i8 wz=>∃j t3:Nat,gj+j=np/\i8=.int .i64 j/\Hid (t3=yT t2 pa pb j)/\Hid (TBox wz T t3)/\Hid (Off (λj=>j=T) E wz))
          case atStart=>exact⟨0,t2,by omega,rfl,(show t2=yT t2 pa pb 0 from(zsz (Nat.le_trans HP.out.2.2.1 bx.out)).symm),d5,c7⟩
          case round=>
           obtain⟨j,t3,P,rfl,ak,bh,az⟩:=hrel
           have bz:Hid (gk+j=np):=P
           clear P
           obtain⟨hw,qm⟩:=HQ.out _ az.out
           by_cases gj:(j:Int)<(np:Int)
           .have em:j<(pat md (G+c)).length:=by have:=dd.out;omega
            obtain⟨p,hp⟩:∃p,(pat md (G+c))[j]? =some p:=⟨_,List.getElem?_eq_getElem em⟩
            obtain⟨gu,gt,hpx⟩:=fz.out j p hp
            subst gt
            have hpg:=hp
            rw[HP.out.1]at hpg
            have HPG:Hid (p.1=pa+20*j/\p.1+p.2.size=min pb (pa+20*(j+1))/\p.1<=t3/\p.1+p.2.size<=60):=by
             have hd:=J.out.inv.en60
             have he:=ky e
             have h1:=VH (d:=e.d) (b:=pb) (by have:=HP.out.2.2.2.1;omega) 3 pa j p hpg
             have h2:=ak.out
             have h3:=HP.out.2.2.2.1
             refine(show _/\_ from⟨h1.1,h1.2,?_,by omega⟩)
             rw[h2]
             unfold yT
             have:=dH (d:=e.d) (b:=pb) 3 pa j p hpg
             omega
            obtain⟨x0,x1⟩:=hpx _ az.out
            obtain⟨H,p2⟩:=p
            simp only at x0 x1 HPG
            clear hpg em hp hpx
            have j1:p2.size<=60:=by have:=HPG.out;omega
            have j0:H<=60:=by have:=HPG.out;omega
            go_upto_region 36 with fail
            have bX:Below wr.heap.size wr (wr.alloc (.cells #[.int .i64 (H:Int),.string p2] 146)):=(Below.refl _ _).alloc (Nat.le_refl _) _
            have HXT:Hid (T<wr.heap.size):=bh.out.lt
            have HB4:Hid (TBox (wr.alloc (.cells #[.int .i64 (H:Int),.string p2] 146)) T t3):=bh.out.below bX
            have HO5:Hid (Off (λj=>j=T) E (wr.alloc (.cells #[.int .i64 (H:Int),.string p2] 146))):=az.out.trans (Off.of_below bX)
            have b0:(wr.alloc (.cells #[.int .i64 (H:Int),.string p2] 146)).cell? ⟨wr.heap.size,0,none⟩=some (.int .i64 (H:Int)):=by simp
            have b1:(wr.alloc (.cells #[.int .i64 (H:Int),.string p2] 146)).cell? ⟨wr.heap.size,1,none⟩=some (.string p2):=by simp
            clear bX hw qm x0 x1 bh az
            generalize wr.heap.size=X at HXT b0 b1 |-
            generalize wr.alloc (.cells #[.int .i64 (H:Int),.string p2] 146)=WX at HB4 HO5 b0 b1 |-
            go_wp2_with fail
            go_loopg [21] p2.size (λgj i9 wu=>∃q t4:Nat,gj+q=p2.size/\i9=.int .i64 q/\Hid (t4=max t3 (H+q))/\Hid (TBox wu T t4)/\Hid (Off (λj=>j=T) E wu)/\wu.cell? ⟨X,0,none⟩=some (.int .i64 (H:Int))/\wu.cell? ⟨X,1,none⟩=some (.string p2))
            case atStart=>exact⟨0,t3,by omega,rfl,(show t3=max t3 (H+0) by have:=HPG.out;omega),HB4,HO5,b0,b1⟩
            case round=>
             clear b0 b1
             obtain⟨q,t4,hq,rfl,b5,ap,df,b0,b1⟩:=hrel
             have bj:Hid (gk+q=p2.size):=hq
             clear hq
             by_cases gq:(q:Int)<(p2.size:Int)
             .have ew:H+q<60:=by have:=HPG.out;omega
              have tc:=ap.out.cl (H+q) ew
              have tf:=ap.out.fz (H+q)
              have i1:(0:Int)<=(H:Int)+(q:Int):=by omega
              have i2:(H:Int)+(q:Int)<60:=by omega
              have i3:((H:Int)+(q:Int)).toNat=H+q:=by omega
              have fw:Hid (TBox (wr.setCell ⟨T,H+q,none⟩ (.bool true)) T (max t4 (H+q+1))):=ap.out.mark (by have:=b5.out;omega) ew
              have fy:Hid (Off (λj=>j=T) E (wr.setCell ⟨T,H+q,none⟩ (.bool true))):=df.out.setCell (a:=⟨T,H+q,none⟩) rfl _
              have g3:Hid (max t4 (H+q+1)=max t3 (H+(q+1))):=by have:=b5.out;show _=_;omega
              have e6:X≠T:=by have:=HXT.out;omega
              have b2:(wr.setCell ⟨T,H+q,none⟩ (.bool true)).cell? ⟨X,0,none⟩=some (.int .i64 (H:Int)):=by
               rw[World.cell?_setCell_other _ _ _ _ (λe2=>by injection e2 with e2;exact e6 e2.symm)];exact b0
              have b3:(wr.setCell ⟨T,H+q,none⟩ (.bool true)).cell? ⟨X,1,none⟩=some (.string p2):=by
               rw[World.cell?_setCell_other _ _ _ _ (λe2=>by injection e2 with e2;exact e6 e2.symm)];exact b1
              have iq:=bj.out
              go_wp2_with fail
              go_roundg (p2.size-(q+1))
              case measure=>have:=bj.out;omega
              case rel=>exact⟨q+1,_,by have:=bj.out;omega,by go_num,g3,fw,fy,b2,b3⟩
             .have af:Hid (t4=yT t2 pa pb (j+1)):=by
               have h1:=b5.out
               have h2:=HPG.out
               have h3:=ak.out
               have h4:=bj.out
               show t4=_
               unfold yT at h3 |-
               omega
              go_wp2_with fail
              go_roundg (np-(j+1))
              case measure=>have:=bz.out;omega
              case rel=>exact⟨j+1,t4,by have:=bz.out;omega,by go_num,af,ap,df⟩
           .have af:Hid (t3=tellM (λj=>yE (pat md j)) t1 G (c+1)):=by
             have h1:=ak.out
             have h2:=b4.out
             have h3:=HP.out.2.2.2.2
             have h4:j=(pat md (G+c)).length:=by have:=bz.out;have:=dd.out;omega
             show t3=_
             rw[h1,h4]
             unfold yT
             rw[h3.2,tellM,<-h2,h3.1]
            have fq:Hid (e.t<=t3):=by
             have h1:=ak.out
             have h2:=bx.out
             show e.t<=t3
             rw[h1]
             unfold yT
             omega
            go_wp2_with fail
            go_roundg (hn+1-G-(c+1))
            case measure=>have:=bu.out;omega
            case rel=>exact⟨c+1,t3,by have:=bu.out;omega,by go_num,af,fq,bh,az⟩
         .have af:Hid (t2=tells e.ls x.t (I.take (N+1))):=by
           have h1:=b4.out
           have h2:c=hn+1-G:=by have:=bu.out;omega
           have h3:=J.out.tellM cr h0 t1
           show t2=_
           rw[h1,h2,h3,ax.out,<-d4.out]
           exact(zs3 (by have:=aw.out;omega)).symm
          go_wp2_with fail
          go_roundg (M-(N+1))
          case measure=>have:=c0.out;omega
          case rel=>exact⟨N+1,t2,by have:=c0.out;omega,by go_num,af,bx,d5,c7⟩
       .have af:Hid (t1=tells x.ls x.t I):=by
         have h1:=ax.out
         have h2:N=I.length:=by have:=c0.out;have:=aw.out;omega
         show t1=_
         rw[h1,h2,List.take_length,fv.out]
        have HD2:Hid (DT W3 wr B T S C {x with k:=max x.k A,t:=tells x.ls x.t I}):=by
         have h1:=bi.out.told bt.out ay.out
         rw[af.out]at h1
         exact⟨h1.tb,h1.st,h1.cr,h1.off,h1.ne⟩
        have fh:wr.cell? ⟨gr,1,none⟩=some (.int .i64 A):=by
         have:=(c9.out wr ay.out 0 (by omega)).2
         rw[HR0.out]at this
         exact this
        clear ax bt ay c9 d8 db
        generalize j5:tells x.ls x.t I=tt at*
        by_cases ih:x.k<A
        .have ai:max x.k A=A:=by omega
         rw[ai]at HN2 HI2 HD2
         go_wp2_with fail
         go_roundg (m-(k+1))
         case measure=>have:=HK.out;omega
         case rel=>exact⟨k+1,{x with k:=A,t:=tt},by have:=HK.out;omega,rfl,rfl,by go_num,HN2,HI2,HSM2,HD2⟩
        .have ai:max x.k A=x.k:=by omega
         rw[ai]at HN2 HI2 HD2
         go_wp2_with fail
         go_roundg (m-(k+1))
         case measure=>have:=HK.out;omega
         case rel=>exact⟨k+1,{x with k:=x.k,t:=tt},by have:=HK.out;omega,rfl,rfl,by go_num,HN2,HI2,HSM2,HD2⟩
   by_cases f4:fk=4
   .subst f4;as_aux_lemma=>
     have hl1:a2.length=1:=by have:=HOK.out.2.1;simp[zW,zk]at this;exact this
     obtain⟨z,rfl⟩:∃z,a2=[z]:=by
      match a2,hl1 with
      |[z],_=>exact⟨z,rfl⟩
     have hz:=HOK.out.2.2.2.1 z (List.mem_singleton.2 rfl)
     obtain⟨Z,ia,cz,_,_,bs⟩:=HUI.out.form (by simp)
     injection cz with i1 i2 i3
     subst i1 i3
     have x0:wr.cell? ⟨Z,0,none⟩=some (.int .i64 z):=HUI.out.cell 0 (by simp)
     have gw:Z<T:=HUB.out Z rfl
     clear hl1
     have W:Hid (zn x (4,[z],D)=(0,{x with l:=max x.l z})):=by show _=_;simp[zn,first]
     have HN2:Hid (runF Q e=runF (Q.drop (k+1)) {x with l:=max x.l z}):=by show _=_;rw[HRN.out,Qa (by rw[W.out]),W.out]
     have HI2:Hid (EInv {x with l:=max x.l z}):=by
      have:=O.out.stp HGD.out
      rw[W.out]at this
      exact this
     have HSM2:Hid (({x with l:=max x.l z}:En).d=e.d/\({x with l:=max x.l z}:En).m=e.m/\({x with l:=max x.l z}:En).ls=e.ls/\({x with l:=max x.l z}:En).cm=e.cm/\e.t<=({x with l:=max x.l z}:En).t):=a4.out
     have HD2:Hid (DT W3 wr B T S C {x with l:=max x.l z}):=⟨HD.out.tb,HD.out.st,HD.out.cr,HD.out.off,HD.out.ne⟩
     have l0:=O.out.l0
     have l1:=O.out.l1
     clear W HRN O a4 HD HGD HOK
     by_cases gz:x.l<z
     .have ai:max x.l z=z:=by omega
      rw[ai]at HN2 HI2 HSM2 HD2
      generalize im:x.l=el at*
      go_wp2_with fail
      go_roundg (m-(k+1))
      case measure=>have:=HK.out;omega
      case rel=>exact⟨k+1,{x with l:=z},by have:=HK.out;omega,rfl,rfl,by go_num,HN2,HI2,HSM2,HD2⟩
     .have ai:max x.l z=x.l:=by omega
      rw[ai]at HN2 HI2 HSM2 HD2
      have fl:Hid (({x with l:=x.l}:En)=x):=rfl
      rw[fl.out]at HN2 HI2 HSM2 HD2
      go_wp2_with fail
      go_roundg (m-(k+1))
      case measure=>have:=HK.out;omega
      case rel=>exact⟨k+1,x,by have:=HK.out;omega,rfl,rfl,by go_num,HN2,HI2,HSM2,HD2⟩
   by_cases f3:fk=3
   .subst f3;as_aux_lemma=>
     have hl1:a2.length=1:=by have:=HOK.out.2.1;simp[zW,zk]at this;exact this
     obtain⟨z,rfl⟩:∃z,a2=[z]:=by
      match a2,hl1 with
      |[z],_=>exact⟨z,rfl⟩
     have hz:=HOK.out.2.2.2.1 z (List.mem_singleton.2 rfl)
     obtain⟨Z,ia,cz,_,_,bs⟩:=HUI.out.form (by simp)
     injection cz with i1 i2 i3
     subst i1 i3
     have x0:wr.cell? ⟨Z,0,none⟩=some (.int .i64 z):=HUI.out.cell 0 (by simp)
     have gw:Z<T:=HUB.out Z rfl
     clear hl1
     have u1:=Cx.wrap_small (z+(D.size:Int)) (by omega) (by omega)
     obtain⟨u,hu⟩:∃u,z+(D.size:Int)=u:=⟨_,rfl⟩
     rw[hu]at u1
     have HU:Hid (z+(D.size:Int)=u):=hu
     have j2:IntKind.i64.wrap (z+(D.size:Int))=u:=by rw[hu];exact u1
     have ah:Hid (DT W3 wr.drew B T S C x):=HD.out.below (Below.refl _ _).drew
     have hcd:=Cx.Va ah.out.cr u
     have y1:wr.drew.cell? ⟨gb,k*3+1,none⟩=some (.slice (some ⟨Z,0,none⟩) 1 uc):=y1
     have y2:wr.drew.cell? ⟨gb,k*3+2,none⟩=some (.string D):=y2
     have x0:wr.drew.cell? ⟨Z,0,none⟩=some (.int .i64 z):=x0
     clear hu u1
     have bq:gb≠C:=by have:=W.out;omega
     have e9:Z≠C:=by have:=W.out;omega
     have ei:gb≠S:=by have:=W.out;omega
     have gv:Z≠S:=by have:=W.out;omega
     by_cases ht:Cx.qh x.c u=0
     .rw [ht]at hcd
      have hput:∀X,Sx.Ref X B S x.s->Calls Tryz.prog 63 #[.pointer (some ⟨S,0,none⟩),.int .i64 z,.string D] X λex w'=>ex=.returned (.int .i64 (Sx.xg x.s z D))/\Sx.RTurned X w' B S (Sx.xY x.s z D):=λX hX=>Sx.zqb hX z D (by omega)
      have HSP:Hid (zn x (3,[z],D)=(Sx.xg x.s z D,{x with c:=Cx.zm x.c u,s:=Sx.xY x.s z D})):=by
       show _=_
       simp only[zn,first,List.getElem?_cons_zero,Option.getD_some,HU.out]
       simp[ht]
      have HI2:Hid (EInv {x with c:=Cx.zm x.c u,s:=Sx.xY x.s z D}):=by
       have:=O.out.stp HGD.out
       rw[HSP.out]at this
       exact this
      have HSM2:Hid (({x with c:=Cx.zm x.c u,s:=Sx.xY x.s z D}:En).d=e.d/\({x with c:=Cx.zm x.c u,s:=Sx.xY x.s z D}:En).m=e.m/\({x with c:=Cx.zm x.c u,s:=Sx.xY x.s z D}:En).ls=e.ls/\({x with c:=Cx.zm x.c u,s:=Sx.xY x.s z D}:En).cm=e.cm/\e.t<=({x with c:=Cx.zm x.c u,s:=Sx.xY x.s z D}:En).t):=a4.out
      generalize hf:Cx.zm x.c u=sc at*
      generalize hm:Sx.xY x.s z D=sp at*
      generalize hpf:Sx.xg x.s z D=pf at*
      clear ht hf hm hpf
      go_upto_region 46 with fail
      go_region_held3 (λX=>X.cell? ⟨gb,k*3+1,none⟩=some (.slice (some ⟨Z,0,none⟩) 1 uc)/\X.cell? ⟨Z,0,none⟩=some (.int .i64 z)/\X.cell? ⟨gb,k*3+2,none⟩=some (.string D)) (go_keep) (first|(go_at_call 62;refine hcd.mono ?_;rintro ex E ⟨rfl,a6⟩;have z1:=a6.2.cell (p:=⟨gb,k*3+1,none⟩) y1 bq;have z2:=a6.2.cell (p:=⟨Z,0,none⟩) x0 e9;have z3:=a6.2.cell (p:=⟨gb,k*3+2,none⟩) y2 bq))
      have f9:Sx.Ref E B S x.s:=ah.out.st.off a6.2 ah.out.ne.2.2
      have eq:=hput E.drew (f9.below (Below.refl _ _).drew)
      have b5:Hid (TBox E T x.t):=ah.out.tb.off a6.2 ah.out.ne.2.1
      have fi:Hid (Cx.Obj E B C sc):=a6.1
      have fx:Hid (Off (λj=>j=T\/j=S\/j=C) W3 E):=ah.out.off.trans (a6.2.mono λj _ P=>.inr (.inr P))
      have c3:Hid (T≠S/\T≠C/\S≠C):=ah.out.ne
      clear hput hcd a6 ah HD y0 y1 y2 x0 f9 WW
      go_upto_region 48 with fail
      go_region_held3 (λX=>X.cell? ⟨gb,k*3+1,none⟩=some (.slice (some ⟨Z,0,none⟩) 1 uc)/\X.cell? ⟨Z,0,none⟩=some (.int .i64 z)/\X.cell? ⟨gb,k*3+2,none⟩=some (.string D)) (go_keep) (first|(go_at_call 63;refine eq.mono ?_;rintro ex w5 ⟨rfl,aj⟩;have u1:=aj.2.cell (p:=⟨gb,k*3+1,none⟩) z1 ei;have u2:=aj.2.cell (p:=⟨Z,0,none⟩) z2 gv;have u3:=aj.2.cell (p:=⟨gb,k*3+2,none⟩) z3 ei))
      have HD2:Hid (DT W3 w5 B T S C {x with c:=sc,s:=sp}):=⟨b5.out.off ((Off.refl _ E).drew.trans aj.2) c3.out.1,aj.1,fi.out.off ((Off.refl _ E).drew.trans aj.2) (λe=>c3.out.2.2 e.symm),fx.out.trans (((Off.refl _ E).drew.trans aj.2).mono λj _ P=>.inr (.inl P)),c3.out⟩
      clear eq aj u1 u2 u3 z1 z2 z3
      by_cases hp:pf=0
      .subst hp
       have HN2:Hid (runF Q e=runF (Q.drop (k+1)) {x with c:=sc,s:=sp}):=by show _=_;rw[HRN.out,Qa (by rw[HSP.out]),HSP.out]
       clear HSP HRN O a4 HGD HOK
       go_wp2_with fail
       go_roundg (m-(k+1))
       case measure=>have:=HK.out;omega
       case rel=>exact⟨k+1,{x with c:=sc,s:=sp},by have:=HK.out;omega,rfl,rfl,by go_num,HN2,HI2,HSM2,HD2⟩
      .have HNZ:Hid (pf≠0):=hp
       have WW:=HD2.out.off
       have HCM:Hid (come e n Q=(pf,e)):=by
        show _=_
        unfold come
        rw[if_neg (by rw[au.out];decide),HRN.out,Zt (by rw[HSP.out];exact HNZ.out),HSP.out,if_pos HNZ.out]
       have ad:cf=pf:=by rw[<-ar.out,HCM.out]
       subst ad
       go_wp2_with fail
       go_ret
       refine⟨rfl,?_⟩
       rw[HCM.out]
       exact DTurn.below J.out (ae.out.trans (WW.below (λj P=>by have:=a8.out;have:=W.out;have:=aa.out.size;rcases P with P|P|P<;>omega) ae.out.size))
     .have HNZ:Hid (Cx.qh x.c u≠0):=ht
      have HSP:Hid (zn x (3,[z],D)=(Cx.qh x.c u,x)):=by
       show _=_
       simp only[zn,first,List.getElem?_cons_zero,Option.getD_some,HU.out]
       simp[ht]
      generalize hpf:Cx.qh x.c u=pf at*
      have HCM:Hid (come e n Q=(pf,e)):=by
       show _=_
       unfold come
       rw[if_neg (by rw[au.out];decide),HRN.out,Zt (by rw[HSP.out];exact HNZ.out),HSP.out,if_pos HNZ.out]
      have ad:cf=pf:=by rw[<-ar.out,HCM.out]
      subst ad
      have iz:=HNZ.out
      clear ht hpf HNZ
      go_upto_region 46 with fail
      go_region_held3 (λX=>X.cell? ⟨gb,k*3+1,none⟩=some (.slice (some ⟨Z,0,none⟩) 1 uc)/\X.cell? ⟨Z,0,none⟩=some (.int .i64 z)/\X.cell? ⟨gb,k*3+2,none⟩=some (.string D)) (go_keep) (first|(go_at_call 62;refine hcd.mono ?_;rintro ex E ⟨rfl,a6⟩;have z1:=a6.2.cell (p:=⟨gb,k*3+1,none⟩) y1 bq;have z2:=a6.2.cell (p:=⟨Z,0,none⟩) x0 e9;have z3:=a6.2.cell (p:=⟨gb,k*3+2,none⟩) y2 bq))
      have WW:Off (λj=>j=T\/j=S\/j=C) W3 E:=ah.out.off.trans (a6.2.mono λj _ P=>.inr (.inr P))
      go_wp2_with fail
      go_ret
      refine⟨rfl,?_⟩
      rw[HCM.out]
      exact DTurn.below J.out (ae.out.trans (WW.below (λj P=>by have:=a8.out;have:=W.out;have:=aa.out.size;rcases P with P|P|P<;>omega) ae.out.size))
   have k2:(fk==2)=false:=by simpa using f2
   have k4:(fk==4)=false:=by simpa using f4
   have k3:(fk==3)=false:=by simpa using f3
   have HSP:Hid (zn x (fk,a2,D)=(3,x)):=by show _=_;simp[zn,f2,f3,f4]
   have HNZ:Hid ((3:Int)≠0):=by show(3:Int)≠0;decide
   have HCM:Hid (come e n Q=(3,e)):=by
    show _=_;unfold come;rw[if_neg (by rw[au.out];decide),HRN.out,Zt (by rw[HSP.out];exact HNZ.out),HSP.out,if_pos HNZ.out]
   have ad:cf=3:=by rw[<-ar.out,HCM.out]
   subst ad;clear f2 f3 f4;go_wp2_with fail;go_ret;refine⟨rfl,?_⟩;rw[HCM.out];exact DTurn.below J.out (ae.out.trans (WW.below (λj P=>by have:=a8.out;have:=W.out;have:=aa.out.size;rcases P with P|P|P<;>omega) ae.out.size))
  have br:runF Q e=(0,x):=by
   rw[dh.out,List.drop_eq_nil_of_le (by have:=HM.out;have:=HK.out;omega)];rfl
  as_aux_lemma=>
   have bn:Below w.heap.size w wr:=ae.out.trans (WW.below (λj P=>by have:=a8.out;have:=W.out;have:=aa.out.size;rcases P with P|P|P<;>omega) ae.out.size)
   have bb:=J.out.below bn
   have d64:=bb.cl 64 (by omega)
   rw[QG,dn.out]at d64
   have hwi:=zfg _ e.cm n wr (HR.out.below bn) bb.inv.cm dc.out
   have il:V<wr.heap.size:=bb.lt
   have da:Hid (DO wr B V vm vc Y L us md e):=bb
   have aq:=zC bn
   clear bb bn
   by_cases co:12<(qU e.cm n).length
   .have HCM:Hid (come e n Q=(4,e)):=by
     show _=_
     unfold come
     rw[if_neg (by rw[au.out];decide),br,if_neg (by simp),if_pos co]
    have ad:cf=4:=by rw[<-ar.out,HCM.out]
    subst ad
    have gy:(12:Int)<((qU e.cm n).length:Int):=by omega
    clear br
    generalize qU e.cm n=cn at*
    generalize e.cm.length=nc at*
    go_wp2_with (go_at_call 64;refine hwi.mono ?_;rintro ex w5 ⟨v5,rfl,ho5,an⟩;obtain⟨a5,c5,d2⟩:=qL ho5;subst d2)
    go_ret
    refine⟨rfl,?_⟩
    rw[HCM.out]
    exact DTurn.below J.out (aq.out.trans (an.mono aq.out.size))
   .have HCM:Hid (come e n Q=(0,{x with cm:=qU e.cm n})):=by
     show _=_
     unfold come
     rw[if_neg (by rw[au.out];decide),br,if_neg (by simp),if_neg co]
    have ad:cf=0:=by rw[<-ar.out,HCM.out]
    subst ad
    have gy:¬(12:Int)<((qU e.cm n).length:Int):=by omega
    have HIV:Hid (EInv {x with cm:=qU e.cm n}):=⟨O.out.d60,O.out.t1,O.out.l0,O.out.l1,O.out.m1,O.out.k0,O.out.k1,O.out.ls,O.out.s,O.out.c,J2 J.out.inv.cm dc.out (by omega),O.out.ll⟩
    clear br co
    generalize hcn:qU e.cm n=cn at*
    generalize iy:e.cm.length=nc at d64 hwi dn
    go_upto_region 54 with(go_at_call 64;refine hwi.mono ?_;rintro ex w5 ⟨v5,rfl,ho5,an⟩;obtain⟨a5,c5,d2⟩:=qL ho5;subst d2)
    have ba:=da.out.below an
    have cg:=HD.out.below an
    have ap:Hid (Below w.heap.size w w5):=aq.out.trans (an.mono aq.out.size)
    have fe:=ba.there_told
    have f8:=cg.tb.range
    obtain⟨W6,bm⟩:∃W6,Hid (W6=w5.setCells V 1 (row 60 (jS x.t))):=⟨_,rfl⟩
    have af:=gX x.t
    go_upto_region 55 with(first|(refine vH (n:=60) (f:=jS x.t) (ty:=86) rfl (.tmp 10) rfl T 0 rfl f8 (by kernel_rfl) (by kernel_rfl) ?_)|(refine vI (n:=60) (f:=jS x.t) (ty:=86) rfl (.tmp 241) (.tmp 239) rfl V 1 rfl rfl fe (by kernel_rfl) af bm ?_))
    obtain⟨g7,g8,g9,ga,gd,ge⟩:=YG ba bm.out
    have d9:=λW9 (h9:W9=((W6.setCell ⟨V,61,none⟩ (.int .i64 x.l)).setCell ⟨V,63,none⟩ (.int .i64 x.k)).setCell ⟨V,64,none⟩ (.slice a5 cn.length c5))=>zdq ba bm.out (e':=x) (cm:=cn) a4.out.1 h9
    have dm:Hid (w5.ownsRow wr.heap.size 143 2 (.slice a5 cn.length c5) cn.length (flat cn)):=ho5
    have d7:Hid (DT W3 w5 B T S C x):=cg
    have a7:Hid (DO w5 B V vm vc Y L us md e):=ba
    have ib:Hid (Below wr.heap.size wr w5):=an
    clear fe f8 bm af ba cg ho5 an hwi d64
    go_upto_region 58 with fail
    have hE9:=d9 _ rfl
    clear d9 g7 g8 g9 ga gd ge
    generalize((W6.setCell ⟨V,61,none⟩ (.int .i64 x.l)).setCell ⟨V,63,none⟩ (.int .i64 x.k)).setCell ⟨V,64,none⟩ (.slice a5 cn.length c5)=W9 at hE9 |-
    obtain⟨ck,eg,bf⟩:=hE9
    have d6:Hid (∀i,i<67->W9.cell? ⟨V,i,none⟩=some (xq {x with cm:=cn} vm (.slice a5 cn.length c5) Y L i)):=ck
    have fo:Hid (∀i,W9.frozen? ⟨V,i,none⟩=false):=eg
    have c8:Hid (Off (λj=>j=V) w5 W9):=bf
    have cd:W9.drew.cell? ⟨V,65,none⟩=some (.pointer (some ⟨Y,0,none⟩)):=ck 65 (by omega)
    have go:¬S=V:=by have:=W.out;have:=a8.out;have:=aa.out.size;omega
    have gg:¬C=V:=by have:=W.out;have:=a8.out;have:=aa.out.size;omega
    have e4:Sx.Ref W9.drew B S x.s:=(d7.out.st.off bf go).below (Below.refl _ _).drew
    have cw:=VZ e4
    have fn:Hid (∀i,i<61->W9.drew.frozen? ⟨Y,i,none⟩=false):=(a7.out.st.off bf (λe1=>a7.out.ap.1 e1.symm)).fz
    have cy:W9.drew.there Y 0 61:=zo9 ((a7.out.st.off bf (λe1=>a7.out.ap.1 e1.symm)).below (Below.refl _ _).drew)
    have dj:=dZ x.s
    obtain⟨ab,bk⟩:∃ab,Hid (ab=W9.drew.setCells Y 0 (row 61 (kC x.s))):=⟨_,rfl⟩
    have av:Hid (Off (λj=>j=Y) W9 ab):=by rw[bk.out];exact(Off.refl _ W9).drew.trans (wI Y _ _ _)
    have ec:¬V=Y:=a7.out.ap.1
    have gp:¬S=Y:=by have:=W.out;have:=a8.out;have:=aa.out.size;omega
    have g0:Hid (Sx.Ref ab B Y x.s):=by
     rw[bk.out]
     exact fA HIV.out.s (World.rangeAt_setCells_same _ _ _ _ (by rw[qM];exact cy)) (λi hi=>by rw[World.frozen?_setCells];exact fn.out i hi) a7.out.st.hs
    clear ck eg e4 bf
    refine wp_region_noPanic ?_
    refine wp_region_held_drew (S:=λX=>X.cell? ⟨V,65,none⟩=some (.pointer (some ⟨Y,0,none⟩))/\X.rangeAt S 0 (row 61 (kC x.s))) (by kernel_rfl) ⟨cd,cw⟩ (λac=>?_)
    refine zI 0 (.pointer (some ⟨V,0,none⟩)) rfl (by kernel_rfl) rfl (by assumption) ?_ ?_
    .intro wx a0
     obtain⟨s0,s1⟩:=a0
     clear s1
     go_simp
    try simp only[Act.put,zD,zF,zG]
    refine zI 1 (.pointer (some ⟨V,0,none⟩)) rfl (by kernel_rfl) rfl (by assumption) ?_ ?_
    .intro wx a0
     obtain⟨s0,s1⟩:=a0
     clear s1
     go_simp
    try simp only[Act.put,zD,zF,zG]
    refine zI 2 (.pointer (some ⟨V,65,none⟩)) rfl (by kernel_rfl) rfl (by assumption) ?_ ?_
    .intro wx a0
     obtain⟨s0,s1⟩:=a0
     clear s1
     go_simp
    try simp only[Act.put,zD,zF,zG]
    refine zI 3 (.pointer (some ⟨Y,0,none⟩)) rfl (by kernel_rfl) rfl (by assumption) ?_ ?_
    .intro wx a0
     obtain⟨s0,s1⟩:=a0
     clear s1
     go_simp
    try simp only[Act.put,zD,zF,zG]
    refine wpAnyH_ready (rs:=[4]) (by kernel_rfl) (by simp) ?_
    refine AllReadyH.cons (o:= ⟨some 258,.load 138 (.tmp 13),138,"more.go:349",#[],none⟩) rfl (λK hK=>?_) AllReadyH.nil
    rw[if_pos (by rfl)]
    refine iQ (n:=61) (f:=kC x.s) (ty:=138) (.tmp 13) rfl S 0 rfl ac.2 (by kernel_rfl) (by kernel_rfl) ?_
    refine hK.out _ _ ac (λac=>?_)
    clear hK K
    try simp only[Act.put,zD,zF,zG]
    refine zI 5 (.pointer (some ⟨Y,0,none⟩)) rfl (by kernel_rfl) rfl (by assumption) ?_ ?_
    .intro wx a0
     obtain⟨s0,s1⟩:=a0
     clear s1
     go_simp
    try simp only[Act.put,zD,zF,zG]
    refine wpAnyH_ready (rs:=[6]) (by kernel_rfl) (by simp) ?_
    refine AllReadyH.cons (o:= ⟨none,.store 138 (.tmp 259) (.tmp 258),0,"more.go:349",#[⟨5,.data⟩,⟨4,.data⟩,⟨0,.phase⟩,⟨1,.phase⟩,⟨2,.phase⟩,⟨3,.phase⟩,⟨4,.phase⟩],none⟩) rfl (λK hK=>?_) AllReadyH.nil
    rw[if_pos (by rfl)]
    refine iR (n:=61) (f:=kC x.s) (ty:=138) (.tmp 259) (.tmp 258) rfl Y 0 rfl rfl cy (by kernel_rfl) dj bk ?_
    refine hK.out _ _ ⟨av.out.cell (p:=⟨V,65,none⟩) cd ec,dX (w:=W9) cw av.out gp⟩ (λac=>?_)
    clear hK K ac
    try simp only[Act.put,zD,zF,zG]
    refine wpAnyH_done (by kernel_rfl) (NoPanic.normal ?_) _
    clear cd cw cy dj bk
    go_upto_region 59 with fail
    have dv:ab.drew.cell? ⟨V,66,none⟩=some (.pointer (some ⟨L,0,none⟩)):=av.out.cell (d6.out 66 (by omega)) ec
    have gh:¬C=Y:=by have:=W.out;have:=a8.out;have:=aa.out.size;omega
    have gx:¬V=L:=a7.out.ap.2.1
    have gf:¬C=L:=by have:=W.out;have:=a8.out;have:=aa.out.size;omega
    have dx:Cx.Obj ab.drew B C x.c:=((d7.out.cr.off c8.out gg).off av.out gh).below (Below.refl _ _).drew
    have ez:=Xr dx
    have ea:Cx.Obj ab.drew B L e.c:=((a7.out.cr.off c8.out (λe1=>a7.out.ap.2.1 e1.symm)).off av.out (λe1=>a7.out.ap.2.2 e1.symm)).below (Below.refl _ _).drew
    have cx:=zc9 ea
    have g2:=ZE x.c
    obtain⟨al,bl⟩:∃al,Hid (al=ab.drew.setCells L 0 (row 4 (zZ x.c))):=⟨_,rfl⟩
    have c6:Hid (Off (λj=>j=L) ab al):=by rw[bl.out];exact(Off.refl _ ab).drew.trans (wI L _ _ _)
    have g1:Hid (Cx.Obj al B L x.c):=by
     have hr:al.rangeAt L 0 (row 4 (zZ x.c)):=by rw[bl.out];exact World.rangeAt_setCells_same _ _ _ _ (by rw[qM];exact cx)
     have g:∀i,i<4->al.cell? ⟨L,i,none⟩=some (zZ x.c i):=λi hi=>by have:=jk hr hi;rwa[Nat.zero_add]at this
     have ff:∀i,i<4->al.frozen? ⟨L,i,none⟩=false:=λi hi=>by
      rw[bl.out,World.frozen?_setCells]
      have:=(cx i hi).2
      rwa[Nat.zero_add]at this
     exact⟨HIV.out.c,⟨g 0 (by omega),g 1 (by omega),g 2 (by omega),g 3 (by omega),ff 1 (by omega),ff 2 (by omega),ff 3 (by omega),ff 0 (by omega)⟩,a7.out.cr.hs⟩
    clear dx ea
    refine wp_region_noPanic ?_
    refine wp_region_held_drew (S:=λX=>X.cell? ⟨V,66,none⟩=some (.pointer (some ⟨L,0,none⟩))/\X.rangeAt C 0 (row 4 (zZ x.c))) (by kernel_rfl) ⟨dv,ez⟩ (λac=>?_)
    refine zI 0 (.pointer (some ⟨V,0,none⟩)) rfl (by kernel_rfl) rfl (by assumption) ?_ ?_
    .intro wx a0
     obtain⟨s0,s1⟩:=a0
     clear s1
     go_simp
    try simp only[Act.put,zD,zF,zG]
    refine zI 1 (.pointer (some ⟨V,0,none⟩)) rfl (by kernel_rfl) rfl (by assumption) ?_ ?_
    .intro wx a0
     obtain⟨s0,s1⟩:=a0
     clear s1
     go_simp
    try simp only[Act.put,zD,zF,zG]
    refine zI 2 (.pointer (some ⟨V,66,none⟩)) rfl (by kernel_rfl) rfl (by assumption) ?_ ?_
    .intro wx a0
     obtain⟨s0,s1⟩:=a0
     clear s1
     go_simp
    try simp only[Act.put,zD,zF,zG]
    refine zI 3 (.pointer (some ⟨L,0,none⟩)) rfl (by kernel_rfl) rfl (by assumption) ?_ ?_
    .intro wx a0
     obtain⟨s0,s1⟩:=a0
     clear s1
     go_simp
    try simp only[Act.put,zD,zF,zG]
    refine wpAnyH_ready (rs:=[4]) (by kernel_rfl) (by simp) ?_
    refine AllReadyH.cons (o:= ⟨some 264,.load 85 (.tmp 14),85,"more.go:350",#[],none⟩) rfl (λK hK=>?_) AllReadyH.nil
    rw[if_pos (by rfl)]
    refine iQ (n:=4) (f:=zZ x.c) (ty:=85) (.tmp 14) rfl C 0 rfl ac.2 (by kernel_rfl) (by kernel_rfl) ?_
    refine hK.out _ _ ac (λac=>?_)
    clear hK K
    try simp only[Act.put,zD,zF,zG]
    refine zI 5 (.pointer (some ⟨L,0,none⟩)) rfl (by kernel_rfl) rfl (by assumption) ?_ ?_
    .intro wx a0
     obtain⟨s0,s1⟩:=a0
     clear s1
     go_simp
    try simp only[Act.put,zD,zF,zG]
    refine wpAnyH_ready (rs:=[6]) (by kernel_rfl) (by simp) ?_
    refine AllReadyH.cons (o:= ⟨none,.store 85 (.tmp 265) (.tmp 264),0,"more.go:350",#[⟨5,.data⟩,⟨4,.data⟩,⟨0,.phase⟩,⟨1,.phase⟩,⟨2,.phase⟩,⟨3,.phase⟩,⟨4,.phase⟩],none⟩) rfl (λK hK=>?_) AllReadyH.nil
    rw[if_pos (by rfl)]
    refine iR (n:=4) (f:=zZ x.c) (ty:=85) (.tmp 265) (.tmp 264) rfl L 0 rfl rfl cx (by kernel_rfl) g2 bl ?_
    refine hK.out _ _ ⟨c6.out.cell (p:=⟨V,66,none⟩) dv gx,dX (w:=ab) ez c6.out gf⟩ (λac=>?_)
    clear hK K ac
    try simp only[Act.put,zD,zF,zG]
    refine wpAnyH_done (by kernel_rfl) (NoPanic.normal ?_) _
    go_wp2_with fail
    go_ret
    refine⟨rfl,?_⟩
    rw[HCM.out]
    obtain⟨hD,gn⟩:=zdr (e':=x) (cm:=cn) a7.out (J.out.mds.same (e2:={x with cm:=cn}) a4.out.1 a4.out.2.1 a4.out.2.2.1) HIV.out a4.out.2.1 d6.out fo.out c8.out dm.out (Nat.le_trans J.out.le aq.out.size) (λj P=>(da.out.own_lt P).2) g0.out av.out g1.out c6.out
    refine⟨vm,_,us,md,hD,(Off.of_below ap.out).trans (gn.mono λj _ P=>?_),λj P=>?_⟩
    .rcases P with P|P|P
     .exact .inl P
     .exact .inr (.inl P)
     .exact .inr (.inr (.inl P))
    .rcases P with P|P|P|P|P|P
     .exact .inl (.inl P)
     .exact .inl (.inr (.inl P))
     .exact .inl (.inr (.inr (.inl P)))
     .exact .inl (.inr (.inr (.inr (.inl P))))
     .exact .inr (Nat.le_trans aq.out.size (dm.out.lt j P).1)
     .exact .inl (.inr (.inr (.inr (.inr (.inr P)))))
theorem YS{o z m:Nat}{r A:Value}{q:List Value}{Z:List (List Pc)}{e:En}(h:DO w B o r A z m q Z e)(b:ByteArray)(t:b.size<=9223372036854775807)(l:zU e<=1073741823):Calls Tryz.prog 41 #[.pointer (some ⟨o,0,none⟩),.string b] w λi E=>i=.returned (.int .i64 (qD e b).1)/\DTurn w E B o r A z m q (qD e b).2:=by
 by_cases f:xO b (zU e)=0;obtain ⟨u,p,n,d,j⟩:=bY f;have g:qD e b=come e n d:=by
  unfold qD;rw[if_neg (by simpa using f),j]
 rw[g];cases k:xD e.cm n with
 |true=>
  have s:come e n d=(0,e):=by unfold come;rw[if_pos k]
  rw[s];exact(ze3 h b l p n d j k).mono λi E ⟨a,c⟩=>⟨a,DTurn.below h c⟩
 |false=>exact ze4 h b l p n d j k
 have g:qD e b=(xO b (zU e),e):=by
  unfold qD;rw[if_pos f]
 rw[g];exact(ze2 h b t l f).mono λi E ⟨a,c⟩=>⟨a,DTurn.below h c⟩
structure De where
 vm:Value
 vc:Value
 sb:Nat
 cb:Nat
 us:List Value
 md:List (List Pc)
structure Dv where
 pa:De
 pb:De
 v:Value
def j6(e:Nat)(p:De)(k:Nat):Prop:=vo e p.vm p.vc p.sb p.cb p.us k
structure DTk(w:World)(B mb ea eb:Nat)(d:Dv)(m:Tt):Prop where
 a:DO w B ea d.pa.vm d.pa.vc d.pa.sb d.pa.cb d.pa.us d.pa.md m.a
 b:DO w B eb d.pb.vm d.pb.vc d.pb.sb d.pb.cb d.pb.us d.pb.md m.b
 c0:w.cell? ⟨mb,0,none⟩=some (.pointer (some ⟨ea,0,none⟩))
 c1:w.cell? ⟨mb,1,none⟩=some (.pointer (some ⟨eb,0,none⟩))
 l:Lk.Lnk (λi=>w.cell? ⟨mb,i,none⟩) w 60 2 B mb d.v m.ls
 ab:∀k,j6 ea d.pa k->¬j6 eb d.pb k
 al:∀k,j6 ea d.pa k->¬Lk.own mb d.v k
 bl:∀k,j6 eb d.pb k->¬Lk.own mb d.v k
def yX(D L o:Nat)(d:Dv)(k:Nat):Prop:=j6 L d.pa k\/j6 o d.pb k\/Lk.own D d.v k
theorem Xx{Q:Nat->Option Value}{T o z:Nat}{v:Value}{G:List Lk.LR}(h:Lk.Lnk Q w T o B z v G):Lk.Lnk (λi=>w.cell? ⟨z,i,none⟩) w T o B z v G:=⟨h.inv,h.c,h.f,h.row,h.hs,h.nv,λ_ _=>rfl,h.rf⟩
section
variable {w w' w2 : World} {B mb ea eb : Nat} {d : Dv} {m m' : Tt}
theorem DTk.own_lt(h:DTk w B mb ea eb d m){k:Nat}(a:yX mb ea eb d k):B<=k/\k<w.heap.size:=by
 rcases a with a|a|a;exact h.a.own_lt a;exact h.b.own_lt a;exact ⟨h.l.ge a,h.l.lt a⟩
theorem DTk.le(h:DTk w B mb ea eb d m):B<=w.heap.size:=h.a.le
theorem DTk.off{K:Nat->Prop}(h:DTk w B mb ea eb d m)(c:Off K w w')(a:∀k,yX mb ea eb d k->¬K k):DTk w' B mb ea eb d m:=
 ⟨h.a.off c λk b=>a k (.inl b),h.b.off c λk b=>a k (.inr (.inl b)),c.cell h.c0 (a mb (.inr (.inr (.inl rfl)))),c.cell h.c1 (a mb (.inr (.inr (.inl rfl)))),Xx (h.l.off c λk b=>a k (.inr (.inr b))),h.ab,h.al,h.bl⟩
theorem DTk.below(h:DTk w B mb ea eb d m)(a:Below w.heap.size w w'):DTk w' B mb ea eb d m:=h.off (Off.of_below (K:=λ_=>False) a) λ_ _=>id
def DTTurn(w E:World)(B D L o:Nat)(d:Dv)(m:Tt):Prop:=
 ∃a,DTk E B D L o a m/\Off (yX D L o d) w E/\∀k,yX D L o a k->yX D L o d k\/w.heap.size<=k
theorem DTTurn.below(h:DTk w B mb ea eb d m)(a:Below w.heap.size w w'):DTTurn w w' B mb ea eb d m:=⟨d,h.below a,Off.of_below a,λ_ b=>.inl b⟩
theorem DTTurn.same(h:DTk w B mb ea eb d m):DTTurn w w B mb ea eb d m:=⟨d,h,Off.refl _ _,λ_ a=>.inl a⟩
theorem DTTurn.more(h:DTTurn w w' B mb ea eb d m)(a:Below w'.heap.size w' w2):DTTurn w w2 B mb ea eb d m:=by
 obtain⟨b,c,e,f⟩:=h;exact⟨b,c.below a,e.trans (Off.of_below a),f⟩
theorem DTTurn.trans{c:Dv}(q:DTk w' B mb ea eb c m)(a:Off (yX mb ea eb d) w w')(f:∀k,yX mb ea eb c k->yX mb ea eb d k\/w.heap.size<=k)(l:DTTurn w' w2 B mb ea eb c m'):DTTurn w w2 B mb ea eb d m':=by
 obtain⟨j,p,b,n⟩:=l;refine⟨j,p,?_,λk h=>?_⟩;refine ⟨b.os.trans a.os,b.tape.trans a.tape,b.output.trans a.output,Nat.le_trans a.size b.size,λk g i=>?_⟩;rw[b.block k (Nat.lt_of_lt_of_le g a.size) (λe=>?_),a.block k g i];rcases f k e with h|h;exact i h;.omega
 rcases n k h with h|h;exact f k h;exact .inr (Nat.le_trans a.size h)
theorem DTTurn.a{e:En}(h:DTk w B mb ea eb d m)(u:DTurn w w' B ea d.pa.vm d.pa.vc d.pa.sb d.pa.cb d.pa.us e):DTTurn w w' B mb ea eb d {m with a:=e}:=by
 obtain⟨q,A,p,Z,r,f,s⟩:=u;have t:∀k,j6 eb d.pb k->¬j6 ea d.pa k:=λk b i=>h.ab k i b;have l:∀k,Lk.own mb d.v k->¬j6 ea d.pa k:=λk b i=>h.al k i b;have n:¬j6 ea d.pa mb:=l mb (.inl rfl);have j:∀k,j6 ea ⟨q,A,d.pa.sb,d.pa.cb,p,Z⟩ k->j6 ea d.pa k\/w.heap.size<=k:=s;refine⟨{d with pa:=⟨q,A,d.pa.sb,d.pa.cb,p,Z⟩},⟨r,h.b.off f t,f.cell h.c0 n,f.cell h.c1 n,Xx (h.l.off f l),λk b g=>?_,λk b g=>?_,h.bl⟩,f.mono λk _ b=>.inl b,λk b=>?_⟩
 rcases j k b with c|c;exact h.ab k c g;have:=(h.b.own_lt g).2;omega;rcases j k b with c|c;exact h.al k c g;have:=h.l.lt g;omega;rcases b with b|b|b;exact (j k b).imp .inl id;exact .inl (.inr (.inl b));exact .inl (.inr (.inr b))
theorem DTTurn.b{e:En}(h:DTk w B mb ea eb d m)(u:DTurn w w' B eb d.pb.vm d.pb.vc d.pb.sb d.pb.cb d.pb.us e):DTTurn w w' B mb ea eb d {m with b:=e}:=by
 obtain⟨q,A,p,Z,r,f,s⟩:=u;have t:∀k,j6 ea d.pa k->¬j6 eb d.pb k:=λk a i=>h.ab k a i;have l:∀k,Lk.own mb d.v k->¬j6 eb d.pb k:=λk a i=>h.bl k i a;have n:¬j6 eb d.pb mb:=l mb (.inl rfl);have j:∀k,j6 eb ⟨q,A,d.pb.sb,d.pb.cb,p,Z⟩ k->j6 eb d.pb k\/w.heap.size<=k:=s;refine⟨{d with pb:=⟨q,A,d.pb.sb,d.pb.cb,p,Z⟩},⟨h.a.off f t,r,f.cell h.c0 n,f.cell h.c1 n,Xx (h.l.off f l),λk a g=>?_,h.al,λk a g=>?_⟩,f.mono λk _ a=>.inr (.inl a),λk a=>?_⟩
 rcases j k g with c|c;exact h.ab k a c;have:=(h.a.own_lt a).2;omega;rcases j k a with c|c;exact h.bl k c g;have:=h.l.lt g;omega;rcases a with a|a|a;exact .inl (.inl a);exact (j k a).imp (λe=>.inr (.inl e)) id;exact .inl (.inr (.inr a))
theorem DTTurn.l{ls:List Lk.LR}(h:DTk w B mb ea eb d m)(n:Lk.Turn (λi=>w.cell? ⟨mb,i,none⟩) w w' 60 2 B mb d.v ls):DTTurn w w' B mb ea eb d {m with ls:=ls}:=by
 obtain⟨v,b,c,l⟩:=n;have j:∀k,Lk.own mb v k->Lk.own mb d.v k\/w.heap.size<=k:=λk a=>by
  rcases a with e|e;exact .inl (.inl e);exact (l k e).imp .inr id
 refine⟨{d with v:=v},⟨h.a.off c (λk a g=>h.al k a g),h.b.off c (λk a g=>h.bl k a g),(b.rs 0 (by decide)).trans h.c0,(b.rs 1 (by decide)).trans h.c1,Xx b,h.ab,λk a f=>?_,λk a f=>?_⟩,c.mono λk _ a=>.inr (.inr a),λk a=>?_⟩;rcases j k f with e|e;exact h.al k a e;have:=(h.a.own_lt a).2;omega;rcases j k f with e|e;exact h.bl k a e;have:=(h.b.own_lt a).2;omega;rcases a with a|a|a;exact .inl (.inl a);exact .inl (.inr (.inl a));exact (j k a).imp (λe=>.inr (.inr e)) id
end
variable {w:World}{B D L o:Nat}{d:Dv}{m:Tt}
theorem XG(h:DTk w B D L o d m)(i:Int):Calls Tryz.prog 25 #[.pointer (some ⟨D,0,none⟩),.int .i64 i] w λe E=>e=.returned (.tuple #[.agg #[.int .i64 (Lk.kz m.ls i).1,.string (Lk.kz m.ls i).2],.int .i64 (Lk.xU m.ls i)])/\DTTurn w E B D L o d (jf m i):=
 (Lk.zp4 h.l i).mono λe E ⟨a,b⟩=>⟨a,DTTurn.l h b⟩
theorem zff(h:DTk w B D L o d m)(i:Int):Calls Tryz.prog 26 #[.pointer (some ⟨D,0,none⟩),.int .i64 i] w λe E=>e=.returned (.int .i64 (Lk.xk m.ls i))/\DTTurn w E B D L o d (yS m i):=
 (Lk.zqq h.l i).mono λe E ⟨a,b⟩=>⟨a,DTTurn.l h b⟩
theorem zfc(D:Nat)(a:Int)(w:World)(c:Lk.qN a=false):Cs 23 #[.pointer (some ⟨D,0,none⟩),.int .i64 a] w (.int .i64 1):=by
 have b:=of_decide_eq_false c;have d:(a !=0)=true:=by simpa using λe=>b (.inl e)
 have f:(a !=1)=true:=by simpa using λe=>b (.inr e)
 clear c b;go_enter Tryz.func23,Tryz.ntmps23
 go_wp2_with fail;go_ret;exact⟨rfl,rfl⟩
theorem zfa(h:DTk w B D L o d m)(f:40<=m.ls.length):Cs 23 #[.pointer (some ⟨D,0,none⟩),.int .i64 0] w (.int .i64 4):=by
 obtain⟨a,c,b⟩:=h.l.shape;have c2:=h.l.c;rw[b]at c2;have g:(40:Int)<=(m.ls.length:Int):=by omega
 clear h f b;generalize m.ls.length=n at c2 g;go_enter Tryz.func23,Tryz.ntmps23
 go_wp2_with fail;go_ret;exact⟨rfl,rfl⟩
theorem zfd(h:DTk w B D L o d m)(y:m.ls.length<40)(F:xV m.a=0):Calls Tryz.prog 23 #[.pointer (some ⟨D,0,none⟩),.int .i64 0] w λe w'=>e=.returned (.int .i64 0)/\DTTurn w w' B D L o d {m with a:=q9 m.a,ls:=m.ls++[(1,qP m.a)]}:=by
 have N:=zC h;obtain⟨a,c,C⟩:=h.l.shape;have c2:=h.l.c;rw[C]at c2;have R:=h.c0;have X:¬(40:Int)<=(m.ls.length:Int):=by omega
 have HM:=YL h.a F;have M:=zC y;have Q:=Za F;have HI:Hid (Lk.Inv (m.ls++[((1:Int),qP m.a)])):=h.l.inv.add rfl y Q;obtain⟨i0,Z,a2,a3,a4⟩:=info_parts Lk.XY;clear h y C F Q;generalize qP m.a=g at HM HI |-;generalize V:m.ls.length=n at c2 X;have r:Hid (m.ls.length=n):=V;clear V;go_enter Tryz.func23,Tryz.ntmps23
 go_wp2_with fail;refine HM.mono ?_;rintro e b ⟨rfl,A⟩;obtain⟨q,l,T,k1⟩:=DTTurn.a N.out A;obtain⟨G,H,E⟩:=l.l.shape;have S:=l.l.c;have s:q.v=.slice G n H:=by rw[<-r.out];exact E
 rw[s]at S;clear c2 R HM E A;have x:Below b.heap.size b (b.alloc (.cells #[.int .i64 1,.string g] 60)):=(Below.refl _ _).alloc (Nat.le_refl _) _;have f:=l.l.below x;have hrow:=f.row;rw[s]at hrow;have a1:(b.alloc (.cells #[.int .i64 1,.string g] 60)).ownsRow B 60 2 (.slice G n H) n (Lk.flat m.ls):=by rw[<-r.out]at hrow |-;exact hrow
 have W:=M.out;rw[r.out]at W;go_wp2_with (at_builtin;refine wpList_append_own_at _ rfl (.tmp 29) (.tmp 34) 50 rfl B 60 i0 _ 2 24 Tryz.underlying50 Z a2 a3 a4 rfl (by decide) _ _ (Lk.flat m.ls) rfl a1 ⟨b.heap.size,0,none⟩ 1 1 (Lk.flat [(1,g)]) rfl rfl (Lk.XA b _ _ _) (λu hu=>Lk.wV u hu) (by unfold maxLen;omega) (by omega) f.le ?_;intro v' J ho3 Y a0 hl3;clear a0;obtain⟨v,t,rfl⟩:=Lk.wh ho3 (by omega);have P:=Off.of_grown (K:=λk=>q.v.ownBlock=some k) Y (λk e=>by rw[s];exact e);have d2:=P.cell f.c (λe=>f.nv D e rfl);have df:=(P.frozen (p:=⟨D,2,none⟩) (f.lt (.inl rfl)) (λe=>f.nv D e rfl)).trans f.f)
 go_ret;have z:∀j,(Value.slice (some ⟨v,0,none⟩) (n+1) t).ownBlock=some j->q.v.ownBlock=some j\/b.heap.size<=j:=λj U=>by
  rcases hl3 with e|e;left;rw[s];exact e.symm.trans U
  .right
   have e2:j=(b.alloc (.cells #[.int .i64 1,.string g] 60)).heap.size:=Option.some.inj (U.symm.trans e)
   have:=x.size
   omega
 have I:Off (λj=>q.v.ownBlock=some j) b J:=(Off.of_below x).trans P;have O:(m.ls++[((1:Int),g)]).length=n+1:=by rw[<-r.out];simp
 have ht:Lk.Turn (λi=>b.cell? ⟨D,i,none⟩) b (J.setCell ⟨D,2,none⟩ (.slice (some ⟨v,0,none⟩) (n+1) t)) 60 2 B D q.v (m.ls++[(1,g)]):=
  ⟨_,l.l.put I (v':=.slice (some ⟨v,0,none⟩) (n+1) t) (by rw[O,Lk.xL];exact ho3) z HI.out,(I.mono (λj _ e=>.inr e)).setCell (.inl rfl) _,z⟩
 exact⟨rfl,DTTurn.trans l T k1 (DTTurn.l l ht)⟩
theorem zfb(h:DTk w B D L o d m)(f:40<=m.ls.length):Cs 23 #[.pointer (some ⟨D,0,none⟩),.int .i64 1] w (.int .i64 4):=by
 obtain⟨a,c,b⟩:=h.l.shape;have c2:=h.l.c;rw[b]at c2;have g:(40:Int)<=(m.ls.length:Int):=by omega
 clear h f b;generalize m.ls.length=n at c2 g;go_enter Tryz.func23,Tryz.ntmps23
 go_wp2_with fail;go_ret;exact⟨rfl,rfl⟩
theorem zfe(h:DTk w B D L o d m)(F:m.ls.length<40)(P:xV m.b=0):Calls Tryz.prog 23 #[.pointer (some ⟨D,0,none⟩),.int .i64 1] w λe w'=>e=.returned (.int .i64 0)/\DTTurn w w' B D L o d {m with b:=q9 m.b,ls:=m.ls++[(0,qP m.b)]}:=by
 have O:=zC h;obtain⟨a,c,E⟩:=h.l.shape;have c2:=h.l.c;rw[E]at c2;have S:=h.c1;have Y:¬(40:Int)<=(m.ls.length:Int):=by omega
 have HM:=YL h.b P;have N:=zC F;have U:=Za P;have HI:Hid (Lk.Inv (m.ls++[((0:Int),qP m.b)])):=h.l.inv.add rfl F U;obtain⟨i0,a0,a3,a4,a5⟩:=info_parts Lk.XY;clear h F E P U;generalize qP m.b=l at HM HI |-;generalize z:m.ls.length=n at c2 Y;have s:Hid (m.ls.length=n):=z;clear z;go_enter Tryz.func23,Tryz.ntmps23
 go_wp2_with fail;refine HM.mono ?_;rintro e f ⟨rfl,C⟩;obtain⟨r,q,W,k1⟩:=DTTurn.b O.out C;obtain⟨H,I,G⟩:=q.l.shape;have T:=q.l.c;have t:r.v=.slice H n I:=by rw[<-s.out];exact G
 rw[t]at T;clear c2 S HM G C;have y:Below f.heap.size f (f.alloc (.cells #[.int .i64 0,.string l] 60)):=(Below.refl _ _).alloc (Nat.le_refl _) _;have g:=q.l.below y;have hrow:=g.row;rw[t]at hrow;have a2:(f.alloc (.cells #[.int .i64 0,.string l] 60)).ownsRow B 60 2 (.slice H n I) n (Lk.flat m.ls):=by rw[<-s.out]at hrow |-;exact hrow
 have X:=N.out;rw[s.out]at X;go_wp2_with (at_builtin;refine wpList_append_own_at _ rfl (.tmp 29) (.tmp 34) 50 rfl B 60 i0 _ 2 24 Tryz.underlying50 a0 a3 a4 a5 rfl (by decide) _ _ (Lk.flat m.ls) rfl a2 ⟨f.heap.size,0,none⟩ 1 1 (Lk.flat [(0,l)]) rfl rfl (Lk.XA f _ _ _) (λu hu=>Lk.wV u hu) (by unfold maxLen;omega) (by omega) g.le ?_;intro v' M ho3 Z a1 hl3;clear a1;obtain⟨x,v,rfl⟩:=Lk.wh ho3 (by omega);have Q:=Off.of_grown (K:=λk=>r.v.ownBlock=some k) Z (λk e=>by rw[t];exact e);have d2:=Q.cell g.c (λe=>g.nv D e rfl);have df:=(Q.frozen (p:=⟨D,2,none⟩) (g.lt (.inl rfl)) (λe=>g.nv D e rfl)).trans g.f)
 go_ret;have A:∀j,(Value.slice (some ⟨x,0,none⟩) (n+1) v).ownBlock=some j->r.v.ownBlock=some j\/f.heap.size<=j:=λj V=>by
  rcases hl3 with e|e;left;rw[t];exact e.symm.trans V
  .right
   have e2:j=(f.alloc (.cells #[.int .i64 0,.string l] 60)).heap.size:=Option.some.inj (V.symm.trans e)
   have:=y.size
   omega
 have J:Off (λj=>r.v.ownBlock=some j) f M:=(Off.of_below y).trans Q;have R:(m.ls++[((0:Int),l)]).length=n+1:=by rw[<-s.out];simp
 have ht:Lk.Turn (λi=>f.cell? ⟨D,i,none⟩) f (M.setCell ⟨D,2,none⟩ (.slice (some ⟨x,0,none⟩) (n+1) v)) 60 2 B D r.v (m.ls++[(0,l)]):=
  ⟨_,q.l.put J (v':=.slice (some ⟨x,0,none⟩) (n+1) v) (by rw[R,Lk.xL];exact ho3) A HI.out,(J.mono (λj _ e=>.inr e)).setCell (.inl rfl) _,A⟩
 exact⟨rfl,DTTurn.trans q W k1 (DTTurn.l q ht)⟩
theorem ze9(h:DTk w B D L o d m)(c:Int)(hm:Lk.qN c=true->xV (m.who c)=0):Calls Tryz.prog 23 #[.pointer (some ⟨D,0,none⟩),.int .i64 c] w λe E=>e=.returned (.int .i64 (jH m c))/\DTTurn w E B D L o d (xy m c):=by
 cases g:Lk.qN c with
 |false=>
  have f:jH m c=1:=by unfold jH;rw[g,if_neg (by decide)]
  have i:xy m c=m:=by unfold xy;rw[f,if_neg (by decide)]
  rw[f,i];exact(zfc D c w g).mono λk E ⟨a,b⟩=>⟨a,by rw[b];exact DTTurn.same h⟩
 |true=>
  have hm:=hm g;by_cases j:40<=m.ls.length;have f:jH m c=4:=by unfold jH;rw[g,if_pos rfl,if_pos j]
  have i:xy m c=m:=by unfold xy;rw[f,if_neg (by decide)]
  rw[f,i];rcases wU g with rfl|rfl;exact (zfa h j).mono λk E ⟨a,b⟩=>⟨a,by rw[b];exact DTTurn.same h⟩;exact (zfb h j).mono λk E ⟨a,b⟩=>⟨a,by rw[b];exact DTTurn.same h⟩;have f:jH m c=0:=by unfold jH;rw[g,if_pos rfl,if_neg j]
  have i:xy m c={m.set c (q9 (m.who c))with ls:=m.ls++[(1-c,qP (m.who c))]}:=by unfold xy;rw[f,if_pos rfl]
  rw[f,i];rcases wU g with rfl|rfl;exact zfd h (by omega) hm;exact zfe h (by omega) hm
theorem ze8(h:DTk w B D L o d m)(i:Int)(a:Lk.qa m.ls i=false):Calls Tryz.prog 24 #[.pointer (some ⟨D,0,none⟩),.int .i64 i] w λe E=>e=.returned (.int .i64 1)/\DTTurn w E B D L o d m:=by
 have HG:=XG h i;rw[Lk.KL a,Lk.KI a,show jf m i=m by unfold jf;rw[Lk.KJ a]]at HG;clear h a;go_enter Tryz.func24,Tryz.ntmps24
 go_wp2_with (go_at_call 25;refine HG.mono ?_;rintro c f ⟨rfl,b⟩);go_ret;exact⟨rfl,b.more ((Below.refl _ _).alloc (Nat.le_refl _) _)⟩
theorem ze5(h:DTk w B D L o d m)(p:Nat)(l:p<m.ls.length)(f:ByteArray)(k:Lk.at' m.ls p=(0,f))(q:zU m.a<=1073741823):Calls Tryz.prog 24 #[.pointer (some ⟨D,0,none⟩),.int .i64 (p:Int)] w λe E=>e=.returned (.int .i64 (qD m.a f).1)/\DTTurn w E B D L o d {m with a:=(qD m.a f).2,ls:=Lk.qB m.ls p}:=by
 have hz:=(h.l.inv.ok _ (Lk.at_mem l)).2;rw[k]at hz;have i:Lk.qa m.ls (p:Int)=true:=Lk.Q3 l;have HG:=XG h (p:Int);rw[Lk.XT i,Lk.XQ i,Int.toNat_natCast,k,show jf m (p:Int)={m with ls:=Lk.qB m.ls p} by unfold jf;rw[Lk.XR i,Int.toNat_natCast]]at HG;have HK:Hid (∀c,DTTurn w c B D L o d {m with ls:=Lk.qB m.ls p}->∀X,Below c.heap.size c X->X.cell? ⟨D,0,none⟩=some (.pointer (some ⟨L,0,none⟩))/\Calls Tryz.prog 41 #[.pointer (some ⟨L,0,none⟩),.string f] X λg E=>g=.returned (.int .i64 (qD m.a f).1)/\DTTurn w E B D L o d {m with a:=(qD m.a f).2,ls:=Lk.qB m.ls p}):=by
  show∀c,_->_;intro c v X u;obtain⟨V,j,t,y⟩:=v.more u;refine⟨j.c0,(YS j.a f (by simp only at hz;omega) q).mono λg E ⟨a,b⟩=>⟨a,DTTurn.trans j t y (DTTurn.a j b)⟩⟩
 clear h l k hz i q;generalize(qD m.a f).1=z at HK |-;generalize({m with a:=(qD m.a f).2,ls:=Lk.qB m.ls p}:Tt)=C at HK |-;generalize({m with ls:=Lk.qB m.ls p}:Tt)=A at HK HG;go_enter Tryz.func24,Tryz.ntmps24
 go_upto_region 4 with(go_at_call 25;refine HG.mono ?_;rintro g c ⟨rfl,r⟩;clear HG)
 have n:Below c.heap.size c (c.alloc (.cells #[.int .i64 0,.string f] 60)).drew:=((Below.refl _ _).alloc (Nat.le_refl _) _).drew;obtain⟨U,s⟩:=HK.out c r _ n;have F:(c.alloc (.cells #[.int .i64 0,.string f] 60)).drew.cell? ⟨c.heap.size,0,none⟩=some (.int .i64 0):=by show(c.alloc _).cell? _=_;simp
 have P:(c.alloc (.cells #[.int .i64 0,.string f] 60)).drew.cell? ⟨c.heap.size,1,none⟩=some (.string f):=by show(c.alloc _).cell? _=_;simp
 clear HK r n;generalize c.heap.size=Q at F P |-;go_region_with (go_at_call 41;refine s.mono ?_;rintro g G ⟨rfl,x⟩)
 all_goals (try go_wp2_with fail)
 all_goals go_ret
 all_goals exact⟨rfl,x⟩
theorem ze6(h:DTk w B D L o d m)(p:Nat)(l:p<m.ls.length)(f:ByteArray)(k:Lk.at' m.ls p=(1,f))(q:zU m.b<=1073741823):Calls Tryz.prog 24 #[.pointer (some ⟨D,0,none⟩),.int .i64 (p:Int)] w λe E=>e=.returned (.int .i64 (qD m.b f).1)/\DTTurn w E B D L o d {m with b:=(qD m.b f).2,ls:=Lk.qB m.ls p}:=by
 have hz:=(h.l.inv.ok _ (Lk.at_mem l)).2;rw[k]at hz;have i:Lk.qa m.ls (p:Int)=true:=Lk.Q3 l;have HG:=XG h (p:Int);rw[Lk.XT i,Lk.XQ i,Int.toNat_natCast,k,show jf m (p:Int)={m with ls:=Lk.qB m.ls p} by unfold jf;rw[Lk.XR i,Int.toNat_natCast]]at HG;have HK:Hid (∀c,DTTurn w c B D L o d {m with ls:=Lk.qB m.ls p}->∀X,Below c.heap.size c X->X.cell? ⟨D,1,none⟩=some (.pointer (some ⟨o,0,none⟩))/\Calls Tryz.prog 41 #[.pointer (some ⟨o,0,none⟩),.string f] X λg E=>g=.returned (.int .i64 (qD m.b f).1)/\DTTurn w E B D L o d {m with b:=(qD m.b f).2,ls:=Lk.qB m.ls p}):=by
  show∀c,_->_;intro c v X u;obtain⟨V,j,t,y⟩:=v.more u;refine⟨j.c1,(YS j.b f (by simp only at hz;omega) q).mono λg E ⟨a,b⟩=>⟨a,DTTurn.trans j t y (DTTurn.b j b)⟩⟩
 clear h l k hz i q;generalize(qD m.b f).1=z at HK |-;generalize({m with b:=(qD m.b f).2,ls:=Lk.qB m.ls p}:Tt)=C at HK |-;generalize({m with ls:=Lk.qB m.ls p}:Tt)=A at HK HG;go_enter Tryz.func24,Tryz.ntmps24
 go_upto_region 4 with(go_at_call 25;refine HG.mono ?_;rintro g c ⟨rfl,r⟩;clear HG)
 have n:Below c.heap.size c (c.alloc (.cells #[.int .i64 1,.string f] 60)).drew:=((Below.refl _ _).alloc (Nat.le_refl _) _).drew;obtain⟨U,s⟩:=HK.out c r _ n;have F:(c.alloc (.cells #[.int .i64 1,.string f] 60)).drew.cell? ⟨c.heap.size,0,none⟩=some (.int .i64 1):=by show(c.alloc _).cell? _=_;simp
 have P:(c.alloc (.cells #[.int .i64 1,.string f] 60)).drew.cell? ⟨c.heap.size,1,none⟩=some (.string f):=by show(c.alloc _).cell? _=_;simp
 clear HK r n;generalize c.heap.size=Q at F P |-;go_region_with (go_at_call 41;refine s.mono ?_;rintro g G ⟨rfl,x⟩)
 all_goals (try go_wp2_with fail)
 all_goals go_ret
 all_goals exact⟨rfl,x⟩
theorem ze7(h:DTk w B D L o d m)(i:Int)(b:∀c,Lk.qN c=true->zU (m.who c)<=1073741823):Calls Tryz.prog 24 #[.pointer (some ⟨D,0,none⟩),.int .i64 i] w λe E=>e=.returned (.int .i64 (vT m i))/\DTTurn w E B D L o d (ko m i):=by
 cases hi:Lk.qa m.ls i with
 |false=>
  unfold vT ko;rw[hi,if_neg (by decide),if_neg (by decide)];exact ze8 h i hi
 |true=>
  obtain⟨p,rfl,a⟩:=Lk.Zi hi;unfold vT ko;rw[hi,if_pos rfl,if_pos rfl,Int.toNat_natCast];have f:=(h.l.inv.ok _ (Lk.at_mem a)).1;have ha:Lk.at' m.ls p=((Lk.at' m.ls p).1,(Lk.at' m.ls p).2):=rfl;rcases wU f with e|e;rw [e]at ha |-;exact ze5 h p a _ ha (b 0 rfl);rw [e]at ha |-;exact ze6 h p a _ ha (b 1 rfl)
structure DN0(w wr:World)(mb:Nat):Prop where
 bel:Below w.heap.size w wr
 ge:w.heap.size<=mb
 lt:mb<wr.heap.size
 c0:wr.cell? ⟨mb,0,none⟩=some (.pointer none)
 c1:wr.cell? ⟨mb,1,none⟩=some (.pointer none)
 c2:wr.cell? ⟨mb,2,none⟩=some (.slice none 0 0)
 fz:∀i,wr.frozen? ⟨mb,i,none⟩=false
structure DN1(n:Int)(w wr:World)(mb ea sa ca:Nat):Prop where
 bel:Below w.heap.size w wr
 ge:w.heap.size<=mb
 lt:mb<wr.heap.size
 a:DO wr w.heap.size ea (.slice none 0 0) (.slice none 0 0) sa ca [] [] (zi n)
 ap:∀k,vo ea (.slice none 0 0) (.slice none 0 0) sa ca [] k->k≠mb
 c0:wr.cell? ⟨mb,0,none⟩=some (.pointer (some ⟨ea,0,none⟩))
 c1:wr.cell? ⟨mb,1,none⟩=some (.pointer none)
 c2:wr.cell? ⟨mb,2,none⟩=some (.slice none 0 0)
 fz:∀i,wr.frozen? ⟨mb,i,none⟩=false
theorem y7{E:World}{b i:Nat}{v:Value}(a:Below B w E)(c:b<B)(h:w.cell? ⟨b,i,none⟩=some v):E.cell? ⟨b,i,none⟩=some v:=(a.cell (p:=⟨b,i,none⟩) c).trans h
theorem DN0.drew{a:World}(h:DN0 w a D):DN0 w a.drew D:=⟨h.bel.drew,h.ge,h.lt,h.c0,h.c1,h.c2,h.fz⟩
variable {n:Int}
theorem DN0.one{d c:World}{l f:Nat}(h:DN0 w d D)(q:DO c d.heap.size L (.slice none 0 0) (.slice none 0 0) l f [] [] (zi n))(b:Below d.heap.size d c):DN1 n w (c.setCell ⟨D,0,none⟩ (.pointer (some ⟨L,0,none⟩))) D L l f:=by
 have g:Off (λk=>k=D) c (c.setCell ⟨D,0,none⟩ (.pointer (some ⟨L,0,none⟩))):=(Off.refl _ _).setCell (K:=λk=>k=D) (a:=⟨D,0,none⟩) rfl _;have p:∀k,vo L (.slice none 0 0) (.slice none 0 0) l f [] k->k≠D:=λk j e=>by have:=(q.own_lt j).1;have:=h.lt;omega
 have m:Below w.heap.size w c:=h.bel.trans (b.mono h.bel.size);refine⟨m.trans (g.below (λk j=>by rw[j];exact h.ge) m.size),h.ge,Nat.lt_of_lt_of_le (Nat.lt_of_lt_of_le h.lt b.size) g.size,(q.off g p).base h.bel.size,p,World.cell?_setCell_same _ _ _ (y7 b h.lt h.c0),?_,?_,λi=>?_⟩;rw [World.cell?_setCell_other _ _ _ _ (by simp)];exact y7 b h.lt h.c1;rw [World.cell?_setCell_other _ _ _ _ (by simp)];exact y7 b h.lt h.c2
 rw [World.frozen?_setCell,World.frozen?_of_block (b.block D h.lt)];exact h.fz i
theorem DN1.drew{c:World}{b a:Nat}(h:DN1 n w c D L b a):DN1 n w c.drew D L b a:=⟨h.bel.drew,h.ge,h.lt,h.a.below ((Below.refl _ _).drew),h.ap,h.c0,h.c1,h.c2,h.fz⟩
theorem DN1.two{g d:World}{t p z j:Nat}(h:DN1 n w g D L t p)(m:DO d g.heap.size o (.slice none 0 0) (.slice none 0 0) z j [] [] (zi n))(c:Below g.heap.size g d):DTk (d.setCell ⟨D,1,none⟩ (.pointer (some ⟨o,0,none⟩))) w.heap.size D L o ⟨⟨.slice none 0 0,.slice none 0 0,t,p,[],[]⟩,⟨.slice none 0 0,.slice none 0 0,z,j,[],[]⟩,.slice none 0 0⟩ (zQ n)/\Below w.heap.size w (d.setCell ⟨D,1,none⟩ (.pointer (some ⟨o,0,none⟩))):=by
 have l:Off (λk=>k=D) d (d.setCell ⟨D,1,none⟩ (.pointer (some ⟨o,0,none⟩))):=(Off.refl _ _).setCell (K:=λk=>k=D) (a:=⟨D,1,none⟩) rfl _;have s:∀k,vo o (.slice none 0 0) (.slice none 0 0) z j [] k->k≠D:=λk b e=>by have:=(m.own_lt b).1;have:=h.lt;omega
 have q:Below w.heap.size w d:=h.bel.trans (c.mono h.bel.size);have r:∀k,Lk.own D (.slice none 0 0) k->k=D:=λk b=>by
  rcases b with e|e;exact e;cases e
 refine⟨⟨(h.a.below c).off l h.ap,(m.off l s).base h.bel.size,?_,World.cell?_setCell_same _ _ _ (y7 c h.lt h.c1),⟨Lk.Inv.start,?_,?_,World.ownsRow_nil _ _ _ _,h.ge,(λk b=>by cases b),λ_ _=>rfl,λi=>?_⟩,λk b f=>?_,λk b f=>h.ap k b (r k f),λk b f=>s k b (r k f)⟩,q.trans (l.below (λk b=>by rw[b];exact h.ge) q.size)⟩;rw [World.cell?_setCell_other _ _ _ _ (by simp)];exact y7 c h.lt h.c0;rw [World.cell?_setCell_other _ _ _ _ (by simp)];exact y7 c h.lt h.c2
 rw [World.frozen?_setCell,World.frozen?_of_block (c.block D h.lt)];exact h.fz 2;rw [World.frozen?_setCell,World.frozen?_of_block (c.block D h.lt)];exact h.fz i;have:=(h.a.own_lt b).2;have:=(m.own_lt f).1;omega
theorem YT(n:Int)(w:World)(m:Cx.vL n=true):Calls Tryz.prog 8 #[.int .i64 n] w λe E=>∃D L o d,e=.returned (.pointer (some ⟨D,0,none⟩))/\DTk E w.heap.size D L o d (zQ n)/\Below w.heap.size w E:=by
 have k:Hid (∀X,Calls Tryz.prog 18 #[.int .i64 n] X λf E=>∃o z l,f=.returned (.pointer (some ⟨o,0,none⟩))/\DO E X.heap.size o (.slice none 0 0) (.slice none 0 0) z l [] [] (zi n)/\Below X.heap.size X E):=λX=>zec n X m;have q:∀W:World,(zeroValue 52).run Tryz.prog W=.ok (.agg #[.pointer none,.pointer none,.slice none 0 0]) W:=λW=>by kernel_rfl
 have h0:DN0 w (w.alloc (.cells #[.pointer none,.pointer none,.slice none 0 0] 52)) w.heap.size:=⟨(Below.refl _ _).alloc (Nat.le_refl _) _,Nat.le_refl _,by simp,by simp,by simp,by simp,λi=>by simp⟩;clear m;go_enter Tryz.func8,Tryz.ntmps8
 go_upto_region 2 with fail
 clear q;generalize w.heap.size=D at h0 |-;generalize w.alloc (.cells #[.pointer none,.pointer none,.slice none 0 0] 52)=u at h0 |-;have a:=h0.drew;go_cut [] (λt=>∃L h c,DN1 n w t D L h c)
 case first=>
  go_region_with (go_at_call 18;refine(k.out _).mono ?_;rintro f j ⟨L,h,c,rfl,g,b⟩;have r:=y7 b a.lt a.c0;have s:j.frozen? ⟨D,0,none⟩=false:=(World.frozen?_of_block (b.block D a.lt)).trans (a.fz 0);have hN1:=a.one g b)
  all_goals (try go_wp2_with fail)
  all_goals go_meet
  all_goals exact⟨_,_,_,by first|exact hN1|exact hN1.drew⟩
 case rest=>
  clear h0 a;obtain⟨L,h,c,p⟩:=hcut;have a:=p.drew;go_upto_region 3 with fail
  go_region_with (go_at_call 18;refine(k.out _).mono ?_;rintro f j ⟨o,z,l,rfl,g,b⟩;have r:=y7 b a.lt a.c1;have s:j.frozen? ⟨D,1,none⟩=false:=(World.frozen?_of_block (b.block D a.lt)).trans (a.fz 1);have hN2:=a.two g b)
  all_goals (try go_wp2_with fail)
  all_goals go_ret
  all_goals exact⟨_,_,_,_,rfl,by first|exact hN2.1|exact hN2.1.below ((Below.refl _ _).drew),by first|exact hN2.2|exact hN2.2.drew⟩
end Go.Proofs.YtdokgalidhmbbaaGreatDoor
