/- What the law RunAnswers needs. -/
import Derived.Test.YtdokgalidhmbbaaGreatDoorHG
import Derived.Test.YtdokgalidhmbbaaGreatDoorHL
import Derived.Great.Walk
import Derived.Deep.AppendLies
set_option linter.unusedVariables false
set_option linter.unusedSimpArgs false
set_option maxRecDepth 100000
set_option maxHeartbeats 8000000
namespace Go.Proofs.YtdokgalidhmbbaaGreatDoor.Ez
open Go.RowKit Go.Lib Go.Sort
open Sx (zP)
variable {pz : Nat} {Qz : Nat -> Option Value}
theorem zq2(X:World)(o q:Nat)(d:q<=60):(Instr.sliceAt 96 (.pointer (some ⟨o,pz,none⟩)) (some (.int .i64 (q:Int))) none none).run Tryz.prog X=.ok (.slice (some ⟨o,jc pz q,none⟩) (60-q) (60-q)) X:=by
 have a:Tryz.prog.arrayLen 96=60:=by kernel_rfl
 have c:(sizeOf (Tryz.prog.elem 96)).run Tryz.prog X=.ok 1 X:=by kernel_rfl
 rw[run_sliceAt_array_l X 96 ⟨o,pz,none⟩ (by kernel_rfl) .i64 (q:Int) (by omega) (by rw[a];omega),c];simp only[Result.andThen,slicedAt,a,jc,Addr.add_lit];by_cases e:60=q;subst e;simp;have b:¬60=(q:Int).toNat:=by omega
 rw[if_neg b,if_neg e];simp
variable {w:World}{B o:Nat}{C A:Value}{e:En}
theorem TurnP.wrote{W E:World}{D:Nat}(h:EP pz Qz w B o C A e){b:ByteArray}(Q:e.d.size+b.size<=60)(t:D=pz+e.d.size)(f:∀p:Addr,W.cell? p=w.cell? p)(u:∀p:Addr,W.frozen? p=w.frozen? p)(v:Off (λ_=>False) w W)
  (F:E=(W.setCells o D (xB b)).setCell ⟨o,pz+60,none⟩ (.int .i64 ((e.d++b).size:Int))):TurnP pz Qz w E B o C A (xR e b):=by
 have hi:=h.inv.write b;have x:xR e b={e with d:=e.d++b}:=by unfold xR;rw[if_neg (by omega)]
 rw[x]at hi |-;subst F;have y:∀j,j<(xB b).length->(W.cell? ⟨o,D+j,none⟩).isSome=true:=λj g=>by
  rw[wP]at g;rw[f,t,Nat.add_assoc,h.cl _ (by omega)];rfl
 have P:Off (λk=>k=o) w (W.setCells o D (xB b)):=(v.mono λ_ _ h=>h.elim).trans (bQ o (xB b) D W);have m:Off (λk=>k=o) w ((W.setCells o D (xB b)).setCell ⟨o,pz+60,none⟩ (.int .i64 ((e.d++b).size:Int))):=P.setCell (a:=⟨o,pz+60,none⟩) rfl _;refine⟨C,A,⟨hi,λi hi=>?_,λi=>?_,λi hi=>?_,h.hs,m.row h.ld (λk c e'=>by subst e';exact h.ap.1 c),m.row h.cm (λk c e'=>by subst e';exact h.ap.2 c),h.ap⟩,m.mono λk _ c=>.inl c,λk c=>.inl c⟩
 by_cases q:i=60;subst q;refine World.cell?_setCell_same _ _ _ (show(W.setCells o D (xB b)).cell? ⟨o,pz+60,none⟩=some (zM e C A 60)from ?_);rw[World.cell?_setCells_out o (xB b) D W _ (λ_ _=>.inr (by rw[wP];show D+b.size<=pz+60;omega)),f];exact h.cl 60 (by omega);rw [World.cell?_setCell_other _ _ _ _ (λe'=>by injection e' with _ e' _;omega)];by_cases r:60<i;rw [zfl r,World.cell?_setCells_out o (xB b) D W _ (λ_ _=>by rw[wP];show pz+i<D\/D+b.size<=pz+i;omega),f];exact h.cl i hi;have l:i<60:=by omega
 rw[YW l];by_cases s:i<e.d.size;rw [zbl s,World.cell?_setCells_out o (xB b) D W _ (λ_ _=>.inl (by show pz+i<D;omega)),f];exact h.out i l;rw [zbm (by omega)];by_cases n:i-e.d.size<b.size;have g:i-e.d.size<(xB b).length:=by rw[wP];exact n
 have h1:=World.cell?_setCells_in o (xB b) D W y (i-e.d.size) g;rw[show D+(i-e.d.size)=pz+i by omega]at h1;rw[h1,<-List.getElem?_eq_getElem g,zbq n];rw [World.cell?_setCells_out o (xB b) D W _ (λ_ _=>.inr (by rw[wP];show _<=pz+i;omega)),f,h.out i l,Wh (by omega),Wh (by omega)];rw [World.frozen?_setCell,World.frozen?_setCells,u];exact h.fz i;rw [World.cell?_setCell_other _ _ _ _ (λe'=>by injection e' with _ e' _;omega),World.cell?_setCells_out o (xB b) D W _ (λ_ _=>by rw[wP];show i<D\/D+b.size<=i;omega),f];exact h.rs i hi
theorem zu4(h:EP pz Qz w B o C A e)(b:ByteArray)(i:b.size<=140737488351232)(g:60<e.d.size+b.size):Cs 96 #[.pointer (some ⟨o,pz,none⟩),.string b] w (.iface 133 (.int .i64 4)):=by
 have a:=h.cl 60 (by omega);rw[YX]at a;have d:=h.inv.d60;have f:(60:Int)-(e.d.size:Int)<(b.size:Int):=by omega
 clear h;generalize e.d.size=D at*;go_enter Tryz.func96,Tryz.ntmps96
 go_wp2_with fail;go_ret;exact⟨rfl,rfl⟩
theorem zu5(h:EP pz Qz w B o C A e)(b:ByteArray)(r:e.d.size+b.size<=60):Calls Tryz.prog 96 #[.pointer (some ⟨o,pz,none⟩),.string b] w λn E=>n=.returned .nilIface/\TurnP pz Qz w E B o C A (xR e b):=by
 have v:=zC h;have c60:=h.cl 60 (by omega);rw[YX]at c60;have l:=h.inv.d60;have P:¬(60:Int)-(e.d.size:Int)<(b.size:Int):=by omega
 obtain⟨a,d⟩:∃a,a=pz+e.d.size:=⟨_,rfl⟩;have HT:Hid (∀X:World,X=(w.drew.setCells o a (xB b)).setCell ⟨o,pz+60,none⟩ (.int .i64 ((e.d.size:Int)+(b.size:Int)))->TurnP pz Qz w X B o C A (xR e b)):=by
  show∀X,_->_;intro X p;refine TurnP.wrote h r d (W:=w.drew) (λ_=>rfl) (λ_=>rfl) ⟨rfl,rfl,rfl,Nat.le_refl _,λ_ _ _=>rfl⟩ ?_;rw[p,ByteArray.size_append];simp
 have u:∀i,w.drew.frozen? ⟨o,i,none⟩=false:=h.fz;have k:w.drew.there o a b.size:=λj s=>⟨by rw[d,Nat.add_assoc,show w.drew.cell? ⟨o,pz+(e.d.size+j),none⟩=_ from h.cl _ (by omega)];rfl,h.fz _⟩;have f:Hid (∀X,(Instr.sliceAt 96 (.pointer (some ⟨o,pz,none⟩)) (some (.int .i64 (e.d.size:Int))) none none).run Tryz.prog X=.ok (.slice (some ⟨o,jc pz e.d.size,none⟩) (60-e.d.size) (60-e.d.size)) X):=λX=>zq2 X o e.d.size l
 have g:∀c,(Builtin.copy_ #[37,9] c #[.slice (some ⟨o,jc pz e.d.size,none⟩) (60-e.d.size) (60-e.d.size),.string b]).run Tryz.prog w.drew=.ok (.int .i64 (b.size:Int)) (w.drew.setCells o a (xB b)):=by
  intro c;by_cases F:e.d.size=60;have q:b.size=0:=by omega
  have t:xB b=[]:=List.eq_nil_of_length_eq_zero (by rw[wP];exact q);have:=fI w.drew c o (jc pz e.d.size) (60-e.d.size) (60-e.d.size) b (by omega) (λj s=>by omega);rw[t]at this |-;exact this;have m:jc pz e.d.size=a:=by unfold jc;rw[if_neg (by omega),d]
  rw[m];exact fI w.drew c o a _ _ b (by omega) k
 have y:w.drew.cell? ⟨o,pz+60,none⟩=some (.int .i64 (e.d.size:Int)):=c60;have U:(w.drew.setCells o a (xB b)).cell? ⟨o,pz+60,none⟩=some (.int .i64 (e.d.size:Int)):=by
  rw[World.cell?_setCells_out o (xB b) a w.drew _ (λ_ _=>.inr (by rw[wP];show a+b.size<=pz+60;omega))];exact c60
 have V:(w.drew.setCells o a (xB b)).frozen? ⟨o,pz+60,none⟩=false:=by rw[World.frozen?_setCells];exact h.fz _
 have z:=Sx.wrap_small ((e.d.size:Int)+(b.size:Int)) (by omega) (by omega);have HC:=zC g;have Q:=f.out;clear h k g f u d;generalize w.drew.setCells o a (xB b)=x at*;generalize e.d.size=D at*;go_enter Tryz.func96,Tryz.ntmps96
 go_wp2_with fail;go_region_law (refine zrw (by rfl) (.tmp 25) (.tmp 26) (by rfl) (by rfl) (by rfl) (HC.out _) ?_)
 all_goals go_wp2_with fail
 all_goals go_ret
 all_goals exact⟨rfl,HT.out _ rfl⟩
theorem iT(h:EP pz Qz w B o C A e)(b:ByteArray)(j:b.size<=140737488351232):Calls Tryz.prog 96 #[.pointer (some ⟨o,pz,none⟩),.string b] w λd E=>d=.returned (zN (vk e b))/\TurnP pz Qz w E B o C A (xR e b):=by
 by_cases a:60<e.d.size+b.size;have c:vk e b=4:=if_pos a;have f:xR e b=e:=if_pos a;rw[c,f,qj (by decide)];exact(zu4 h b j a).mono λd E ⟨g,i⟩=>⟨g,by rw[i];exact TurnP.same h⟩;have c:vk e b=0:=if_neg a;rw[c,jm];exact zu5 h b (by omega)
end Go.Proofs.YtdokgalidhmbbaaGreatDoor.Ez
namespace Go.Proofs.YtdokgalidhmbbaaGreatDoor.Ez
open Go.RowKit Go.Lib Go.Sort
open Sx (zP)
variable {pz : Nat} {Qz : Nat -> Option Value}
variable {w:World}{B o:Nat}{C A:Value}{e:En}
theorem EP.range_in(h:EP pz Qz w B o C A e):w.rangeAt o (pz+125) (row 121 (zY e.s)):=vZ λi a=>by rw[Nat.add_assoc,h.cl _ (by omega),QM a]
theorem EP.range_room(h:EP pz Qz w B o C A e):w.rangeAt o (pz+246) (row 4 (zZ e.c)):=vZ λi a=>by rw[Nat.add_assoc,h.cl _ (by omega),Jn a]
theorem EP.there{a:Nat}(h:EP pz Qz w B a C A e)(o n:Nat)(c:o+n<=251):w.there a (pz+o) n:=λj b=>⟨by rw[Nat.add_assoc,h.cl _ (by omega)];rfl,h.fz _⟩
theorem eY{X r a:World}{g l:Nat}{n:Int}{k:Nat}(h:EP pz Qz w B o C A e)(v:Below w.heap.size w X)(Q:w.heap.size<=g)(V:w.heap.size<=l)(U:g≠l)
  (x:Sx.Turned X r w.heap.size g (Sx.zm e.s n)) (q:Cx.Turned r a w.heap.size l (Cx.xM e.c (k:Nat))) (P:xH e n=0) (f:k=Sx.takeN e.s n):
  (a.rangeAt g 0 (row 121 (zY (Sx.zm e.s n)))/\a.rangeAt l 0 (row 4 (zZ (Cx.xM e.c (k:Nat))))/\a.there o (pz+125) 121/\(a.setCells o (pz+125) (row 121 (zY (Sx.zm e.s n)))).there o (pz+246) 4)/\TurnP pz Qz w ((a.setCells o (pz+125) (row 121 (zY (Sx.zm e.s n)))).setCells o (pz+246) (row 4 (zZ (Cx.xM e.c (k:Nat))))) B o C A (qg e n):=by
 have hi:=h.inv.read n;have z:qg e n={e with s:=Sx.zm e.s n,c:=Cx.xM e.c (k:Nat)}:=by unfold qg;rw[if_pos P,f]
 rw[z]at hi |-;have t:Below w.heap.size w r:=v.trans (x.2.below (λj d=>by rw[d];exact Q) v.size);have u:Below w.heap.size w a:=t.trans (q.2.below (λj d=>by rw[d];exact V) t.size);have b:=h.below u;have E:Sx.Obj a w.heap.size g (Sx.zm e.s n):=x.1.off q.2 U;refine⟨⟨zoi E,Xr q.1,b.there 125 121 (by omega),World.there_setCells (b.there 246 4 (by omega)) _ _ _⟩,?_⟩;generalize Sx.zm e.s n=D at*;generalize Cx.xM e.c (k:Nat)=F at*
 have p:Off (λj=>j=o) a ((a.setCells o (pz+125) (row 121 (zY D))).setCells o (pz+246) (row 4 (zZ F))):=(wI o _ _ _).trans (wI o _ _ _);refine⟨C,A,⟨hi,λi hi=>?_,λi=>?_,λi hi=>?_,h.hs,p.row b.ld (λk f m=>by subst m;exact h.ap.1 f),p.row b.cm (λk f m=>by subst m;exact h.ap.2 f),h.ap⟩,(Off.of_below u).trans (p.mono λj _ d=>.inl d),λj d=>.inl d⟩;by_cases y:i<125\/250<=i;rw [zfr y,World.cell?_setCells_out o _ (pz+246) _ _ (λ_ _=>by rw[qM];show pz+i<pz+246\/pz+246+4<=pz+i;omega),World.cell?_setCells_out o _ (pz+125) _ _ (λ_ _=>by rw[qM];show pz+i<pz+125\/pz+125+121<=pz+i;omega)];exact b.cl i hi;by_cases G:i<246;obtain ⟨j,rfl⟩:∃j,i=125+j:=⟨i-125,by omega⟩;rw[World.cell?_setCells_out o _ (pz+246) _ _ (λ_ _=>by rw[qM];show pz+(125+j)<pz+246\/pz+246+4<=pz+(125+j);omega),QM (by omega),<-Nat.add_assoc];exact jk (World.rangeAt_setCells_same _ _ _ _ (by rw[qM];exact b.there 125 121 (by omega))) (by omega);obtain ⟨j,rfl⟩:∃j,i=246+j:=⟨i-246,by omega⟩;rw[Jn (by omega),<-Nat.add_assoc];exact jk (World.rangeAt_setCells_same _ _ _ _ (by rw[qM];exact World.there_setCells (b.there 246 4 (by omega)) _ _ _)) (by omega)
 rw [World.frozen?_setCells,World.frozen?_setCells];exact b.fz i;rw [World.cell?_setCells_out o _ (pz+246) _ _ (λ_ _=>by rw[qM];show i<pz+246\/pz+246+4<=i;omega),World.cell?_setCells_out o _ (pz+125) _ _ (λ_ _=>by rw[qM];show i<pz+125\/pz+125+121<=i;omega)];exact b.rs i hi
theorem ZN{a:Nat}{vl vc:Value}(h:EP pz Qz w B a vl vc e)(n:Int):Calls Tryz.prog 136 #[.pointer (some ⟨a,pz,none⟩),.int .i64 n] w λm E=>m=.returned (.tuple #[.string (jR e n),zN (xH e n)])/\TurnP pz Qz w E B a vl vc (qg e n):=by
 have x:=zC h;obtain⟨SD,us,sd,is⟩:=QK 100 121 (by kernel_rfl) (by kernel_rfl) (zY e.s);obtain⟨CD,uc,cd,ic⟩:=QK 102 4 (by kernel_rfl) (by kernel_rfl) (zZ e.c);have US:Hid (Tryz.prog.underlying 100=some SD):=us;have UC:Hid (Tryz.prog.underlying 102=some CD):=uc;have IS:Hid ((Tryz.prog.info? 100).map (·.size)=some (row 121 (zY e.s)).length):=is;have IC:Hid ((Tryz.prog.info? 102).map (·.size)=some (row 4 (zZ e.c)).length):=ic
 have ak:Hid (SD.isRow=true):=sd;have aj:Hid (CD.isRow=true):=cd;have a6:w.drew.rangeAt a (pz+125) (row 121 (zY e.s)):=h.range_in;have a7:w.drew.rangeAt a (pz+246) (row 4 (zZ e.c)):=h.range_room;have hzs:=zvf;have hzc:=zu7;generalize ai:(row 121 (zY Sx.qE)).toArray=J at hzs;generalize ah:(row 4 (zZ ⟨0,0,0,0⟩)).toArray=c at hzc;have ag:Hid ((row 121 (zY Sx.qE)).toArray=J/\(row 4 (zZ ⟨0,0,0,0⟩)).toArray=c):=⟨ai,ah⟩
 clear h us uc is ic sd cd ai ah;go_enter Tryz.func136,Tryz.ntmps136
 go_wp2_with fail;refine wp_region_noPanic ?_;refine wp_region_held_drew (S:=λE=>E.rangeAt a (pz+125) (row 121 (zY e.s))/\E.rangeAt a (pz+246) (row 4 (zZ e.c))) (by kernel_rfl) ⟨a6,a7⟩ (λhHeld=>?_);refine zI 0 (.pointer (some ⟨a,pz,none⟩)) rfl (by kernel_rfl) rfl (by assumption) ?_ ?_;.intro wx W;go_simp
 try simp only[Act.put,zD,zF,zG]
 refine zI 1 (.pointer (some ⟨a,pz,none⟩)) rfl (by kernel_rfl) rfl (by assumption) ?_ ?_;.intro wx W;go_simp
 try simp only[Act.put,zD,zF,zG]
 refine zI 2 (.pointer (some ⟨a,pz+125,none⟩)) rfl (by kernel_rfl) rfl (by assumption) ?_ ?_;.intro wx W;go_simp
 try simp only[Act.put,zD,zF,zG]
 refine wpAnyH_take (i:=3) (oi:= ⟨some 15,.load 100 (.tmp 14),100,"end.go:70",#[⟨2,.data⟩],none⟩) (v:=.agg (row 121 (zY e.s)).toArray) rfl (by kernel_rfl) (by kernel_rfl) (by kernel_rfl) (λ_ _ _ h=>h) (yieldsIf_load_mid (by rfl) 100 (.tmp 14) rfl a (pz+125) rfl (row 121 (zY e.s)) SD (λ_ h=>h.1) US.out ak.out IS.out) (by assumption) ?_;try simp only[Act.put,zD,zF,zG]
 refine zI 4 (.pointer (some ⟨a,pz,none⟩)) rfl (by kernel_rfl) rfl (by assumption) ?_ ?_;.intro wx W;go_simp
 try simp only[Act.put,zD,zF,zG]
 refine zI 5 (.pointer (some ⟨a,pz,none⟩)) rfl (by kernel_rfl) rfl (by assumption) ?_ ?_;.intro wx W;go_simp
 try simp only[Act.put,zD,zF,zG]
 refine zI 6 (.pointer (some ⟨a,pz+246,none⟩)) rfl (by kernel_rfl) rfl (by assumption) ?_ ?_;.intro wx W;go_simp
 try simp only[Act.put,zD,zF,zG]
 refine wpAnyH_take (i:=7) (oi:= ⟨some 19,.load 102 (.tmp 18),102,"end.go:70",#[⟨6,.data⟩],none⟩) (v:=.agg (row 4 (zZ e.c)).toArray) rfl (by kernel_rfl) (by kernel_rfl) (by kernel_rfl) (λ_ _ _ h=>h) (yieldsIf_load_mid (by rfl) 102 (.tmp 18) rfl a (pz+246) rfl (row 4 (zZ e.c)) CD (λ_ h=>h.2) UC.out aj.out IC.out) (by assumption) ?_;try simp only[Act.put,zD,zF,zG]
 refine wpAnyH_ready (rs:=[8,9]) (by kernel_rfl) (by simp) ?_;refine AllReadyH.cons (o:= ⟨some 6,.alloc 100,0,"end.go:70",#[],none⟩) rfl (λK l=>?_) (AllReadyH.cons (o:= ⟨some 7,.alloc 102,0,"end.go:70",#[],none⟩) rfl (λK l=>?_) AllReadyH.nil)
 .go_simp
  refine l.out _ (w.drew.alloc (.cells J 100)) ⟨World.rangeAt_alloc hHeld.1 _,World.rangeAt_alloc hHeld.2 _⟩ (λhHeld=>?_)
  clear l K
  try simp only[Act.put,zD,zF,zG]
  refine wpAnyH_ready (rs:=[9]) (by kernel_rfl) (by simp) ?_
  refine AllReadyH.cons (o:= ⟨some 7,.alloc 102,0,"end.go:70",#[],none⟩) rfl (λK l=>?_) AllReadyH.nil
  go_simp
  refine l.out _ ((w.drew.alloc (.cells J 100)).alloc (.cells c 102)) ⟨World.rangeAt_alloc hHeld.1 _,World.rangeAt_alloc hHeld.2 _⟩ (λhHeld=>?_)
  clear l K
  have z:((w.drew.alloc (.cells J 100)).alloc (.cells c 102)).there (w.heap.size) 0 121/\((w.drew.alloc (.cells J 100)).alloc (.cells c 102)).there (w.heap.size+1) 0 4:=by
   obtain⟨r1,r2⟩:=ag.out
   subst r1 r2
   have q2:=yw (w.drew.alloc (.cells (row 121 (zY Sx.qE)).toArray 100)) 102 4 (zZ ⟨0,0,0,0⟩)
   rw[World.size_alloc]at q2
   have q1:=World.there_alloc (yw w.drew 100 121 (zY Sx.qE)) (.cells (row 4 (zZ ⟨0,0,0,0⟩)).toArray 102)
   exact⟨q1,q2⟩
  have Y:Below w.heap.size w ((w.drew.alloc (.cells J 100)).alloc (.cells c 102)):=(((Below.refl _ w).drew).alloc (Nat.le_refl _) _).alloc (by simp) _
  have a2:((w.drew.alloc (.cells J 100)).alloc (.cells c 102)).there (w.heap.size) 0 (row 121 (zY e.s)).toArray.size:=by rw[show(row 121 (zY e.s)).toArray.size=121 by simp[qM]];exact z.1
  have ht2:(((w.drew.alloc (.cells J 100)).alloc (.cells c 102)).setCells (w.heap.size) 0 (row 121 (zY e.s))).there (w.heap.size+1) 0 (row 4 (zZ e.c)).toArray.size:=by rw[show(row 4 (zZ e.c)).toArray.size=4 by simp[qM]];exact World.there_setCells z.2 _ _ _
  have iS:(Tryz.prog.info? 100).map (·.size)=some (row 121 (zY e.s)).toArray.size:=by rw[List.size_toArray];exact IS.out
  have iC:(Tryz.prog.info? 102).map (·.size)=some (row 4 (zZ e.c)).toArray.size:=by rw[List.size_toArray];exact IC.out
  have F:a≠w.heap.size/\a≠w.heap.size+1:=by have:=x.out.lt;omega
  try simp only[Act.put,zD,zF,zG]
  refine wpAnyH_ready (rs:=[10]) (by kernel_rfl) (by simp) ?_
  refine AllReadyH.cons (o:= ⟨none,.store 100 (.tmp 6) (.tmp 15),0,"end.go:70",#[⟨8,.data⟩,⟨3,.data⟩,⟨0,.phase⟩,⟨1,.phase⟩,⟨2,.phase⟩,⟨3,.phase⟩,{on:=4,ground:=Ground.textOnly Departure.lateStores},{on:=5,ground:=Ground.textOnly Departure.lateStoresUnsure},{on:=6,ground:=Ground.textOnly Departure.lateStoresUnsure},⟨7,.phase⟩,⟨8,.phase⟩,⟨9,.phase⟩],none⟩) rfl (λK l=>?_) AllReadyH.nil
  rw[if_pos (by rfl)]
  refine wp_store_mid 100 (.tmp 6) (.tmp 15) rfl (w.heap.size) 0 (row 121 (zY e.s)).toArray rfl rfl a2 iS (row_one λi _=>Qd _ i) ?_
  simp only[List.toList_toArray]
  refine l.out _ _ ⟨World.rangeAt_setCells_apart hHeld.1 _ _ _ (.inl F.1),World.rangeAt_setCells_apart hHeld.2 _ _ _ (.inl F.1)⟩ (λhHeld=>?_)
  clear l K
  have hr1:(((w.drew.alloc (.cells J 100)).alloc (.cells c 102)).setCells (w.heap.size) 0 (row 121 (zY e.s))).rangeAt (w.heap.size) 0 (row 121 (zY e.s)):=World.rangeAt_setCells_same _ _ _ _ (by rw[qM];exact z.1)
  have Z:∀i,((w.drew.alloc (.cells J 100)).alloc (.cells c 102)).frozen? ⟨w.heap.size,i,none⟩=false:=λi=>(World.frozen?_alloc_past _ _ _ (by rw[World.size_alloc];show w.heap.size<w.heap.size+1;omega)).trans (ZI w.drew J 100 i)
  have a0:∀i,((w.drew.alloc (.cells J 100)).alloc (.cells c 102)).frozen? ⟨w.heap.size+1,i,none⟩=false:=λi=>by
   have:=ZI (w.drew.alloc (.cells J 100)) c 102 i
   rw[World.size_alloc]at this
   exact this
  have hf1:∀i,(((w.drew.alloc (.cells J 100)).alloc (.cells c 102)).setCells (w.heap.size) 0 (row 121 (zY e.s))).frozen? ⟨w.heap.size,i,none⟩=false:=λi=>by rw[World.frozen?_setCells];exact Z i
  have hf2:∀i,(((w.drew.alloc (.cells J 100)).alloc (.cells c 102)).setCells (w.heap.size) 0 (row 121 (zY e.s))).frozen? ⟨w.heap.size+1,i,none⟩=false:=λi=>by rw[World.frozen?_setCells];exact a0 i
  clear Z a0
  have hB1:Below w.heap.size w (((w.drew.alloc (.cells J 100)).alloc (.cells c 102)).setCells (w.heap.size) 0 (row 121 (zY e.s))):=ZA (by omega) _ _ _ Y
  generalize(((w.drew.alloc (.cells J 100)).alloc (.cells c 102)).setCells (w.heap.size) 0 (row 121 (zY e.s)))=u at hHeld ht2 hr1 hf1 hf2 hB1 |-
  try simp only[Act.put,zD,zF,zG]
  refine wpAnyH_ready (rs:=[11]) (by kernel_rfl) (by simp) ?_
  refine AllReadyH.cons (o:= ⟨none,.store 102 (.tmp 7) (.tmp 19),0,"end.go:70",#[⟨9,.data⟩,⟨7,.data⟩,⟨10,.chain⟩,⟨0,.phase⟩,⟨1,.phase⟩,⟨2,.phase⟩,⟨3,.phase⟩,⟨4,.phase⟩,⟨5,.phase⟩,⟨6,.phase⟩,⟨7,.phase⟩,⟨8,.phase⟩,⟨9,.phase⟩,⟨10,.phase⟩],none⟩) rfl (λK l=>?_) AllReadyH.nil
  rw[if_pos (by rfl)]
  refine wp_store_mid 102 (.tmp 7) (.tmp 19) rfl (w.heap.size+1) 0 (row 4 (zZ e.c)).toArray rfl rfl ht2 iC (row_one λi _=>ZE _ i) ?_
  simp only[List.toList_toArray]
  refine l.out _ _ ⟨World.rangeAt_setCells_apart hHeld.1 _ _ _ (.inl F.2),World.rangeAt_setCells_apart hHeld.2 _ _ _ (.inl F.2)⟩ (λhHeld=>?_)
  clear l K
  refine wpAnyH_done (by kernel_rfl) (NoPanic.normal ?_) _
  have hri:(u.setCells (w.heap.size+1) 0 (row 4 (zZ e.c))).rangeAt (w.heap.size) 0 (row 121 (zY e.s)):=World.rangeAt_setCells_apart hr1 _ _ _ (.inl (by omega))
  have hrr:(u.setCells (w.heap.size+1) 0 (row 4 (zZ e.c))).rangeAt (w.heap.size+1) 0 (row 4 (zZ e.c)):=World.rangeAt_setCells_same _ _ _ _ (by simpa[qM]using ht2)
  have hfi:∀i,(u.setCells (w.heap.size+1) 0 (row 4 (zZ e.c))).frozen? ⟨w.heap.size,i,none⟩=false:=λi=>by rw[World.frozen?_setCells];exact hf1 i
  have hfr:∀i,(u.setCells (w.heap.size+1) 0 (row 4 (zZ e.c))).frozen? ⟨w.heap.size+1,i,none⟩=false:=λi=>by rw[World.frozen?_setCells];exact hf2 i
  have hXB:Below w.heap.size w (u.setCells (w.heap.size+1) 0 (row 4 (zZ e.c))):=ZA (by omega) _ _ _ hB1
  have hib:w.heap.size<=w.heap.size:=by omega
  have hrb:w.heap.size<=w.heap.size+1:=by omega
  have hne:w.heap.size≠w.heap.size+1:=by omega
  clear hHeld z Y F a6 a7 hzs hzc a2 ht2 iS iC hr1 hf1 hf2 hB1
  generalize(u.setCells (w.heap.size+1) 0 (row 4 (zZ e.c)))=X at hri hrr hfi hfr hXB |-
  generalize w.heap.size+1=r at hri hrr hfi hfr hib hrb hne |-
  obtain⟨p,a3⟩:∃q,w.heap.size=q:=⟨_,rfl⟩
  rw[a3]
  rw[a3]at hri hfi hne
  have hib:w.heap.size<=p:=by omega
  have t:Hid (Sx.Obj X w.heap.size p e.s):=gG x.out.inv.s hri hfi hib
  have A:Hid (Cx.Obj X w.heap.size r e.c):=Jd x.out.inv.c hrr hfr hrb
  have C:Hid (Below w.heap.size w X):=hXB
  have M:Hid (p≠r):=hne
  clear hri hfi hrr hfr hib hrb hXB hne
  by_cases G:n<0
  .have g:xH e n=1:=if_pos G
   have R:jR e n={data:=#[]}:=if_neg (by rw[g];decide)
   have T:qg e n=e:=if_neg (by rw[g];decide)
   have s:Hid (xH e n=1/\jR e n={data:=#[]}/\qg e n=e):=⟨g,R,T⟩
   clear g R T
   go_wp2_with (go_at_call 163;refine(Sx.Qf t.out n G).mono ?_;rintro m b ⟨rfl,ht2⟩)
   go_ret2
   refine⟨?_,?_⟩
   .rw [s.out.1,s.out.2.1];rfl
   .rw [s.out.2.2]
    exact TurnP.below x.out (C.out.trans (ht2.2.below (λk P=>by rw[P];exact t.out.hs) t.out.le))
  .have hst:=Sx.vK t.out n (by omega)
   have hlen:(strOfNums (Sx.xQ e.s n)).size=Sx.takeN e.s n:=by rw[strOfNums_size];simp[Sx.xQ]
   have aa:=Sx.ZU e.s n
   obtain⟨d,H⟩:∃d,strOfNums (Sx.xQ e.s n)=d:=⟨_,rfl⟩
   rw[H]at hst hlen
   have HF:Hid (xH e n=Cx.qx e.c (d.size:Nat)):=by show _=_;rw[hlen];exact if_neg G
   have L:Hid (strOfNums (Sx.xQ e.s n)=d/\d.size=Sx.takeN e.s n):=⟨H,hlen⟩
   have hrd:∀b,Sx.Turned X b w.heap.size p (Sx.zm e.s n)->Calls Tryz.prog 164 #[.pointer (some ⟨r,0,none⟩),.int .i64 (d.size:Int)] b λm j=>m=.returned (.tuple #[.int .i64 (Cx.ZJ e.c (d.size:Nat)),zN (Cx.qx e.c (d.size:Nat))])/\Cx.Turned b j w.heap.size r (Cx.xM e.c (d.size:Nat)):=λb ht=>Cx.ZN (A.out.off ht.2 (λe'=>M.out e'.symm)) _
   have al:d.size<=60:=by omega
   clear H hlen aa
   generalize Cx.ZJ e.c (d.size:Nat)=gn at*
   generalize a1:Cx.qx e.c (d.size:Nat)=U at*
   have HG:Hid (Cx.qx e.c (d.size:Nat)=U):=a1
   clear a1
   by_cases y:U=0
   .subst y
    rw[jm]at hrd
    have HFN:Hid (∀b j,Sx.Turned X b w.heap.size p (Sx.zm e.s n)->Cx.Turned b j w.heap.size r (Cx.xM e.c (d.size:Nat))->∃Q D,Hid (Q=j.setCells a (pz+125) (row 121 (zY (Sx.zm e.s n))))/\Hid (D=Q.setCells a (pz+246) (row 4 (zZ (Cx.xM e.c (d.size:Nat)))))/\j.rangeAt p 0 (row 121 (zY (Sx.zm e.s n)))/\j.rangeAt r 0 (row 4 (zZ (Cx.xM e.c (d.size:Nat))))/\j.there a (pz+125) 121/\Q.there a (pz+246) 4/\TurnP pz Qz w D B a vl vc (qg e n)):=by
     show∀b j,_->_->_
     intro b j t2 t3
     have:=eY x.out C.out t.out.hs A.out.hs M.out t2 t3 (by rw[HF.out]) L.out.2
     exact⟨_,_,rfl,rfl,this.1.1,this.1.2.1,this.1.2.2.1,this.1.2.2.2,this.2⟩
    have hst':Calls Tryz.prog 163 #[.pointer (some ⟨p,0,none⟩),.int .i64 n] X λm E=>m=.returned (.tuple #[.string d,.nilIface])/\Sx.Turned X E w.heap.size p (Sx.zm e.s n):=hst
    clear hst
    generalize a9:Sx.zm e.s n=s' at hst' hrd HFN
    generalize a8:Cx.xM e.c (d.size:Nat)=O at hrd HFN
    clear a9 a8
    go_wp2_with (first|(go_at_call 163;refine hst'.mono ?_;rintro m b ⟨rfl,ht2⟩;have V:=hrd b ht2;clear hst' hrd)|(go_at_call 164;refine V.mono ?_;rintro m j ⟨rfl,I⟩;obtain⟨Q,D,a4,a5,ab,ac,ad,ae,af⟩:=HFN.out b j ht2 I;clear V HFN)|(refine vH (n:=121) (f:=zY s') (ty:=100) rfl (.tmp 6) rfl p 0 rfl ab (by kernel_rfl) (by kernel_rfl) ?_)|(refine vH (n:=4) (f:=zZ O) (ty:=102) rfl (.tmp 7) rfl r 0 rfl ac (by kernel_rfl) (by kernel_rfl) ?_)|(refine vI (n:=121) (f:=zY s') (ty:=100) rfl (.tmp 42) (.tmp 39) rfl a (pz+125) rfl rfl ad (by kernel_rfl) (λi=>Qd _ i) a4 ?_)|(refine vI (n:=4) (f:=zZ O) (ty:=102) rfl (.tmp 44) (.tmp 40) rfl a (pz+246) rfl rfl ae (by kernel_rfl) (λi=>ZE _ i) a5 ?_))
    go_ret2
    refine⟨?_,af⟩
    have g:xH e n=0:=HF.out
    rw[g,show jR e n=strOfNums (Sx.xQ e.s n)from if_pos g,L.out.1]
    rfl
   .have g:xH e n=U:=HF.out
    have s:Hid (xH e n=U/\jR e n={data:=#[]}/\qg e n=e):=⟨g,if_neg (by rw[g];exact y),if_neg (by rw[g];exact y)⟩
    clear g
    rw[qj y]at hrd
    go_wp2_with (first|(go_at_call 163;refine hst.mono ?_;rintro m b ⟨rfl,ht2⟩;have V:=hrd b ht2)|(go_at_call 164;refine V.mono ?_;rintro m j ⟨rfl,I⟩))
    go_ret2
    refine⟨?_,?_⟩
    .rw [s.out.1,s.out.2.1,qj y];rfl
    .rw [s.out.2.2]
     have N:=C.out.trans (ht2.2.below (λk P=>by rw[P];exact t.out.hs) t.out.le)
     exact TurnP.below x.out (N.trans (I.2.below (λk P=>by rw[P];exact A.out.hs) N.size))
 .go_simp
  refine l.out _ (w.drew.alloc (.cells c 102)) ⟨World.rangeAt_alloc hHeld.1 _,World.rangeAt_alloc hHeld.2 _⟩ (λhHeld=>?_)
  clear l K
  try simp only[Act.put,zD,zF,zG]
  refine wpAnyH_ready (rs:=[8]) (by kernel_rfl) (by simp) ?_
  refine AllReadyH.cons (o:= ⟨some 6,.alloc 100,0,"end.go:70",#[],none⟩) rfl (λK l=>?_) AllReadyH.nil
  go_simp
  refine l.out _ ((w.drew.alloc (.cells c 102)).alloc (.cells J 100)) ⟨World.rangeAt_alloc hHeld.1 _,World.rangeAt_alloc hHeld.2 _⟩ (λhHeld=>?_)
  clear l K
  have z:((w.drew.alloc (.cells c 102)).alloc (.cells J 100)).there (w.heap.size+1) 0 121/\((w.drew.alloc (.cells c 102)).alloc (.cells J 100)).there (w.heap.size) 0 4:=by
   obtain⟨r1,r2⟩:=ag.out
   subst r1 r2
   have q2:=yw (w.drew.alloc (.cells (row 4 (zZ ⟨0,0,0,0⟩)).toArray 102)) 100 121 (zY Sx.qE)
   rw[World.size_alloc]at q2
   have q1:=World.there_alloc (yw w.drew 102 4 (zZ ⟨0,0,0,0⟩)) (.cells (row 121 (zY Sx.qE)).toArray 100)
   exact⟨q2,q1⟩
  have Y:Below w.heap.size w ((w.drew.alloc (.cells c 102)).alloc (.cells J 100)):=(((Below.refl _ w).drew).alloc (Nat.le_refl _) _).alloc (by simp) _
  have a2:((w.drew.alloc (.cells c 102)).alloc (.cells J 100)).there (w.heap.size+1) 0 (row 121 (zY e.s)).toArray.size:=by rw[show(row 121 (zY e.s)).toArray.size=121 by simp[qM]];exact z.1
  have ht2:(((w.drew.alloc (.cells c 102)).alloc (.cells J 100)).setCells (w.heap.size+1) 0 (row 121 (zY e.s))).there (w.heap.size) 0 (row 4 (zZ e.c)).toArray.size:=by rw[show(row 4 (zZ e.c)).toArray.size=4 by simp[qM]];exact World.there_setCells z.2 _ _ _
  have iS:(Tryz.prog.info? 100).map (·.size)=some (row 121 (zY e.s)).toArray.size:=by rw[List.size_toArray];exact IS.out
  have iC:(Tryz.prog.info? 102).map (·.size)=some (row 4 (zZ e.c)).toArray.size:=by rw[List.size_toArray];exact IC.out
  have F:a≠w.heap.size+1/\a≠w.heap.size:=by have:=x.out.lt;omega
  try simp only[Act.put,zD,zF,zG]
  refine wpAnyH_ready (rs:=[10]) (by kernel_rfl) (by simp) ?_
  refine AllReadyH.cons (o:= ⟨none,.store 100 (.tmp 6) (.tmp 15),0,"end.go:70",#[⟨8,.data⟩,⟨3,.data⟩,⟨0,.phase⟩,⟨1,.phase⟩,⟨2,.phase⟩,⟨3,.phase⟩,{on:=4,ground:=Ground.textOnly Departure.lateStores},{on:=5,ground:=Ground.textOnly Departure.lateStoresUnsure},{on:=6,ground:=Ground.textOnly Departure.lateStoresUnsure},⟨7,.phase⟩,⟨8,.phase⟩,⟨9,.phase⟩],none⟩) rfl (λK l=>?_) AllReadyH.nil
  rw[if_pos (by rfl)]
  refine wp_store_mid 100 (.tmp 6) (.tmp 15) rfl (w.heap.size+1) 0 (row 121 (zY e.s)).toArray rfl rfl a2 iS (row_one λi _=>Qd _ i) ?_
  simp only[List.toList_toArray]
  refine l.out _ _ ⟨World.rangeAt_setCells_apart hHeld.1 _ _ _ (.inl F.1),World.rangeAt_setCells_apart hHeld.2 _ _ _ (.inl F.1)⟩ (λhHeld=>?_)
  clear l K
  have hr1:(((w.drew.alloc (.cells c 102)).alloc (.cells J 100)).setCells (w.heap.size+1) 0 (row 121 (zY e.s))).rangeAt (w.heap.size+1) 0 (row 121 (zY e.s)):=World.rangeAt_setCells_same _ _ _ _ (by rw[qM];exact z.1)
  have Z:∀i,((w.drew.alloc (.cells c 102)).alloc (.cells J 100)).frozen? ⟨w.heap.size,i,none⟩=false:=λi=>(World.frozen?_alloc_past _ _ _ (by rw[World.size_alloc];show w.heap.size<w.heap.size+1;omega)).trans (ZI w.drew c 102 i)
  have a0:∀i,((w.drew.alloc (.cells c 102)).alloc (.cells J 100)).frozen? ⟨w.heap.size+1,i,none⟩=false:=λi=>by
   have:=ZI (w.drew.alloc (.cells c 102)) J 100 i
   rw[World.size_alloc]at this
   exact this
  have hf1:∀i,(((w.drew.alloc (.cells c 102)).alloc (.cells J 100)).setCells (w.heap.size+1) 0 (row 121 (zY e.s))).frozen? ⟨w.heap.size+1,i,none⟩=false:=λi=>by rw[World.frozen?_setCells];exact a0 i
  have hf2:∀i,(((w.drew.alloc (.cells c 102)).alloc (.cells J 100)).setCells (w.heap.size+1) 0 (row 121 (zY e.s))).frozen? ⟨w.heap.size,i,none⟩=false:=λi=>by rw[World.frozen?_setCells];exact Z i
  clear Z a0
  have hB1:Below w.heap.size w (((w.drew.alloc (.cells c 102)).alloc (.cells J 100)).setCells (w.heap.size+1) 0 (row 121 (zY e.s))):=ZA (by omega) _ _ _ Y
  generalize(((w.drew.alloc (.cells c 102)).alloc (.cells J 100)).setCells (w.heap.size+1) 0 (row 121 (zY e.s)))=u at hHeld ht2 hr1 hf1 hf2 hB1 |-
  try simp only[Act.put,zD,zF,zG]
  refine wpAnyH_ready (rs:=[11]) (by kernel_rfl) (by simp) ?_
  refine AllReadyH.cons (o:= ⟨none,.store 102 (.tmp 7) (.tmp 19),0,"end.go:70",#[⟨9,.data⟩,⟨7,.data⟩,⟨10,.chain⟩,⟨0,.phase⟩,⟨1,.phase⟩,⟨2,.phase⟩,⟨3,.phase⟩,⟨4,.phase⟩,⟨5,.phase⟩,⟨6,.phase⟩,⟨7,.phase⟩,⟨8,.phase⟩,⟨9,.phase⟩,⟨10,.phase⟩],none⟩) rfl (λK l=>?_) AllReadyH.nil
  rw[if_pos (by rfl)]
  refine wp_store_mid 102 (.tmp 7) (.tmp 19) rfl (w.heap.size) 0 (row 4 (zZ e.c)).toArray rfl rfl ht2 iC (row_one λi _=>ZE _ i) ?_
  simp only[List.toList_toArray]
  refine l.out _ _ ⟨World.rangeAt_setCells_apart hHeld.1 _ _ _ (.inl F.2),World.rangeAt_setCells_apart hHeld.2 _ _ _ (.inl F.2)⟩ (λhHeld=>?_)
  clear l K
  refine wpAnyH_done (by kernel_rfl) (NoPanic.normal ?_) _
  have hri:(u.setCells (w.heap.size) 0 (row 4 (zZ e.c))).rangeAt (w.heap.size+1) 0 (row 121 (zY e.s)):=World.rangeAt_setCells_apart hr1 _ _ _ (.inl (by omega))
  have hrr:(u.setCells (w.heap.size) 0 (row 4 (zZ e.c))).rangeAt (w.heap.size) 0 (row 4 (zZ e.c)):=World.rangeAt_setCells_same _ _ _ _ (by simpa[qM]using ht2)
  have hfi:∀i,(u.setCells (w.heap.size) 0 (row 4 (zZ e.c))).frozen? ⟨w.heap.size+1,i,none⟩=false:=λi=>by rw[World.frozen?_setCells];exact hf1 i
  have hfr:∀i,(u.setCells (w.heap.size) 0 (row 4 (zZ e.c))).frozen? ⟨w.heap.size,i,none⟩=false:=λi=>by rw[World.frozen?_setCells];exact hf2 i
  have hXB:Below w.heap.size w (u.setCells (w.heap.size) 0 (row 4 (zZ e.c))):=ZA (by omega) _ _ _ hB1
  have hib:w.heap.size<=w.heap.size+1:=by omega
  have hrb:w.heap.size<=w.heap.size:=by omega
  have hne:w.heap.size+1≠w.heap.size:=by omega
  clear hHeld z Y F a6 a7 hzs hzc a2 ht2 iS iC hr1 hf1 hf2 hB1
  generalize(u.setCells (w.heap.size) 0 (row 4 (zZ e.c)))=X at hri hrr hfi hfr hXB |-
  generalize w.heap.size+1=p at hri hrr hfi hfr hib hrb hne |-
  obtain⟨r,a3⟩:∃q,w.heap.size=q:=⟨_,rfl⟩
  rw[a3]
  rw[a3]at hrr hfr hne
  have hrb:w.heap.size<=r:=by omega
  have t:Hid (Sx.Obj X w.heap.size p e.s):=gG x.out.inv.s hri hfi hib
  have A:Hid (Cx.Obj X w.heap.size r e.c):=Jd x.out.inv.c hrr hfr hrb
  have C:Hid (Below w.heap.size w X):=hXB
  have M:Hid (p≠r):=hne
  clear hri hfi hrr hfr hib hrb hXB hne
  by_cases G:n<0
  .have g:xH e n=1:=if_pos G
   have R:jR e n={data:=#[]}:=if_neg (by rw[g];decide)
   have T:qg e n=e:=if_neg (by rw[g];decide)
   have s:Hid (xH e n=1/\jR e n={data:=#[]}/\qg e n=e):=⟨g,R,T⟩
   clear g R T
   go_wp2_with (go_at_call 163;refine(Sx.Qf t.out n G).mono ?_;rintro m b ⟨rfl,ht2⟩)
   go_ret2
   refine⟨?_,?_⟩
   .rw [s.out.1,s.out.2.1];rfl
   .rw [s.out.2.2]
    exact TurnP.below x.out (C.out.trans (ht2.2.below (λk P=>by rw[P];exact t.out.hs) t.out.le))
  .have hst:=Sx.vK t.out n (by omega)
   have hlen:(strOfNums (Sx.xQ e.s n)).size=Sx.takeN e.s n:=by rw[strOfNums_size];simp[Sx.xQ]
   have aa:=Sx.ZU e.s n
   obtain⟨d,H⟩:∃d,strOfNums (Sx.xQ e.s n)=d:=⟨_,rfl⟩
   rw[H]at hst hlen
   have HF:Hid (xH e n=Cx.qx e.c (d.size:Nat)):=by show _=_;rw[hlen];exact if_neg G
   have L:Hid (strOfNums (Sx.xQ e.s n)=d/\d.size=Sx.takeN e.s n):=⟨H,hlen⟩
   have hrd:∀b,Sx.Turned X b w.heap.size p (Sx.zm e.s n)->Calls Tryz.prog 164 #[.pointer (some ⟨r,0,none⟩),.int .i64 (d.size:Int)] b λm j=>m=.returned (.tuple #[.int .i64 (Cx.ZJ e.c (d.size:Nat)),zN (Cx.qx e.c (d.size:Nat))])/\Cx.Turned b j w.heap.size r (Cx.xM e.c (d.size:Nat)):=λb ht=>Cx.ZN (A.out.off ht.2 (λe'=>M.out e'.symm)) _
   have al:d.size<=60:=by omega
   clear H hlen aa
   generalize Cx.ZJ e.c (d.size:Nat)=gn at*
   generalize a1:Cx.qx e.c (d.size:Nat)=U at*
   have HG:Hid (Cx.qx e.c (d.size:Nat)=U):=a1
   clear a1
   by_cases y:U=0
   .subst y
    rw[jm]at hrd
    have HFN:Hid (∀b j,Sx.Turned X b w.heap.size p (Sx.zm e.s n)->Cx.Turned b j w.heap.size r (Cx.xM e.c (d.size:Nat))->∃Q D,Hid (Q=j.setCells a (pz+125) (row 121 (zY (Sx.zm e.s n))))/\Hid (D=Q.setCells a (pz+246) (row 4 (zZ (Cx.xM e.c (d.size:Nat)))))/\j.rangeAt p 0 (row 121 (zY (Sx.zm e.s n)))/\j.rangeAt r 0 (row 4 (zZ (Cx.xM e.c (d.size:Nat))))/\j.there a (pz+125) 121/\Q.there a (pz+246) 4/\TurnP pz Qz w D B a vl vc (qg e n)):=by
     show∀b j,_->_->_
     intro b j t2 t3
     have:=eY x.out C.out t.out.hs A.out.hs M.out t2 t3 (by rw[HF.out]) L.out.2
     exact⟨_,_,rfl,rfl,this.1.1,this.1.2.1,this.1.2.2.1,this.1.2.2.2,this.2⟩
    have hst':Calls Tryz.prog 163 #[.pointer (some ⟨p,0,none⟩),.int .i64 n] X λm E=>m=.returned (.tuple #[.string d,.nilIface])/\Sx.Turned X E w.heap.size p (Sx.zm e.s n):=hst
    clear hst
    generalize a9:Sx.zm e.s n=s' at hst' hrd HFN
    generalize a8:Cx.xM e.c (d.size:Nat)=O at hrd HFN
    clear a9 a8
    go_wp2_with (first|(go_at_call 163;refine hst'.mono ?_;rintro m b ⟨rfl,ht2⟩;have V:=hrd b ht2;clear hst' hrd)|(go_at_call 164;refine V.mono ?_;rintro m j ⟨rfl,I⟩;obtain⟨Q,D,a4,a5,ab,ac,ad,ae,af⟩:=HFN.out b j ht2 I;clear V HFN)|(refine vH (n:=121) (f:=zY s') (ty:=100) rfl (.tmp 6) rfl p 0 rfl ab (by kernel_rfl) (by kernel_rfl) ?_)|(refine vH (n:=4) (f:=zZ O) (ty:=102) rfl (.tmp 7) rfl r 0 rfl ac (by kernel_rfl) (by kernel_rfl) ?_)|(refine vI (n:=121) (f:=zY s') (ty:=100) rfl (.tmp 42) (.tmp 39) rfl a (pz+125) rfl rfl ad (by kernel_rfl) (λi=>Qd _ i) a4 ?_)|(refine vI (n:=4) (f:=zZ O) (ty:=102) rfl (.tmp 44) (.tmp 40) rfl a (pz+246) rfl rfl ae (by kernel_rfl) (λi=>ZE _ i) a5 ?_))
    go_ret2
    refine⟨?_,af⟩
    have g:xH e n=0:=HF.out
    rw[g,show jR e n=strOfNums (Sx.xQ e.s n)from if_pos g,L.out.1]
    rfl
   .have g:xH e n=U:=HF.out
    have s:Hid (xH e n=U/\jR e n={data:=#[]}/\qg e n=e):=⟨g,if_neg (by rw[g];exact y),if_neg (by rw[g];exact y)⟩
    clear g
    rw[qj y]at hrd
    go_wp2_with (first|(go_at_call 163;refine hst.mono ?_;rintro m b ⟨rfl,ht2⟩;have V:=hrd b ht2)|(go_at_call 164;refine V.mono ?_;rintro m j ⟨rfl,I⟩))
    go_ret2
    refine⟨?_,?_⟩
    .rw [s.out.1,s.out.2.1,qj y];rfl
    .rw [s.out.2.2]
     have N:=C.out.trans (ht2.2.below (λk P=>by rw[P];exact t.out.hs) t.out.le)
     exact TurnP.below x.out (N.trans (I.2.below (λk P=>by rw[P];exact A.out.hs) N.size))
end Go.Proofs.YtdokgalidhmbbaaGreatDoor.Ez
namespace Go.Proofs.YtdokgalidhmbbaaGreatDoor.Ez
open Go.RowKit Go.Lib Go.Sort
open Sx (zP)
variable {pz : Nat} {Qz : Nat -> Option Value}
structure KeepP(pz:Nat)(Qz:Nat->Option Value)(w w':World)(B eb:Nat)(vl vc:Value)(e:En)(vl':Value)(ls:List Ld):Prop where
 cl:∀i,i<251->w'.cell? ⟨eb,pz+i,none⟩=some (zM e vl' vc i)
 fz:∀i,w'.frozen? ⟨eb,i,none⟩=false
 rs:∀i,(i<pz\/pz+251<=i)->w'.cell? ⟨eb,i,none⟩=Qz i
 ld:w'.ownsRow B 241 62 vl' ls.length (qf ls)
 cm:w'.ownsRow B 143 2 vc e.cm.length (flat e.cm)
 ap:vl'.ownBlock≠some eb
 off:Off (qz eb vl vc) w w'
 own:∀k,vl'.ownBlock=some k->vl.ownBlock=some k\/w.heap.size<=k
theorem KeepP.grown{w X Y E:World}{B o n:Nat}{C A:Value}{e:En}{g j m a b:Nat}(h:EP pz Qz w B o C A e)(c:Below w.heap.size w X)(d:X.grownBy Y C.ownBlock)
  (ho:Y.ownsRow B 241 62 (.slice (some ⟨g,0,none⟩) (n+1) j) (n+1) (qf e.ls++jb ⟨m,m,a,b⟩)) (F:n=e.ls.length) (t:C.ownBlock=some g\/g=X.heap.size) (hw:E=Y.setCell ⟨o,pz+124,none⟩ (.slice (some ⟨g,0,none⟩) (n+1) j)):
  KeepP pz Qz w E B o C A e (.slice (some ⟨g,0,none⟩) (n+1) j) (e.ls++[⟨m,m,a,b⟩]):=by
 subst F hw;have f:=h.lt;have l:o<X.heap.size:=Nat.lt_of_lt_of_le f c.size;have q:some o≠C.ownBlock:=λe=>h.ap.1 e.symm;have hgeb:g≠o:=by
  rcases t with e|e;intro e';subst e';exact h.ap.1 e;.omega
 have P:Off (qz o C A) w Y:=(Off.of_below c).trans (Off.of_grown d λk e=>.inr (.inl e));refine⟨λi r=>?_,λi=>?_,λi r=>(World.cell?_setCell_other _ _ _ _ (λe'=>by injection e' with _ e' _;omega)).trans ((d.cell_far ⟨o,i,none⟩ l q).trans ((c.cell (p:=⟨o,i,none⟩) f).trans (h.rs i r))),?_,?_,?_,P.setCell (.inl rfl) _,?_⟩;by_cases s:i=124;subst s;rw[y8];refine World.cell?_setCell_same _ _ _ (show Y.cell? ⟨o,pz+124,none⟩=some C from ?_);rw[d.cell_far ⟨o,pz+124,none⟩ l q,c.cell (p:=⟨o,pz+124,none⟩) f,h.cl 124 (by omega),y8];rw [zft (vl:=C) s,World.cell?_setCell_other _ _ _ _ (λe'=>by injection e' with _ e' _;omega),d.cell_far ⟨o,pz+i,none⟩ l q,c.cell (p:=⟨o,pz+i,none⟩) f];exact h.cl i r
 rw [World.frozen?_setCell,d.frozen_far ⟨o,i,none⟩ l q,World.frozen?_of_block (c.block o f)];exact h.fz i;have y:=((Off.refl (λk=>k=o) Y).setCell (a:=⟨o,pz+124,none⟩) rfl (.slice (some ⟨g,0,none⟩) (e.ls.length+1) j)).row ho (λk hk e'=>by
  subst e';simp[Value.ownBlock]at hk;exact hgeb hk)
 have u:qf (e.ls++[⟨m,m,a,b⟩])=qf e.ls++jb ⟨m,m,a,b⟩:=by simp[qf]
 rw[List.length_append,u];exact y;have v:=own_below h.cm c;have x:Y.ownsRow B 143 2 A e.cm.length (flat e.cm):=(Off.of_grown (K:=λk=>C.ownBlock=some k) d λk e=>e).row v λk hk=>aK h.ld h.cm k hk;refine((Off.refl (λk=>k=o) Y).setCell (a:=⟨o,pz+124,none⟩) rfl _).row x λk hk e'=>?_;subst e';exact h.ap.2 hk;intro e';simp[Value.ownBlock]at e';exact hgeb e';intro k hk;simp[Value.ownBlock]at hk;subst hk;rcases t with e|e;exact .inl e;exact .inr (by rw[e];exact c.size)
theorem ziw{w:World}{B d:Nat}{C A:Value}{e:En}(h:EP pz Qz w B d C A e){a b m:Nat}(hm:e.m=m)(ad:e.ls.length<=1073741824)(h0:e.ls=[]):
  Calls Tryz.prog 127 #[.pointer (some ⟨d,pz,none⟩),.agg (zJ (xE a b)).toArray] w λex E=>ex=.returned (.tuple #[])/\∃au,KeepP pz Qz w E B d C A e au (e.ls++[⟨e.m,e.m,a,b⟩]):=by
 rw[hm];obtain⟨f,hf⟩:∃f,xE a b=f:=⟨_,rfl⟩;have HF:Hid (xE a b=f):=hf;rw[hf];clear hf;obtain⟨i0,ac,ai,aj,ak⟩:=info_parts KS;have y:=zC h;obtain⟨x,c,a1⟩:=qL h.ld;have I:Hid (C=.slice x e.ls.length c):=a1;have U:Hid (e.ls.length=0):=by show _=_;rw[h0];rfl
 have hX0:Below w.heap.size w (w.alloc (.cells (zJ f).toArray 97)):=(Below.refl _ _).alloc (Nat.le_refl _) _;have hra0:(w.alloc (.cells (zJ f).toArray 97)).rangeAt w.heap.size 0 (zJ f):=VS w 97 60 _;have k124:=(hX0.cell (p:=⟨d,pz+124,none⟩) h.lt).trans (h.cl 124 (by omega));rw[y8,a1,h0]at k124;simp only[List.length_nil]at k124;have HNL:=zC ad;rw[U.out]at HNL;clear h a1 ad;generalize hA:(zJ f).toArray=T at hX0 hra0 k124 |-
 go_enter Tryz.func127,Tryz.ntmps127
 go_wp2_with fail;go_quiet (fail)
 have hXB:Below w.heap.size w ((w.alloc (.cells T 97)).drewN nq):=below_drewN hX0 nq;have hra:((w.alloc (.cells T 97)).drewN nq).rangeAt w.heap.size 0 (zJ f):=hra0;generalize(w.alloc (.cells T 97)).drewN nq=X at*;clear hX0 hra0 k124 hA;have Q:Hid (Below w.heap.size w X):=hXB;have c124:=(Q.out.cell (p:=⟨d,pz+124,none⟩) y.out.lt).trans (y.out.cl 124 (by omega));have c122:=(Q.out.cell (p:=⟨d,pz+122,none⟩) y.out.lt).trans (y.out.cl 122 (by omega))
 have ab:X.frozen? ⟨d,pz+124,none⟩=false:=(World.frozen?_of_block (Q.out.block d y.out.lt)).trans (y.out.fz (pz+124));rw[y8,I.out,U.out]at c124;rw[y9,hm]at c122;have hown:=own_below y.out.ld Q.out;rw[I.out,U.out]at hown;have a7:Hid (X.drew.ownsRow B 241 62 (.slice x 0 c) 0 (qf e.ls)):=hown;have Y:X.drew.cell? ⟨d,pz+124,none⟩=some (.slice x 0 c):=c124;have am:X.drew.cell? ⟨d,pz+122,none⟩=some (.int .i64 m):=c122
 have an:X.drew.rangeAt w.heap.size 0 (zJ f):=hra;have aa:X.drew.frozen? ⟨d,pz+124,none⟩=false:=ab;have V:d<X.drew.heap.size:=Nat.lt_of_lt_of_le y.out.lt Q.out.size;have G:some d≠(Value.slice x 0 c).ownBlock:=by rw[<-U.out,<-I.out];exact λe=>y.out.ap.1 e.symm
 have hbL:=λW=>Wj (m:Int) f W;have hbS:=λW=>Wl (m:Int) f W;have ae:((Value.int .i64 (m:Int)):: .int .i64 (m:Int)::zJ f).length=1*62:=by simp[kQ]
 have ag:∀u∈((Value.int .i64 (m:Int)):: .int .i64 (m:Int)::zJ f),u.oneCell'=true:=λu z=>by
  rcases List.mem_cons.1 z with rfl|z;.rfl
  rcases List.mem_cons.1 z with rfl|z;.rfl
  obtain⟨i,_,rfl⟩:=List.mem_map.1 z;rfl
 have z:=Tryz.underlying97;have hi:(Tryz.prog.info? 97).map (·.size)=some (zJ f).length:=by rw[kQ];exact yR
 have av:(zJ f).length=60:=kQ f;have aq:B<=X.drew.heap.size:=Nat.le_trans y.out.le Q.out.size;have a2:=zC aq;clear c124 c122 hown ab hra hXB;generalize hL:(((Value.int .i64 (m:Int)):: .int .i64 (m:Int)::zJ f)).toArray=L at*;have R:Hid ((((Value.int .i64 (m:Int)):: .int .i64 (m:Int)::zJ f)).toArray=L):=hL;clear hL;have a6:Hid (∀W:World,∀j u,L.toList[j]? =some u->(W.alloc (.cells L 241)).cell? ((⟨W.heap.size,0,none⟩:Addr).add j)=some u):=λW=>World.news_of_block (heap_alloc_new W _)
 have af:L.toList.length=1*62:=by rw[<-R.out];simpa using ae
 have ah:∀u∈L.toList,u.oneCell'=true:=by rw[<-R.out];simpa using ag
 have O:Hid (L.toList.length=1*62/\∀u∈L.toList,u.oneCell'=true):=⟨af,ah⟩;have a8:Hid ((Value.agg (jb ⟨0,0,0,0⟩).toArray).cells.size=62):=by show _=_;simp[Value.cells,Z9]
 have a5:Hid (some w.heap.size≠(Value.slice x 0 c).ownBlock):=by
  show _≠_;rw[<-U.out,<-I.out];exact λe'=>by have:=(y.out.ld.lt _ e'.symm).2;omega
 have a3:Hid (d≠w.heap.size):=by have:=y.out.lt;show _≠_;omega
 have a4:Hid (∀(q:World) (g P:Nat),(X.drew.alloc (.cells L 241)).grownBy q (Value.slice x 0 c).ownBlock->q.ownsRow B 241 62 (.slice (some ⟨g,0,none⟩) (0+1) P) (0+1) (qf e.ls++L.toList)->((Value.slice x 0 c).ownBlock=some g\/g=X.drew.heap.size+1)->KeepP pz Qz w (q.setCell ⟨d,pz+124,none⟩ (.slice (some ⟨g,0,none⟩) (0+1) P)) B d C A e (.slice (some ⟨g,0,none⟩) (0+1) P) (e.ls++[⟨m,m,a,b⟩])):=by
  show∀q g P,_->_->_->_;intro q g P h1 h2 h3;have eL:L.toList=jb ⟨m,m,a,b⟩:=by rw[<-R.out,X7,HF.out]
  rw[eL]at h2;have ev:Value.slice x 0 c=C:=by rw[I.out,U.out]
  rw[ev]at h1 h3;have bX:Below w.heap.size w (X.drew.alloc (.cells L 241)):=(Q.out.drew).alloc Q.out.size _;exact KeepP.grown y.out bX h1 h2 U.out.symm (by rw[World.size_alloc];exact h3) rfl
 clear ae ag af ah;go_wp2_with fail;refine wp_region_noPanic ?_;refine wp_region_held_drew (S:=λE=>E.cell? ⟨d,pz+122,none⟩=some (.int .i64 (m:Int))/\E.rangeAt w.heap.size 0 (zJ f)) (by kernel_rfl) ⟨am,an⟩ (λn=>?_);refine zI 0 (.pointer (some ⟨d,pz,none⟩)) rfl (by kernel_rfl) rfl (by assumption) ?_ ?_;.intro t k;obtain⟨r,s⟩:=k;go_simp
 try simp only[Act.put,zD,zF,zG]
 refine zI 1 (.pointer (some ⟨d,pz,none⟩)) rfl (by kernel_rfl) rfl (by assumption) ?_ ?_;.intro t k;obtain⟨r,s⟩:=k;go_simp
 try simp only[Act.put,zD,zF,zG]
 refine zI 2 (.pointer (some ⟨d,pz,none⟩)) rfl (by kernel_rfl) rfl (by assumption) ?_ ?_;.intro t k;obtain⟨r,s⟩:=k;go_simp
 try simp only[Act.put,zD,zF,zG]
 refine zI 3 (.pointer (some ⟨d,pz+124,none⟩)) rfl (by kernel_rfl) rfl (by assumption) ?_ ?_;.intro t k;obtain⟨r,s⟩:=k;go_simp
 try simp only[Act.put,zD,zF,zG]
 refine zI 5 (.pointer (some ⟨d,pz,none⟩)) rfl (by kernel_rfl) rfl (by assumption) ?_ ?_;.intro t k;obtain⟨r,s⟩:=k;go_simp
 try simp only[Act.put,zD,zF,zG]
 refine zI 6 (.pointer (some ⟨d,pz,none⟩)) rfl (by kernel_rfl) rfl (by assumption) ?_ ?_;.intro t k;obtain⟨r,s⟩:=k;go_simp
 try simp only[Act.put,zD,zF,zG]
 refine zI 7 (.pointer (some ⟨d,pz+122,none⟩)) rfl (by kernel_rfl) rfl (by assumption) ?_ ?_;.intro t k;obtain⟨r,s⟩:=k;go_simp
 try simp only[Act.put,zD,zF,zG]
 refine zI 8 (.int .i64 (m:Int)) rfl (by kernel_rfl) rfl (by assumption) ?_ ?_;.intro t k;obtain⟨r,s⟩:=k;go_simp
 try simp only[Act.put,zD,zF,zG]
 refine zI 9 (.pointer (some ⟨d,pz,none⟩)) rfl (by kernel_rfl) rfl (by assumption) ?_ ?_;.intro t k;obtain⟨r,s⟩:=k;go_simp
 try simp only[Act.put,zD,zF,zG]
 refine zI 10 (.pointer (some ⟨d,pz,none⟩)) rfl (by kernel_rfl) rfl (by assumption) ?_ ?_;.intro t k;obtain⟨r,s⟩:=k;go_simp
 try simp only[Act.put,zD,zF,zG]
 refine zI 11 (.pointer (some ⟨d,pz+122,none⟩)) rfl (by kernel_rfl) rfl (by assumption) ?_ ?_;.intro t k;obtain⟨r,s⟩:=k;go_simp
 try simp only[Act.put,zD,zF,zG]
 refine zI 12 (.int .i64 (m:Int)) rfl (by kernel_rfl) rfl (by assumption) ?_ ?_;.intro t k;obtain⟨r,s⟩:=k;go_simp
 try simp only[Act.put,zD,zF,zG]
 refine zI 13 (.agg #[.int .i64 (m:Int),.int .i64 (m:Int)]) rfl (by kernel_rfl) rfl (by assumption) ?_ ?_;.intro t k;obtain⟨r,s⟩:=k;go_simp
 try simp only[Act.put,zD,zF,zG]
 refine wpAnyH_take (i:=14) (oi:= ⟨some 51,.load 97 (.tmp 3),97,"end.go:163",#[],none⟩) (v:=.agg (zJ f).toArray) rfl (by kernel_rfl) (by kernel_rfl) (by kernel_rfl) (λ_ _ _ h=>h) (yieldsIf_load_mid (by rfl) 97 (.tmp 3) rfl w.heap.size 0 rfl (zJ f) (.array 60 4) (λ_ h=>h.2) z rfl hi) (by assumption) ?_;try simp only[Act.put,zD,zF,zG]
 refine wpAnyH_take (i:=15) (oi:= ⟨some 52,.build 241 #[(0,.tmp 50),(1,.tmp 51)],241,"end.go:163",#[⟨13,.data⟩,⟨14,.data⟩],none⟩) (v:=.agg L) rfl (by kernel_rfl) (by kernel_rfl) (by kernel_rfl) (λ_ _ _ h=>h) (iX (m:=(m:Int)) (f:=f) (by rfl) (.tmp 50) (.tmp 51) rfl rfl rfl hbL) (by assumption) ?_;try simp only[Act.put,zD,zF,zG]
 have a9:(X.drew.alloc (.cells L 241)).cell? ⟨d,pz+124,none⟩=some (.slice x 0 c):=(World.cell?_alloc_lt _ _ _ V).trans Y;have al:(X.alloc (.cells L 241)).cell? ⟨d,pz+124,none⟩=some (.slice x 0 c):=a9;have H:d<(X.drew.alloc (.cells L 241)).heap.size:=by rw[World.size_alloc];omega
 refine wpAnyH_ready (rs:=[4,16]) (by kernel_rfl) (by simp) ?_;refine AllReadyH.cons (o:= ⟨some 41,.load 98 (.tmp 40),98,"end.go:163",#[⟨3,.data⟩],none⟩) rfl (λK l=>?_) (AllReadyH.cons (o:= ⟨some 53,.buildSlice 98 1 #[(0,.tmp 52)],98,"end.go:163",#[⟨15,.data⟩],none⟩) rfl (λK l=>?_) AllReadyH.nil)
 .clear a9 al;go_simp;refine l.out _ _ n (λn=>?_);clear l K;try simp only[Act.put,zD,zF,zG]
  refine wpAnyH_ready (rs:=[16]) (by kernel_rfl) (by simp) ?_;refine AllReadyH.cons (o:= ⟨some 53,.buildSlice 98 1 #[(0,.tmp 52)],98,"end.go:163",#[⟨15,.data⟩],none⟩) rfl (λK l=>?_) AllReadyH.nil;refine JH rfl (.tmp 52) rfl (by rfl) hbS ?_;refine l.out _ _ ⟨(World.cell?_alloc_lt _ _ _ V).trans n.1,World.rangeAt_alloc n.2 _⟩ (λn=>?_);clear l K;try simp only[Act.put,zD,zF,zG]
  refine wpAnyH_ready (rs:=[17]) (by kernel_rfl) (by simp) ?_;refine AllReadyH.cons (o:= ⟨some 54,.call {callee:=.builtin .append,args:=#[.tmp 41,.tmp 53],argTypes:=#[98,98]},98,"end.go:163",#[⟨4,.data⟩,⟨16,.data⟩],none⟩) rfl (λK l=>?_) AllReadyH.nil;refine step_append_lies _ (by rfl) (.tmp 41) (.tmp 53) 98 (by rfl) B 241 i0 _ 62 80 Tryz.underlying98 ac ai aj ak a8.out (by decide) (.slice x 0 c) 0 (qf e.ls) (by rfl) (a7.out.alloc _) ⟨X.drew.heap.size,0,none⟩ 1 1 L.toList (by rfl) O.out.1 (a6.out _) O.out.2 (by decide) (by have:=HNL.out;unfold maxLen;omega) (by have:=HNL.out;omega) (by rw[World.size_alloc];have:=a2.out;omega) (X.drew.heap.size+1) (by rw[World.size_alloc]) ?_
  intro g P q a0 F Z ar;have ap:q.cell? ⟨d,pz+124,none⟩=some (.slice x 0 c):=(F.cell_far ⟨d,pz+124,none⟩ H G).trans ((World.cell?_alloc_lt _ _ _ V).trans Y);have gf:q.frozen? ⟨d,pz+124,none⟩=false:=(F.frozen_far ⟨d,pz+124,none⟩ H G).trans ((World.frozen?_alloc_past _ _ _ V).trans aa);have J:q.cell? ⟨d,pz+122,none⟩=some (.int .i64 (m:Int)):=(F.cell_far ⟨d,pz+122,none⟩ H G).trans n.1;have M:q.rangeAt w.heap.size 0 (zJ f):=λj v D=>by
   have N:=n.2 j v D;exact(F.cell_far ⟨w.heap.size,0+j,none⟩ (World.block_lt_of_cell? _ _ N) a5.out).trans N
  refine l.out _ _ ⟨J,M⟩ (λn=>?_);clear l K;try simp only[Act.put,zD,zF,zG]
  refine zI 18 (.pointer (some ⟨d,pz,none⟩)) rfl (by kernel_rfl) rfl (by assumption) ?_ ?_;.intro t k;obtain⟨r,s⟩:=k;go_simp
  try simp only[Act.put,zD,zF,zG]
  refine zI 19 (.pointer (some ⟨d,pz+124,none⟩)) rfl (by kernel_rfl) rfl (by assumption) ?_ ?_;.intro t k;obtain⟨r,s⟩:=k;go_simp
  try simp only[Act.put,zD,zF,zG]
  refine wpAnyH_ready (rs:=[20]) (by kernel_rfl) (by simp) ?_;refine AllReadyH.cons (o:= ⟨none,.store 98 (.tmp 56) (.tmp 54),0,"end.go:163",#[⟨19,.data⟩,⟨17,.data⟩,⟨17,.chain⟩,⟨0,.phase⟩,⟨1,.phase⟩,⟨2,.phase⟩,⟨3,.phase⟩,⟨4,.phase⟩,⟨5,.phase⟩,⟨6,.phase⟩,⟨7,.phase⟩,⟨8,.phase⟩,⟨9,.phase⟩,⟨10,.phase⟩,⟨11,.phase⟩,⟨12,.phase⟩,⟨13,.phase⟩,⟨14,.phase⟩,⟨15,.phase⟩,⟨16,.phase⟩,⟨17,.phase⟩],none⟩) rfl (λK l=>?_) AllReadyH.nil
  go_simp;refine l.out _ _ ⟨(World.cell?_setCell_other _ _ _ _ (λe'=>by injection e' with _ e' _;omega)).trans J,λj v D=>(World.cell?_setCell_other _ _ _ _ (λe'=>by injection e' with e' _ _;exact a3.out e')).trans (M j v D)⟩ (λn=>?_);clear l K;refine wpAnyH_done (by kernel_rfl) (NoPanic.normal ?_) _;go_wp2_with fail;refine Go.Great.bodyPost_end0 rfl rfl ⟨rfl,_,a4.out q g P F a0 Z⟩
 refine JH rfl (.tmp 52) rfl (by rfl) hbS ?_;refine l.out _ _ ⟨(World.cell?_alloc_lt _ _ _ V).trans n.1,World.rangeAt_alloc n.2 _⟩ (λn=>?_);clear l K;try simp only[Act.put,zD,zF,zG]
 refine wpAnyH_ready (rs:=[4]) (by kernel_rfl) (by simp) ?_;refine AllReadyH.cons (o:= ⟨some 41,.load 98 (.tmp 40),98,"end.go:163",#[⟨3,.data⟩],none⟩) rfl (λK l=>?_) AllReadyH.nil;go_simp;refine l.out _ (X.drew.alloc (.cells L 241)) n (λn=>?_);clear l K;try simp only[Act.put,zD,zF,zG]
 refine wpAnyH_ready (rs:=[17]) (by kernel_rfl) (by simp) ?_;refine AllReadyH.cons (o:= ⟨some 54,.call {callee:=.builtin .append,args:=#[.tmp 41,.tmp 53],argTypes:=#[98,98]},98,"end.go:163",#[⟨4,.data⟩,⟨16,.data⟩],none⟩) rfl (λK l=>?_) AllReadyH.nil;refine step_append_lies _ (by rfl) (.tmp 41) (.tmp 53) 98 (by rfl) B 241 i0 _ 62 80 Tryz.underlying98 ac ai aj ak a8.out (by decide) (.slice x 0 c) 0 (qf e.ls) (by rfl) (a7.out.alloc _) ⟨X.drew.heap.size,0,none⟩ 1 1 L.toList (by rfl) O.out.1 (a6.out _) O.out.2 (by decide) (by have:=HNL.out;unfold maxLen;omega) (by have:=HNL.out;omega) (by rw[World.size_alloc];have:=a2.out;omega) (X.drew.heap.size+1) (by rw[World.size_alloc]) ?_
 intro g P q a0 F Z ar;have ap:q.cell? ⟨d,pz+124,none⟩=some (.slice x 0 c):=(F.cell_far ⟨d,pz+124,none⟩ H G).trans ((World.cell?_alloc_lt _ _ _ V).trans Y);have gf:q.frozen? ⟨d,pz+124,none⟩=false:=(F.frozen_far ⟨d,pz+124,none⟩ H G).trans ((World.frozen?_alloc_past _ _ _ V).trans aa);have J:q.cell? ⟨d,pz+122,none⟩=some (.int .i64 (m:Int)):=(F.cell_far ⟨d,pz+122,none⟩ H G).trans n.1;have M:q.rangeAt w.heap.size 0 (zJ f):=λj v D=>by
  have N:=n.2 j v D;exact(F.cell_far ⟨w.heap.size,0+j,none⟩ (World.block_lt_of_cell? _ _ N) a5.out).trans N
 refine l.out _ _ ⟨J,M⟩ (λn=>?_);clear l K;try simp only[Act.put,zD,zF,zG]
 refine zI 18 (.pointer (some ⟨d,pz,none⟩)) rfl (by kernel_rfl) rfl (by assumption) ?_ ?_;.intro t k;obtain⟨r,s⟩:=k;go_simp
 try simp only[Act.put,zD,zF,zG]
 refine zI 19 (.pointer (some ⟨d,pz+124,none⟩)) rfl (by kernel_rfl) rfl (by assumption) ?_ ?_;.intro t k;obtain⟨r,s⟩:=k;go_simp
 try simp only[Act.put,zD,zF,zG]
 refine wpAnyH_ready (rs:=[20]) (by kernel_rfl) (by simp) ?_;refine AllReadyH.cons (o:= ⟨none,.store 98 (.tmp 56) (.tmp 54),0,"end.go:163",#[⟨19,.data⟩,⟨17,.data⟩,⟨17,.chain⟩,⟨0,.phase⟩,⟨1,.phase⟩,⟨2,.phase⟩,⟨3,.phase⟩,⟨4,.phase⟩,⟨5,.phase⟩,⟨6,.phase⟩,⟨7,.phase⟩,⟨8,.phase⟩,⟨9,.phase⟩,⟨10,.phase⟩,⟨11,.phase⟩,⟨12,.phase⟩,⟨13,.phase⟩,⟨14,.phase⟩,⟨15,.phase⟩,⟨16,.phase⟩,⟨17,.phase⟩],none⟩) rfl (λK l=>?_) AllReadyH.nil
 go_simp;refine l.out _ _ ⟨(World.cell?_setCell_other _ _ _ _ (λe'=>by injection e' with _ e' _;omega)).trans J,λj v D=>(World.cell?_setCell_other _ _ _ _ (λe'=>by injection e' with e' _ _;exact a3.out e')).trans (M j v D)⟩ (λn=>?_);clear l K;refine wpAnyH_done (by kernel_rfl) (NoPanic.normal ?_) _;go_wp2_with fail;refine Go.Great.bodyPost_end0 rfl rfl ⟨rfl,_,a4.out q g P F a0 Z⟩
end Go.Proofs.YtdokgalidhmbbaaGreatDoor.Ez
namespace Go.Proofs.YtdokgalidhmbbaaGreatDoor.Ez
open Go.RowKit Go.Lib Go.Sort
open Sx (zP)
variable {pz : Nat} {Qz : Nat -> Option Value}
def JZ(a:Nat)(b:Nat->Option Value)(e:En):Prop:=∀(w:World) (B o:Nat) (C A:Value),EP a b w B o C A e->Calls Tryz.prog 127 #[.pointer (some ⟨o,a,none⟩),.agg (zJ (xE (pk e).1 (pk e).2)).toArray] w λc E=>c=.returned (.tuple #[])/\∃d,KeepP a b w E B o C A e d (jC e.ls e.m (pk e).1 (pk e).2)
variable {e:En}
theorem ziu(c:e.ls=[]):JZ pz Qz e:=λw B o C A h=>by
 rw[c]
 have:=ziw h (a:=(pk e).1) (b:=(pk e).2) rfl (by rw[c];simp) c
 rw[c]at this
 exact this
theorem TurnP.made{w E:World}{B o:Nat}{C A d:Value}(h:EP pz Qz w B o C A e)(f:xV e=0)(hk:KeepP pz Qz w E B o C A e d (jC e.ls e.m (pk e).1 (pk e).2)){z:Int}(j:z=((e.m+1:Nat):Int)):
  TurnP pz Qz w (E.setCell ⟨o,pz+122,none⟩ (.int .i64 z)) B o C A (q9 e):=by
 subst j;have hi:=h.inv.make;have g:q9 e={e with ls:=jC e.ls e.m (pk e).1 (pk e).2,m:=e.m+1}:=by unfold q9;rw[if_pos f]
 rw[g]at hi |-;refine⟨d,A,⟨hi,λi hi=>?_,λi=>by simpa using hk.fz i,λi hi=>(World.cell?_setCell_other _ _ _ _ (λe'=>by injection e' with _ e' _;omega)).trans (hk.rs i hi),h.hs,?_,?_,hk.ap,h.ap.2⟩,hk.off.setCell (a:=⟨o,pz+122,none⟩) (.inl rfl) _,λk b=>?_⟩;by_cases c:i=122;subst c;rw[y9];exact World.cell?_setCell_same _ _ _ (hk.cl 122 (by omega));rw [zfp c,World.cell?_setCell_other _ _ _ _ (λe'=>by injection e' with _ e' _;omega)];exact hk.cl i hi
 exact ((Off.refl (λk=>k=o) E).setCell (a:=⟨o,pz+122,none⟩) rfl _).row hk.ld (λk b e'=>by subst e';exact hk.ap b);exact ((Off.refl (λk=>k=o) E).setCell (a:=⟨o,pz+122,none⟩) rfl _).row hk.cm (λk b e'=>by subst e';exact h.ap.2 b);rcases b with rfl|b|b;exact .inl (.inl rfl);rcases hk.own k b with h|h;exact .inl (.inr (.inl h));exact .inr h;exact .inl (.inr (.inr b))
theorem aO{w:World}{B o:Nat}{C A:Value}(h:EP pz Qz w B o C A e)(Y:JZ pz Qz e)(X:V.Forms w)(W:Cnts w):
  Calls Tryz.prog 100 #[.pointer (some ⟨o,pz,none⟩)] w λf E=>f=.returned (.string (qP e))/\TurnP pz Qz w E B o C A (q9 e):=by
 have j:=zC h;have t:Hid (V.Forms w/\Cnts w):=⟨X,W⟩;have a7:=zC Y;have S:=zm5 h;have a0:∀p∈pieces e,p.1+p.2.size<=60:=λp hp=>by
  have:=Zk e.d (en e) (ky e) 3 e.t p hp;have:=h.inv.en60;omega
 have a8:=zC a0;have c122:=h.cl 122 (by omega);have c123:=h.cl 123 (by omega);rw[y9]at c122;rw[YV]at c123;have J:=h.lt;have L:(qO e).length<=1000000:=by
  have:=yO e.d (en e) 3 e.t;unfold qO pieces;split<;>simp<;>omega
 have HP:Hid (∀D d g P,FOwn d D g P (qO e)->Below w.heap.size w d->Cl 125 #[.int .i64 e.m,.int .i64 e.k,g] d (.tuple #[.string (qP e),zN (xV e)])):=by
  show∀D d g P,_->_->_;intro D d g P u v;by_cases a:xV e=0;rw [a,jm];have H:qP e=xw e.m e.k (qO e):=by unfold qP;rw[if_pos a]
  rw[H];exact znf e.m e.k g (qO e) d (t.out.1.below v) (t.out.2.below v) (u.row L) a;have H:qP e=nilB:=by unfold qP;rw[if_neg a]
  rw[H];exact zne e.m e.k g (qO e) d (t.out.1.below v) (t.out.2.below v) (u.row L) a
 have HM:Hid (xV e=0->(e.m:Int)<=1073741823):=λa=>by have:=aN a;omega
 clear L;obtain⟨l,s⟩:∃l,xV e=l:=⟨_,rfl⟩;obtain⟨G,r⟩:∃G,qP e=G:=⟨_,rfl⟩;have HFF:Hid (xV e=l):=s;rw[s]at HP;rw[r]at HP |-;rw[s]at HM;have a6:Hid (l≠0->G={data:=#[]}):=λa=>by rw[<-r];unfold qP;rw[if_neg (by rw[s];exact a)];rfl
 clear s r;generalize Z:(e.m:Int)=m at*;have U:Hid ((e.m:Int)=m):=Z;generalize e.k=kk at*;clear Z;clear h Y X W a0;go_enter Tryz.func100,Tryz.ntmps100
 go_wp2_with fail;refine S.mono ?_;rintro f b ⟨v1,rfl,a1,n⟩;clear S;have a4:b.drew.cell? ⟨o,pz+122,none⟩=some (.int .i64 m):=(n.cell (p:=⟨o,pz+122,none⟩) J).trans c122;have a5:b.drew.cell? ⟨o,pz+123,none⟩=some (.int .i64 kk):=(n.cell (p:=⟨o,pz+123,none⟩) J).trans c123;have I:Below w.heap.size w b.drew:=n.drew;have F:o<b.drew.heap.size:=Nat.lt_of_lt_of_le J n.size;have R:=zgl (j.out.below I) (show b.drew.ownsRow w.heap.size 146 2 v1 (pieces e).length (zz (pieces e))from a1)
 have aa:Hid (b.ownsRow w.heap.size 146 2 v1 (pieces e).length (zz (pieces e))):=a1;have O:=zC I;go_wp2_with fail;go_region_held3 (λE=>E.cell? ⟨o,pz+122,none⟩=some (.int .i64 m)/\E.cell? ⟨o,pz+123,none⟩=some (.int .i64 kk)) (go_keep) (first|(go_at_call 126;refine R.mono ?_;rintro f d ⟨g,P,rfl,ho2,c⟩;obtain⟨a2,c2,ad⟩:=qL ho2.own;subst ad;have q0:=(c.cell (p:=⟨o,pz+122,none⟩) F).trans a4;have q1:=(c.cell (p:=⟨o,pz+123,none⟩) F).trans a5;have x:=O.out.trans (c.mono O.out.size);have K:=Nat.lt_of_lt_of_le F c.size)|(go_at_call 125;refine(HP.out _ _ _ _ ho2 x).mono ?_;rintro f N ⟨rfl,q⟩;have r0:=(q.cell (p:=⟨o,pz+122,none⟩) K).trans q0;have r1:=(q.cell (p:=⟨o,pz+123,none⟩) K).trans q1;have T:=x.trans (q.mono x.size)))
 have Q:Hid (Below w.heap.size w N):=T;have a3:Below b.heap.size b N:=(show Below b.heap.size b d from⟨c.os,c.tape,c.output,c.size,c.block⟩).trans (q.mono c.size);have ab:=zC a3;clear c q x T ho2 a3 q0 q1 r1 a4 a5 R HP c122 c123 n I K F;by_cases a:l=0
 .subst a;rw[jm];have HPL:=zng (own_below aa.out ab.out) (yO _ _ _ _) a8.out;have a9:Hid (zJ (hadB (pieces e))=zJ (xE (pk e).1 (pk e).2)):=zbz λi _=>zhm j.out.inv i;rw[a9.out]at HPL;generalize hA:(zJ (xE (pk e).1 (pk e).2)).toArray=ae at HPL;have ah:=HM.out rfl;have ag:0<=m:=by have:=U.out;omega
  have u1:=Sx.wrap_small (m+1) (by omega) (by omega);go_wp2_with (first|(go_at_call 128;refine HPL.mono ?_;rintro f w4 ⟨rfl,ac⟩;have y:=Q.out.trans (ac.mono Q.out.size);have HKE:=a7.out w4 B o C A (j.out.below y);rw[hA]at HKE)|(go_at_call 127;refine HKE.mono ?_;rintro f w5 ⟨rfl,ai,M⟩;have d122:=M.cl 122 (by omega);rw[y9,U.out]at d122;have af:=M.fz (pz+122)));go_ret;refine⟨rfl,?_⟩;have u:TurnP pz Qz w4 _ B o C A (q9 e):=TurnP.made (j.out.below y) HFF.out M (z:=m+1) (by rw[<-U.out];omega)
  exact TurnP.trans (j.out.below y) (Off.of_below y) (λk hk=>.inl hk) u
 have r:=a6.out a;subst r;have hs:q9 e=e:=by unfold q9;rw[if_neg (by rw[HFF.out];exact a)]
 rw[qj a];go_wp2_with fail;go_ret;exact⟨rfl,TurnP.below j.out Q.out⟩
end Go.Proofs.YtdokgalidhmbbaaGreatDoor.Ez
namespace Go.Proofs.YtdokgalidhmbbaaGreatDoor.Ez
open Go.RowKit Go.Lib Go.Sort
open Sx (zP)
variable {pz : Nat} {Qz : Nat -> Option Value}
variable {w:World}{B m a b:Nat}{C:Value}{e:En}{y:Ld}
theorem KeepP.same{X:World}{l k g p:Nat}{A:Value}{c:List Ld}(h:EP pz Qz w B l C A e)(q:Below w.heap.size w X)(F:e.ls=c++[y])(v:k=c.length)(t:y.a=a)(u:y.b=b)(hvl:C=.slice (some ⟨g,0,none⟩) (k+1) p):
  KeepP pz Qz w (X.setCell ⟨g,k*62+1,none⟩ (.int .i64 (m:Int))).drew B l C A e C (c++[⟨y.lo,m,a,b⟩]):=by
 subst v hvl;have d:=h.below q;have r:g≠l:=λe'=>h.ap.1 (by rw[e'];rfl);have o:Off (λj=>j=g) X (X.setCell ⟨g,c.length*62+1,none⟩ (.int .i64 (m:Int))):=(Off.refl _ _).setCell (K:=λj=>j=g) (a:=⟨g,c.length*62+1,none⟩) rfl _;have P:Off (qz l (.slice (some ⟨g,0,none⟩) (c.length+1) p) A) w (X.setCell ⟨g,c.length*62+1,none⟩ (.int .i64 (m:Int))).drew:=((Off.of_below q).trans (o.mono λj _ f=>.inr (.inl (by rw[f];rfl)))).drew
 have hld:=d.ld;rw[F]at hld;have x:(c++[y]).length=c.length+1:=by simp
 rw[x]at hld;have hst:=(hld.stored (c.length*62+1) (.int .i64 (m:Int))).1;have s:(qf (c++[y])).set (c.length*62+1) (.int .i64 (m:Int))=qf (c++[⟨y.lo,m,a,b⟩]):=by
  rw[Yy,Yy,List.set_append,Yz,if_neg (by omega)];have:c.length*62+1-c.length*62=1:=by omega
  rw[this];simp[qf,jb,t,u]
 rw[s]at hst;refine⟨λi n=>?_,λi=>?_,λi n=>by show(X.setCell _ _).cell? _=_;rw[World.cell?_setCell_other _ _ _ _ (λe'=>by injection e' with e' _ _;exact r e')];exact d.rs i n,?_,?_,h.ap.1,P,λj f=>.inl f⟩;show (X.setCell _ _).cell? _=_;rw[World.cell?_setCell_other _ _ _ _ (λe'=>by injection e' with e' _ _;exact r e')];exact d.cl i n;show (X.setCell _ _).frozen? _=_;rw[World.frozen?_setCell];exact d.fz i
 rw [List.length_append];exact hst;exact o.row d.cm λj f e'=>by
  subst e';exact aK h.ld h.cm j f rfl
theorem zix{d:Nat}{A:Value}(h:EP pz Qz w B d C A e)(hm:e.m=m)(T:e.ls.length<=1073741824){x:List Ld}(P:e.ls=x++[y])(a1:a<b\/(a=0/\b=0))(a2:b<=60)(L:y.a=a/\y.b=b):
  Calls Tryz.prog 127 #[.pointer (some ⟨d,pz,none⟩),.agg (zJ (xE a b)).toArray] w λex E=>ex=.returned (.tuple #[])/\∃a3,KeepP pz Qz w E B d C A e a3 (x++[⟨y.lo,m,a,b⟩]):=by
 obtain⟨f,Q⟩:∃f,xE a b=f:=⟨_,rfl⟩;have HF:Hid (xE a b=f):=Q;have M:=h.inv.ls y (by rw[P];simp);have HEQ:Hid (((List.range 60).all λi=>xE y.a y.b i==f i)=true):=by
  show _=_;rw[<-Q,Yn M.2.1 a1 (Nat.le_trans M.2.2.2 h.inv.en60) a2];exact decide_eq_true L
 rw[Q];obtain⟨u,H⟩:∃u,xE y.a y.b=u:=⟨_,rfl⟩;rw[H]at HEQ;obtain⟨k,U⟩:∃k,x.length=k:=⟨_,rfl⟩;have hlen:e.ls.length=k+1:=by rw[P,List.length_append,U];rfl
 have I:=h.ld;obtain⟨g,t,hvl,_,_⟩:=I.form (by omega);rw[hlen]at hvl;obtain⟨n,J⟩:∃n,k+1=n:=⟨_,rfl⟩;rw[J]at hvl hlen;have F:=zC h;have a5:Hid (C=.slice (some ⟨g,0,none⟩) e.ls.length t):=by show _=_;rw[hvl,hlen]
 have V:Hid (e.ls.length=n):=hlen;have a4:Hid (n<=1073741824):=by rw[<-hlen];exact T
 obtain⟨i0,a9,aa,ab,ac⟩:=info_parts KS;have hX0:Below w.heap.size w (w.alloc (.cells (zJ f).toArray 97)):=(Below.refl _ _).alloc (Nat.le_refl _) _;have dr1:(w.alloc (.cells (zJ f).toArray 97)).drew.rangeAt w.heap.size 0 (zJ f):=VS w 97 60 _;have k124:=(hX0.cell (p:=⟨d,pz+124,none⟩) h.lt).trans (h.cl 124 (by omega));rw[y8,hvl]at k124;have d124:(w.alloc (.cells (zJ f).toArray 97)).drew.cell? ⟨d,pz+124,none⟩=some (.slice (some ⟨g,0,none⟩) n t):=k124
 have dr0:(w.alloc (.cells (zJ f).toArray 97)).drew.rangeAt g (k*62+2) (zJ u):=V9 λi hi=>by
  have h1:=own_below I hX0;rw[hvl,hlen]at h1;have h2:=h1.cellAt (k*62+2+i) (by omega);have h3:=QX e.ls k (2+i) (by omega) (by omega);have D:e.ls[k]'(by omega)=y:=by simp[P,<-U]
  rw[D,X7]at h3;rw[show k*62+2+i=k*62+(2+i) by omega,h3]at h2;rw[show k*62+2+i=k*62+(2+i) by omega];refine Eq.trans h2 ?_;rw[show 2+i=i+1+1 by omega];simp only[List.getElem?_cons_succ];rw[Qv hi,<-H]
 have W:Tryz.prog.underlying 97=some (.array 60 4):=by kernel_rfl
 have gn:(n:Int)-1=(k:Int):=by omega
 have a6:(0:Int)<=(k:Int):=by omega
 have a7:(k:Int)<(n:Int):=by omega
 have a8:(k:Int)<=1073741824:=by omega
 have hXd:Below w.heap.size w (w.alloc (.cells (zJ f).toArray 97)).drew:=hX0.drew;have s:Hid (x.length=k/\k+1=n/\e.ls=x++[y]/\C=.slice (some ⟨g,0,none⟩) n t):=⟨U,J,P,hvl⟩;clear h I U J P hvl T Q H hlen M;generalize hA:(zJ f).toArray=N at hX0 dr0 dr1 k124 d124 hXd |-;go_enter Tryz.func127,Tryz.ntmps127
 go_wp2_with fail;refine wp_region_noPanic ?_;refine wp_region_held_drew (S:=λE=>E.cell? ⟨d,pz+124,none⟩=some (.slice (some ⟨g,0,none⟩) n t)/\E.rangeAt g (k*62+2) (zJ u)/\E.rangeAt w.heap.size 0 (zJ f)) (by kernel_rfl) ⟨d124,dr0,dr1⟩ (λG=>?_);refine zI 0 (.int .i64 (k:Int)) rfl (by kernel_rfl) rfl (by assumption) ?_ ?_;.intro q c;obtain⟨j,l,r⟩:=c;go_simp
 try simp only[Act.put,zD,zF,zG]
 refine zI 1 (.bool true) rfl (by kernel_rfl) rfl (by assumption) ?_ ?_;.intro q c;obtain⟨j,l,r⟩:=c;go_simp
 try simp only[Act.put,zD,zF,zG]
 refine zI 2 (.bool true) rfl (by kernel_rfl) rfl (by assumption) ?_ ?_;.intro q c;obtain⟨j,l,r⟩:=c;go_simp
 try simp only[Act.put,zD,zF,zG]
 refine zI 3 (.pointer (some ⟨d,pz,none⟩)) rfl (by kernel_rfl) rfl (by assumption) ?_ ?_;.intro q c;obtain⟨j,l,r⟩:=c;go_simp
 try simp only[Act.put,zD,zF,zG]
 refine zI 4 (.pointer (some ⟨d,pz,none⟩)) rfl (by kernel_rfl) rfl (by assumption) ?_ ?_;.intro q c;obtain⟨j,l,r⟩:=c;go_simp
 try simp only[Act.put,zD,zF,zG]
 refine zI 5 (.pointer (some ⟨d,pz+124,none⟩)) rfl (by kernel_rfl) rfl (by assumption) ?_ ?_;.intro q c;obtain⟨j,l,r⟩:=c;go_simp
 try simp only[Act.put,zD,zF,zG]
 refine zI 6 (.slice (some ⟨g,0,none⟩) n t) rfl (by kernel_rfl) rfl (by assumption) ?_ ?_;.intro q c;obtain⟨j,l,r⟩:=c;go_simp
 try simp only[Act.put,zD,zF,zG]
 refine zI 7 (.int .i64 (k:Int)) rfl (by kernel_rfl) rfl (by assumption) ?_ ?_;.intro q c;obtain⟨j,l,r⟩:=c;go_simp
 try simp only[Act.put,zD,zF,zG]
 refine zI 8 (.pointer (some ⟨g,k*62,none⟩)) rfl (by kernel_rfl) rfl (by assumption) ?_ ?_;.intro q c;obtain⟨j,l,r⟩:=c;go_simp
 try simp only[Act.put,zD,zF,zG]
 refine zI 9 (.pointer (some ⟨g,k*62+2,none⟩)) rfl (by kernel_rfl) rfl (by assumption) ?_ ?_;.intro q c;obtain⟨j,l,r⟩:=c;go_simp
 try simp only[Act.put,zD,zF,zG]
 refine wpAnyH_take (i:=10) (oi:= ⟨some 21,.load 97 (.tmp 20),97,"end.go:159",#[⟨9,.data⟩,⟨2,.guard⟩],some (2,true)⟩) (v:=.agg (zJ u).toArray) rfl (by kernel_rfl) (by kernel_rfl) (by kernel_rfl) (λ_ _ _ h=>h) (yieldsIf_load_mid (by rfl) 97 (.tmp 20) rfl g (k*62+2) rfl (zJ u) (.array 60 4) (λ_ h=>h.2.1) W rfl (by rw[kQ];exact yR)) (by assumption) ?_;try simp only[Act.put,zD,zF,zG]
 refine wpAnyH_take (i:=11) (oi:= ⟨some 22,.load 97 (.tmp 3),97,"end.go:159",#[⟨2,.guard⟩],some (2,true)⟩) (v:=.agg (zJ f).toArray) rfl (by kernel_rfl) (by kernel_rfl) (by kernel_rfl) (λ_ _ _ h=>h) (yieldsIf_load_mid (by rfl) 97 (.tmp 3) rfl w.heap.size (0) rfl (zJ f) (.array 60 4) (λ_ h=>h.2.2) W rfl (by rw[kQ];exact yR)) (by assumption) ?_;try simp only[Act.put,zD,zF,zG]
 refine wpAnyH_take (i:=12) (oi:= ⟨some 23,.binOp BinOp.eql 97 (.tmp 21) (.tmp 22) 97,4,"end.go:159",#[⟨10,.data⟩,⟨11,.data⟩,⟨2,.guard⟩],some (2,true)⟩) (v:=.bool true) rfl (by kernel_rfl) (by kernel_rfl) (by kernel_rfl) (λ_ _ _ h=>h) (iW (by rfl) (.tmp 21) (.tmp 22) rfl rfl rfl HEQ.out) (by assumption) ?_;try simp only[Act.put,zD,zF,zG]
 refine zI 13 (.bool true) rfl (by kernel_rfl) rfl (by assumption) ?_ ?_;.intro q c;obtain⟨j,l,r⟩:=c;go_simp
 try simp only[Act.put,zD,zF,zG]
 refine wpAnyH_done (by kernel_rfl) (NoPanic.normal ?_) _;clear G;go_wp2_with fail;have hXB:Below w.heap.size w (w.alloc (.cells N 97)).drew:=hXd;generalize(w.alloc (.cells N 97)).drew=X at*;have z:Hid (Below w.heap.size w X):=hXB;have Z:X.drew.cell? ⟨d,pz+124,none⟩=some (.slice (some ⟨g,0,none⟩) n t):=d124;have Y:X.drew.cell? ⟨d,pz+122,none⟩=some (.int .i64 (m:Int)):=by
  have:=(z.out.cell (p:=⟨d,pz+122,none⟩) F.out.lt).trans (F.out.cl 122 (by omega));rw[y9,hm]at this;exact this
 have hgX:=own_below F.out.ld z.out;rw[s.out.2.2.2,V.out]at hgX;have xc:X.drew.cell? ⟨g,k*62+1,none⟩=some (.int .i64 (y.hi:Int)):=by
  have h2:=hgX.cellAt (k*62+1) (by omega);have h3:=QX e.ls k 1 (by have:=V.out;omega) (by omega);have D:e.ls[k]'(by have:=V.out;omega)=y:=by simp[s.out.2.2.1,<-s.out.1]
  rw[D]at h3;rw[h3]at h2;exact h2
 have xf:X.drew.frozen? ⟨g,k*62+1,none⟩=false:=hgX.frozenAt (k*62+1);have R:Hid (g≠d):=λe'=>F.out.ap.1 (by rw[s.out.2.2.2,e'];rfl);have a0:Hid (KeepP pz Qz w (X.setCell ⟨g,k*62+1,none⟩ (.int .i64 (m:Int))).drew B d C A e C (x++[⟨y.lo,m,a,b⟩])):=KeepP.same F.out z.out s.out.2.2.1 s.out.1.symm L.1 L.2 (by rw[s.out.2.1];exact s.out.2.2.2);clear hgX hXB hXd dr0 dr1 k124 d124 hX0 hA;refine wp_region_noPanic ?_
 refine wp_region_held_drew (S:=λE=>E.cell? ⟨d,pz+124,none⟩=some (.slice (some ⟨g,0,none⟩) n t)/\E.cell? ⟨d,pz+122,none⟩=some (.int .i64 (m:Int))) (by kernel_rfl) ⟨Z,Y⟩ (λG=>?_);refine zI 0 (.pointer (some ⟨d,pz,none⟩)) rfl (by kernel_rfl) rfl (by assumption) ?_ ?_;.intro q c;obtain⟨j,l⟩:=c;go_simp
 try simp only[Act.put,zD,zF,zG]
 refine zI 1 (.pointer (some ⟨d,pz,none⟩)) rfl (by kernel_rfl) rfl (by assumption) ?_ ?_;.intro q c;obtain⟨j,l⟩:=c;go_simp
 try simp only[Act.put,zD,zF,zG]
 refine zI 2 (.pointer (some ⟨d,pz+124,none⟩)) rfl (by kernel_rfl) rfl (by assumption) ?_ ?_;.intro q c;obtain⟨j,l⟩:=c;go_simp
 try simp only[Act.put,zD,zF,zG]
 refine zI 3 (.slice (some ⟨g,0,none⟩) n t) rfl (by kernel_rfl) rfl (by assumption) ?_ ?_;.intro q c;obtain⟨j,l⟩:=c;go_simp
 try simp only[Act.put,zD,zF,zG]
 refine zI 4 (.int .i64 (k:Int)) rfl (by kernel_rfl) rfl (by assumption) ?_ ?_;.intro q c;obtain⟨j,l⟩:=c;go_simp
 try simp only[Act.put,zD,zF,zG]
 refine zI 5 (.pointer (some ⟨d,pz,none⟩)) rfl (by kernel_rfl) rfl (by assumption) ?_ ?_;.intro q c;obtain⟨j,l⟩:=c;go_simp
 try simp only[Act.put,zD,zF,zG]
 refine zI 6 (.pointer (some ⟨d,pz,none⟩)) rfl (by kernel_rfl) rfl (by assumption) ?_ ?_;.intro q c;obtain⟨j,l⟩:=c;go_simp
 try simp only[Act.put,zD,zF,zG]
 refine zI 7 (.pointer (some ⟨d,pz+122,none⟩)) rfl (by kernel_rfl) rfl (by assumption) ?_ ?_;.intro q c;obtain⟨j,l⟩:=c;go_simp
 try simp only[Act.put,zD,zF,zG]
 refine zI 8 (.int .i64 (m:Int)) rfl (by kernel_rfl) rfl (by assumption) ?_ ?_;.intro q c;obtain⟨j,l⟩:=c;go_simp
 try simp only[Act.put,zD,zF,zG]
 refine zI 9 (.pointer (some ⟨g,k*62,none⟩)) rfl (by kernel_rfl) rfl (by assumption) ?_ ?_;.intro q c;obtain⟨j,l⟩:=c;go_simp
 try simp only[Act.put,zD,zF,zG]
 refine zI 10 (.pointer (some ⟨g,k*62,none⟩)) rfl (by kernel_rfl) rfl (by assumption) ?_ ?_;.intro q c;obtain⟨j,l⟩:=c;go_simp
 try simp only[Act.put,zD,zF,zG]
 refine zI 11 (.pointer (some ⟨g,k*62+1,none⟩)) rfl (by kernel_rfl) rfl (by assumption) ?_ ?_;.intro q c;obtain⟨j,l⟩:=c;go_simp
 try simp only[Act.put,zD,zF,zG]
 refine wpAnyH_ready (rs:=[12]) (by kernel_rfl) (by simp) ?_;refine AllReadyH.cons (o:= ⟨none,.store 3 (.tmp 36) (.tmp 33),0,"end.go:160",#[⟨11,.data⟩,⟨8,.data⟩,⟨0,.phase⟩,⟨1,.phase⟩,⟨2,.phase⟩,⟨3,.phase⟩,⟨4,.phase⟩,⟨5,.phase⟩,⟨6,.phase⟩,⟨7,.phase⟩,⟨8,.phase⟩],none⟩) rfl (λK O=>?_) AllReadyH.nil;go_simp;refine O.out _ _ ⟨(World.cell?_setCell_other _ _ _ _ (λe'=>by injection e' with e' _ _;exact R.out e')).trans Z,(World.cell?_setCell_other _ _ _ _ (λe'=>by injection e' with e' _ _;exact R.out e')).trans Y⟩ (λG=>?_)
 clear O K;refine wpAnyH_done (by kernel_rfl) (NoPanic.normal ?_) _;go_wp2_with fail;refine bodyPost_ret (results_none rfl _ _) rfl ⟨rfl,_,a0.out⟩
theorem ziv{l:Nat}{vc:Value}(h:EP pz Qz w B l C vc e)(hm:e.m=m)(ai:e.ls.length<=1073741824){a1:List Ld}(Y:e.ls=a1++[y])(ay:a<b\/(a=0/\b=0))(az:b<=60)(b1:¬(y.a=a/\y.b=b)):
  Calls Tryz.prog 127 #[.pointer (some ⟨l,pz,none⟩),.agg (zJ (xE a b)).toArray] w λex E=>ex=.returned (.tuple #[])/\∃b2,KeepP pz Qz w E B l C vc e b2 (e.ls++[⟨m,m,a,b⟩]):=by
 obtain⟨f,hf⟩:∃f,xE a b=f:=⟨_,rfl⟩;have HF:Hid (xE a b=f):=hf;have hy:=h.inv.ls y (by rw[Y];simp);have HEQ:Hid (((List.range 60).all λi=>xE y.a y.b i==f i)=false):=by
  show _=_;rw[<-hf,Yn hy.2.1 ay (Nat.le_trans hy.2.2.2 h.inv.en60) az];exact decide_eq_false b1
 rw[hf];obtain⟨J,a4⟩:∃J,xE y.a y.b=J:=⟨_,rfl⟩;rw[a4]at HEQ;obtain⟨k,hk⟩:∃k,a1.length=k:=⟨_,rfl⟩;have hlen:e.ls.length=k+1:=by rw[Y,List.length_append,hk];rfl
 have a5:=h.ld;obtain⟨g,P,hvl,_,_⟩:=a5.form (by omega);rw[hlen]at hvl;obtain⟨n,hn⟩:∃n,k+1=n:=⟨_,rfl⟩;rw[hn]at hvl hlen;have Q:=zC h;have HVL:Hid (C=.slice (some ⟨g,0,none⟩) e.ls.length P):=by show _=_;rw[hvl,hlen]
 have I:Hid (e.ls.length=n):=hlen;have a0:Hid (n<=1073741824):=by rw[<-hlen];exact ai
 obtain⟨i0,ah,am,an,ap⟩:=info_parts KS;have hX0:Below w.heap.size w (w.alloc (.cells (zJ f).toArray 97)):=(Below.refl _ _).alloc (Nat.le_refl _) _;have dr1:(w.alloc (.cells (zJ f).toArray 97)).drew.rangeAt w.heap.size 0 (zJ f):=VS w 97 60 _;have k124:=(hX0.cell (p:=⟨l,pz+124,none⟩) h.lt).trans (h.cl 124 (by omega));rw[y8,hvl]at k124;have d124:(w.alloc (.cells (zJ f).toArray 97)).drew.cell? ⟨l,pz+124,none⟩=some (.slice (some ⟨g,0,none⟩) n P):=k124
 have dr0:(w.alloc (.cells (zJ f).toArray 97)).drew.rangeAt g (k*62+2) (zJ J):=V9 λi hi=>by
  have h1:=own_below a5 hX0;rw[hvl,hlen]at h1;have h2:=h1.cellAt (k*62+2+i) (by omega);have h3:=QX e.ls k (2+i) (by omega) (by omega);have h4:e.ls[k]'(by omega)=y:=by simp[Y,<-hk]
  rw[h4,X7]at h3;rw[show k*62+2+i=k*62+(2+i) by omega,h3]at h2;rw[show k*62+2+i=k*62+(2+i) by omega];refine Eq.trans h2 ?_;rw[show 2+i=i+1+1 by omega];simp only[List.getElem?_cons_succ];rw[Qv hi,<-a4]
 have A:Tryz.prog.underlying 97=some (.array 60 4):=by kernel_rfl
 have gn:(n:Int)-1=(k:Int):=by omega
 have b3:(0:Int)<=(k:Int):=by omega
 have b4:(k:Int)<(n:Int):=by omega
 have b5:(k:Int)<=1073741824:=by omega
 have hXd:Below w.heap.size w (w.alloc (.cells (zJ f).toArray 97)).drew:=hX0.drew;have aq:Hid (a1.length=k/\k+1=n/\e.ls=a1++[y]/\C=.slice (some ⟨g,0,none⟩) n P):=⟨hk,hn,Y,hvl⟩;clear h a5 hk hn Y hvl ai hf a4 hlen hy;generalize hA:(zJ f).toArray=a2 at hX0 dr0 dr1 k124 d124 hXd |-;go_enter Tryz.func127,Tryz.ntmps127
 go_wp2_with fail;refine wp_region_noPanic ?_;refine wp_region_held_drew (S:=λE=>E.cell? ⟨l,pz+124,none⟩=some (.slice (some ⟨g,0,none⟩) n P)/\E.rangeAt g (k*62+2) (zJ J)/\E.rangeAt w.heap.size 0 (zJ f)) (by kernel_rfl) ⟨d124,dr0,dr1⟩ (λx=>?_);refine zI 0 (.int .i64 (k:Int)) rfl (by kernel_rfl) rfl (by assumption) ?_ ?_;.intro s d;obtain⟨q,r,z⟩:=d;go_simp
 try simp only[Act.put,zD,zF,zG]
 refine zI 1 (.bool true) rfl (by kernel_rfl) rfl (by assumption) ?_ ?_;.intro s d;obtain⟨q,r,z⟩:=d;go_simp
 try simp only[Act.put,zD,zF,zG]
 refine zI 2 (.bool true) rfl (by kernel_rfl) rfl (by assumption) ?_ ?_;.intro s d;obtain⟨q,r,z⟩:=d;go_simp
 try simp only[Act.put,zD,zF,zG]
 refine zI 3 (.pointer (some ⟨l,pz,none⟩)) rfl (by kernel_rfl) rfl (by assumption) ?_ ?_;.intro s d;obtain⟨q,r,z⟩:=d;go_simp
 try simp only[Act.put,zD,zF,zG]
 refine zI 4 (.pointer (some ⟨l,pz,none⟩)) rfl (by kernel_rfl) rfl (by assumption) ?_ ?_;.intro s d;obtain⟨q,r,z⟩:=d;go_simp
 try simp only[Act.put,zD,zF,zG]
 refine zI 5 (.pointer (some ⟨l,pz+124,none⟩)) rfl (by kernel_rfl) rfl (by assumption) ?_ ?_;.intro s d;obtain⟨q,r,z⟩:=d;go_simp
 try simp only[Act.put,zD,zF,zG]
 refine zI 6 (.slice (some ⟨g,0,none⟩) n P) rfl (by kernel_rfl) rfl (by assumption) ?_ ?_;.intro s d;obtain⟨q,r,z⟩:=d;go_simp
 try simp only[Act.put,zD,zF,zG]
 refine zI 7 (.int .i64 (k:Int)) rfl (by kernel_rfl) rfl (by assumption) ?_ ?_;.intro s d;obtain⟨q,r,z⟩:=d;go_simp
 try simp only[Act.put,zD,zF,zG]
 refine zI 8 (.pointer (some ⟨g,k*62,none⟩)) rfl (by kernel_rfl) rfl (by assumption) ?_ ?_;.intro s d;obtain⟨q,r,z⟩:=d;go_simp
 try simp only[Act.put,zD,zF,zG]
 refine zI 9 (.pointer (some ⟨g,k*62+2,none⟩)) rfl (by kernel_rfl) rfl (by assumption) ?_ ?_;.intro s d;obtain⟨q,r,z⟩:=d;go_simp
 try simp only[Act.put,zD,zF,zG]
 refine wpAnyH_take (i:=10) (oi:= ⟨some 21,.load 97 (.tmp 20),97,"end.go:159",#[⟨9,.data⟩,⟨2,.guard⟩],some (2,true)⟩) (v:=.agg (zJ J).toArray) rfl (by kernel_rfl) (by kernel_rfl) (by kernel_rfl) (λ_ _ _ h=>h) (yieldsIf_load_mid (by rfl) 97 (.tmp 20) rfl g (k*62+2) rfl (zJ J) (.array 60 4) (λ_ h=>h.2.1) A rfl (by rw[kQ];exact yR)) (by assumption) ?_;try simp only[Act.put,zD,zF,zG]
 refine wpAnyH_take (i:=11) (oi:= ⟨some 22,.load 97 (.tmp 3),97,"end.go:159",#[⟨2,.guard⟩],some (2,true)⟩) (v:=.agg (zJ f).toArray) rfl (by kernel_rfl) (by kernel_rfl) (by kernel_rfl) (λ_ _ _ h=>h) (yieldsIf_load_mid (by rfl) 97 (.tmp 3) rfl w.heap.size (0) rfl (zJ f) (.array 60 4) (λ_ h=>h.2.2) A rfl (by rw[kQ];exact yR)) (by assumption) ?_;try simp only[Act.put,zD,zF,zG]
 refine wpAnyH_take (i:=12) (oi:= ⟨some 23,.binOp BinOp.eql 97 (.tmp 21) (.tmp 22) 97,4,"end.go:159",#[⟨10,.data⟩,⟨11,.data⟩,⟨2,.guard⟩],some (2,true)⟩) (v:=.bool false) rfl (by kernel_rfl) (by kernel_rfl) (by kernel_rfl) (λ_ _ _ h=>h) (iW (by rfl) (.tmp 21) (.tmp 22) rfl rfl rfl HEQ.out) (by assumption) ?_;try simp only[Act.put,zD,zF,zG]
 refine zI 13 (.bool false) rfl (by kernel_rfl) rfl (by assumption) ?_ ?_;.intro s d;obtain⟨q,r,z⟩:=d;go_simp
 try simp only[Act.put,zD,zF,zG]
 refine wpAnyH_done (by kernel_rfl) (NoPanic.normal ?_) _;clear x;go_wp2_with fail;have hXB:Below w.heap.size w (w.alloc (.cells a2 97)).drew:=hXd;have hra:(w.alloc (.cells a2 97)).drew.rangeAt w.heap.size 0 (zJ f):=dr1;generalize(w.alloc (.cells a2 97)).drew=X at hXB hra |-;clear hX0 dr0 dr1 k124 d124 hXd hA aq;generalize(some (⟨g,0,none⟩:Addr))=U at HVL |-;generalize P=c at HVL |-;have D:Hid (Below w.heap.size w X):=hXB
 have c124:=(D.out.cell (p:=⟨l,pz+124,none⟩) Q.out.lt).trans (Q.out.cl 124 (by omega));have c122:=(D.out.cell (p:=⟨l,pz+122,none⟩) Q.out.lt).trans (Q.out.cl 122 (by omega));have ag:X.frozen? ⟨l,pz+124,none⟩=false:=(World.frozen?_of_block (D.out.block l Q.out.lt)).trans (Q.out.fz (pz+124));rw[y8,HVL.out,I.out]at c124;rw[y9,hm]at c122;have hown:=own_below Q.out.ld D.out;rw[HVL.out,I.out]at hown;have ac:Hid (X.drew.ownsRow B 241 62 (.slice U n c) n (qf e.ls)):=hown
 have d124:X.drew.cell? ⟨l,pz+124,none⟩=some (.slice U n c):=c124;have au:X.drew.cell? ⟨l,pz+122,none⟩=some (.int .i64 m):=c122;have av:X.drew.rangeAt w.heap.size 0 (zJ f):=hra;have af:X.drew.frozen? ⟨l,pz+124,none⟩=false:=ag;have G:l<X.drew.heap.size:=Nat.lt_of_lt_of_le Q.out.lt D.out.size;have M:some l≠(Value.slice U n c).ownBlock:=by rw[<-I.out,<-HVL.out];exact λe=>Q.out.ap.1 e.symm
 have hbL:=λW=>Wj (m:Int) f W;have hbS:=λW=>Wl (m:Int) f W;have hlen:((Value.int .i64 (m:Int)):: .int .i64 (m:Int)::zJ f).length=1*62:=by simp[kQ]
 have ak:∀u∈((Value.int .i64 (m:Int)):: .int .i64 (m:Int)::zJ f),u.oneCell'=true:=λu A=>by
  rcases List.mem_cons.1 A with rfl|A;.rfl
  rcases List.mem_cons.1 A with rfl|A;.rfl
  obtain⟨i,_,rfl⟩:=List.mem_map.1 A;rfl
 have hi:(Tryz.prog.info? 97).map (·.size)=some (zJ f).length:=by rw[kQ];exact yR
 have b6:(zJ f).length=60:=kQ f;have ax:B<=X.drew.heap.size:=Nat.le_trans Q.out.le D.out.size;have a7:=zC ax;clear c124 c122 hown ag hra hXB;generalize hL:(((Value.int .i64 (m:Int)):: .int .i64 (m:Int)::zJ f)).toArray=L at*;have HL:Hid ((((Value.int .i64 (m:Int)):: .int .i64 (m:Int)::zJ f)).toArray=L):=hL;clear hL;have ab:Hid (∀W:World,∀j u,L.toList[j]? =some u->(W.alloc (.cells L 241)).cell? ((⟨W.heap.size,0,none⟩:Addr).add j)=some u):=λW=>World.news_of_block (heap_alloc_new W _)
 have aj:L.toList.length=1*62:=by rw[<-HL.out];simpa using hlen
 have al:∀u∈L.toList,u.oneCell'=true:=by rw[<-HL.out];simpa using ak
 have Z:Hid (L.toList.length=1*62/\∀u∈L.toList,u.oneCell'=true):=⟨aj,al⟩;have ad:Hid ((Value.agg (jb ⟨0,0,0,0⟩).toArray).cells.size=62):=by show _=_;simp[Value.cells,Z9]
 have aa:Hid (some w.heap.size≠(Value.slice U n c).ownBlock):=by
  show _≠_;rw[<-I.out,<-HVL.out];exact λe'=>by have:=(Q.out.ld.lt _ e'.symm).2;omega
 have a8:Hid (l≠w.heap.size):=by have:=Q.out.lt;show _≠_;omega
 have a9:Hid (∀(F:World) (g P:Nat),(X.drew.alloc (.cells L 241)).grownBy F (Value.slice U n c).ownBlock->F.ownsRow B 241 62 (.slice (some ⟨g,0,none⟩) (n+1) P) (n+1) (qf e.ls++L.toList)->((Value.slice U n c).ownBlock=some g\/g=X.drew.heap.size+1)->KeepP pz Qz w (F.setCell ⟨l,pz+124,none⟩ (.slice (some ⟨g,0,none⟩) (n+1) P)) B l C vc e (.slice (some ⟨g,0,none⟩) (n+1) P) (e.ls++[⟨m,m,a,b⟩])):=by
  show∀F g P,_->_->_->_;intro F g P h1 h2 h3;have eL:L.toList=jb ⟨m,m,a,b⟩:=by rw[<-HL.out,X7,HF.out]
  rw[eL]at h2;have ev:Value.slice U n c=C:=by rw[HVL.out,I.out]
  rw[ev]at h1 h3;have bX:Below w.heap.size w (X.drew.alloc (.cells L 241)):=(D.out.drew).alloc D.out.size _;exact KeepP.grown Q.out bX h1 h2 I.out.symm (by rw[World.size_alloc];exact h3) rfl
 clear hlen ak aj al;refine wp_region_noPanic ?_;refine wp_region_held_drew (S:=λE=>E.cell? ⟨l,pz+122,none⟩=some (.int .i64 (m:Int))/\E.rangeAt w.heap.size 0 (zJ f)) (by kernel_rfl) ⟨au,av⟩ (λx=>?_);refine zI 0 (.pointer (some ⟨l,pz,none⟩)) rfl (by kernel_rfl) rfl (by assumption) ?_ ?_;.intro s d;obtain⟨q,r⟩:=d;go_simp
 try simp only[Act.put,zD,zF,zG]
 refine zI 1 (.pointer (some ⟨l,pz,none⟩)) rfl (by kernel_rfl) rfl (by assumption) ?_ ?_;.intro s d;obtain⟨q,r⟩:=d;go_simp
 try simp only[Act.put,zD,zF,zG]
 refine zI 2 (.pointer (some ⟨l,pz,none⟩)) rfl (by kernel_rfl) rfl (by assumption) ?_ ?_;.intro s d;obtain⟨q,r⟩:=d;go_simp
 try simp only[Act.put,zD,zF,zG]
 refine zI 3 (.pointer (some ⟨l,pz+124,none⟩)) rfl (by kernel_rfl) rfl (by assumption) ?_ ?_;.intro s d;obtain⟨q,r⟩:=d;go_simp
 try simp only[Act.put,zD,zF,zG]
 refine zI 5 (.pointer (some ⟨l,pz,none⟩)) rfl (by kernel_rfl) rfl (by assumption) ?_ ?_;.intro s d;obtain⟨q,r⟩:=d;go_simp
 try simp only[Act.put,zD,zF,zG]
 refine zI 6 (.pointer (some ⟨l,pz,none⟩)) rfl (by kernel_rfl) rfl (by assumption) ?_ ?_;.intro s d;obtain⟨q,r⟩:=d;go_simp
 try simp only[Act.put,zD,zF,zG]
 refine zI 7 (.pointer (some ⟨l,pz+122,none⟩)) rfl (by kernel_rfl) rfl (by assumption) ?_ ?_;.intro s d;obtain⟨q,r⟩:=d;go_simp
 try simp only[Act.put,zD,zF,zG]
 refine zI 8 (.int .i64 (m:Int)) rfl (by kernel_rfl) rfl (by assumption) ?_ ?_;.intro s d;obtain⟨q,r⟩:=d;go_simp
 try simp only[Act.put,zD,zF,zG]
 refine zI 9 (.pointer (some ⟨l,pz,none⟩)) rfl (by kernel_rfl) rfl (by assumption) ?_ ?_;.intro s d;obtain⟨q,r⟩:=d;go_simp
 try simp only[Act.put,zD,zF,zG]
 refine zI 10 (.pointer (some ⟨l,pz,none⟩)) rfl (by kernel_rfl) rfl (by assumption) ?_ ?_;.intro s d;obtain⟨q,r⟩:=d;go_simp
 try simp only[Act.put,zD,zF,zG]
 refine zI 11 (.pointer (some ⟨l,pz+122,none⟩)) rfl (by kernel_rfl) rfl (by assumption) ?_ ?_;.intro s d;obtain⟨q,r⟩:=d;go_simp
 try simp only[Act.put,zD,zF,zG]
 refine zI 12 (.int .i64 (m:Int)) rfl (by kernel_rfl) rfl (by assumption) ?_ ?_;.intro s d;obtain⟨q,r⟩:=d;go_simp
 try simp only[Act.put,zD,zF,zG]
 refine zI 13 (.agg #[.int .i64 (m:Int),.int .i64 (m:Int)]) rfl (by kernel_rfl) rfl (by assumption) ?_ ?_;.intro s d;obtain⟨q,r⟩:=d;go_simp
 try simp only[Act.put,zD,zF,zG]
 refine wpAnyH_take (i:=14) (oi:= ⟨some 51,.load 97 (.tmp 3),97,"end.go:163",#[],none⟩) (v:=.agg (zJ f).toArray) rfl (by kernel_rfl) (by kernel_rfl) (by kernel_rfl) (λ_ _ _ h=>h) (yieldsIf_load_mid (by rfl) 97 (.tmp 3) rfl w.heap.size 0 rfl (zJ f) (.array 60 4) (λ_ h=>h.2) A rfl hi) (by assumption) ?_;try simp only[Act.put,zD,zF,zG]
 refine wpAnyH_take (i:=15) (oi:= ⟨some 52,.build 241 #[(0,.tmp 50),(1,.tmp 51)],241,"end.go:163",#[⟨13,.data⟩,⟨14,.data⟩],none⟩) (v:=.agg L) rfl (by kernel_rfl) (by kernel_rfl) (by kernel_rfl) (λ_ _ _ h=>h) (iX (m:=(m:Int)) (f:=f) (by rfl) (.tmp 50) (.tmp 51) rfl rfl rfl hbL) (by assumption) ?_;try simp only[Act.put,zD,zF,zG]
 have ae:(X.drew.alloc (.cells L 241)).cell? ⟨l,pz+124,none⟩=some (.slice U n c):=(World.cell?_alloc_lt _ _ _ G).trans d124;have ar:(X.alloc (.cells L 241)).cell? ⟨l,pz+124,none⟩=some (.slice U n c):=ae;have N:l<(X.drew.alloc (.cells L 241)).heap.size:=by rw[World.size_alloc];omega
 refine wpAnyH_ready (rs:=[4,16]) (by kernel_rfl) (by simp) ?_;refine AllReadyH.cons (o:= ⟨some 41,.load 98 (.tmp 40),98,"end.go:163",#[⟨3,.data⟩],none⟩) rfl (λK t=>?_) (AllReadyH.cons (o:= ⟨some 53,.buildSlice 98 1 #[(0,.tmp 52)],98,"end.go:163",#[⟨15,.data⟩],none⟩) rfl (λK t=>?_) AllReadyH.nil)
 .clear ae ar;go_simp;refine t.out _ _ x (λx=>?_);clear t K;try simp only[Act.put,zD,zF,zG]
  refine wpAnyH_ready (rs:=[16]) (by kernel_rfl) (by simp) ?_;refine AllReadyH.cons (o:= ⟨some 53,.buildSlice 98 1 #[(0,.tmp 52)],98,"end.go:163",#[⟨15,.data⟩],none⟩) rfl (λK t=>?_) AllReadyH.nil;refine JH rfl (.tmp 52) rfl (by rfl) hbS ?_;refine t.out _ _ ⟨(World.cell?_alloc_lt _ _ _ G).trans x.1,World.rangeAt_alloc x.2 _⟩ (λx=>?_);clear t K;try simp only[Act.put,zD,zF,zG]
  refine wpAnyH_ready (rs:=[17]) (by kernel_rfl) (by simp) ?_;refine AllReadyH.cons (o:= ⟨some 54,.call {callee:=.builtin .append,args:=#[.tmp 41,.tmp 53],argTypes:=#[98,98]},98,"end.go:163",#[⟨4,.data⟩,⟨16,.data⟩],none⟩) rfl (λK t=>?_) AllReadyH.nil;refine step_append_lies _ (by rfl) (.tmp 41) (.tmp 53) 98 (by rfl) B 241 i0 _ 62 80 Tryz.underlying98 ah am an ap ad.out (by decide) (.slice U n c) n (qf e.ls) (by rfl) (ac.out.alloc _) ⟨X.drew.heap.size,0,none⟩ 1 1 L.toList (by rfl) Z.out.1 (ab.out _) Z.out.2 (by decide) (by have:=a0.out;unfold maxLen;omega) (by have:=a0.out;omega) (by rw[World.size_alloc];have:=a7.out;omega) (X.drew.heap.size+1) (by rw[World.size_alloc]) ?_
  intro g P F a6 V a3 b0;have aw:F.cell? ⟨l,pz+124,none⟩=some (.slice U n c):=(V.cell_far ⟨l,pz+124,none⟩ N M).trans ((World.cell?_alloc_lt _ _ _ G).trans d124);have gf:F.frozen? ⟨l,pz+124,none⟩=false:=(V.frozen_far ⟨l,pz+124,none⟩ N M).trans ((World.frozen?_alloc_past _ _ _ G).trans af);have O:F.cell? ⟨l,pz+122,none⟩=some (.int .i64 (m:Int)):=(V.cell_far ⟨l,pz+122,none⟩ N M).trans x.1;have R:F.rangeAt w.heap.size 0 (zJ f):=λj v H=>by
   have T:=x.2 j v H;exact(V.cell_far ⟨w.heap.size,0+j,none⟩ (World.block_lt_of_cell? _ _ T) aa.out).trans T
  refine t.out _ _ ⟨O,R⟩ (λx=>?_);clear t K;try simp only[Act.put,zD,zF,zG]
  refine zI 18 (.pointer (some ⟨l,pz,none⟩)) rfl (by kernel_rfl) rfl (by assumption) ?_ ?_;.intro s d;obtain⟨q,r⟩:=d;go_simp
  try simp only[Act.put,zD,zF,zG]
  refine zI 19 (.pointer (some ⟨l,pz+124,none⟩)) rfl (by kernel_rfl) rfl (by assumption) ?_ ?_;.intro s d;obtain⟨q,r⟩:=d;go_simp
  try simp only[Act.put,zD,zF,zG]
  refine wpAnyH_ready (rs:=[20]) (by kernel_rfl) (by simp) ?_;refine AllReadyH.cons (o:= ⟨none,.store 98 (.tmp 56) (.tmp 54),0,"end.go:163",#[⟨19,.data⟩,⟨17,.data⟩,⟨17,.chain⟩,⟨0,.phase⟩,⟨1,.phase⟩,⟨2,.phase⟩,⟨3,.phase⟩,⟨4,.phase⟩,⟨5,.phase⟩,⟨6,.phase⟩,⟨7,.phase⟩,⟨8,.phase⟩,⟨9,.phase⟩,⟨10,.phase⟩,⟨11,.phase⟩,⟨12,.phase⟩,⟨13,.phase⟩,⟨14,.phase⟩,⟨15,.phase⟩,⟨16,.phase⟩,⟨17,.phase⟩],none⟩) rfl (λK t=>?_) AllReadyH.nil
  go_simp;refine t.out _ _ ⟨(World.cell?_setCell_other _ _ _ _ (λe'=>by injection e' with _ e' _;omega)).trans O,λj v H=>(World.cell?_setCell_other _ _ _ _ (λe'=>by injection e' with e' _ _;exact a8.out e')).trans (R j v H)⟩ (λx=>?_);clear t K;refine wpAnyH_done (by kernel_rfl) (NoPanic.normal ?_) _;go_wp2_with fail;refine Go.Great.bodyPost_end0 rfl rfl ⟨rfl,_,a9.out F g P V a6 a3⟩
 refine JH rfl (.tmp 52) rfl (by rfl) hbS ?_;refine t.out _ _ ⟨(World.cell?_alloc_lt _ _ _ G).trans x.1,World.rangeAt_alloc x.2 _⟩ (λx=>?_);clear t K;try simp only[Act.put,zD,zF,zG]
 refine wpAnyH_ready (rs:=[4]) (by kernel_rfl) (by simp) ?_;refine AllReadyH.cons (o:= ⟨some 41,.load 98 (.tmp 40),98,"end.go:163",#[⟨3,.data⟩],none⟩) rfl (λK t=>?_) AllReadyH.nil;go_simp;refine t.out _ (X.drew.alloc (.cells L 241)) x (λx=>?_);clear t K;try simp only[Act.put,zD,zF,zG]
 refine wpAnyH_ready (rs:=[17]) (by kernel_rfl) (by simp) ?_;refine AllReadyH.cons (o:= ⟨some 54,.call {callee:=.builtin .append,args:=#[.tmp 41,.tmp 53],argTypes:=#[98,98]},98,"end.go:163",#[⟨4,.data⟩,⟨16,.data⟩],none⟩) rfl (λK t=>?_) AllReadyH.nil;refine step_append_lies _ (by rfl) (.tmp 41) (.tmp 53) 98 (by rfl) B 241 i0 _ 62 80 Tryz.underlying98 ah am an ap ad.out (by decide) (.slice U n c) n (qf e.ls) (by rfl) (ac.out.alloc _) ⟨X.drew.heap.size,0,none⟩ 1 1 L.toList (by rfl) Z.out.1 (ab.out _) Z.out.2 (by decide) (by have:=a0.out;unfold maxLen;omega) (by have:=a0.out;omega) (by rw[World.size_alloc];have:=a7.out;omega) (X.drew.heap.size+1) (by rw[World.size_alloc]) ?_
 intro g P F a6 V a3 b0;have aw:F.cell? ⟨l,pz+124,none⟩=some (.slice U n c):=(V.cell_far ⟨l,pz+124,none⟩ N M).trans ((World.cell?_alloc_lt _ _ _ G).trans d124);have gf:F.frozen? ⟨l,pz+124,none⟩=false:=(V.frozen_far ⟨l,pz+124,none⟩ N M).trans ((World.frozen?_alloc_past _ _ _ G).trans af);have O:F.cell? ⟨l,pz+122,none⟩=some (.int .i64 (m:Int)):=(V.cell_far ⟨l,pz+122,none⟩ N M).trans x.1;have R:F.rangeAt w.heap.size 0 (zJ f):=λj v H=>by
  have T:=x.2 j v H;exact(V.cell_far ⟨w.heap.size,0+j,none⟩ (World.block_lt_of_cell? _ _ T) aa.out).trans T
 refine t.out _ _ ⟨O,R⟩ (λx=>?_);clear t K;try simp only[Act.put,zD,zF,zG]
 refine zI 18 (.pointer (some ⟨l,pz,none⟩)) rfl (by kernel_rfl) rfl (by assumption) ?_ ?_;.intro s d;obtain⟨q,r⟩:=d;go_simp
 try simp only[Act.put,zD,zF,zG]
 refine zI 19 (.pointer (some ⟨l,pz+124,none⟩)) rfl (by kernel_rfl) rfl (by assumption) ?_ ?_;.intro s d;obtain⟨q,r⟩:=d;go_simp
 try simp only[Act.put,zD,zF,zG]
 refine wpAnyH_ready (rs:=[20]) (by kernel_rfl) (by simp) ?_;refine AllReadyH.cons (o:= ⟨none,.store 98 (.tmp 56) (.tmp 54),0,"end.go:163",#[⟨19,.data⟩,⟨17,.data⟩,⟨17,.chain⟩,⟨0,.phase⟩,⟨1,.phase⟩,⟨2,.phase⟩,⟨3,.phase⟩,⟨4,.phase⟩,⟨5,.phase⟩,⟨6,.phase⟩,⟨7,.phase⟩,⟨8,.phase⟩,⟨9,.phase⟩,⟨10,.phase⟩,⟨11,.phase⟩,⟨12,.phase⟩,⟨13,.phase⟩,⟨14,.phase⟩,⟨15,.phase⟩,⟨16,.phase⟩,⟨17,.phase⟩],none⟩) rfl (λK t=>?_) AllReadyH.nil
 go_simp;refine t.out _ _ ⟨(World.cell?_setCell_other _ _ _ _ (λe'=>by injection e' with _ e' _;omega)).trans O,λj v H=>(World.cell?_setCell_other _ _ _ _ (λe'=>by injection e' with e' _ _;exact a8.out e')).trans (R j v H)⟩ (λx=>?_);clear t K;refine wpAnyH_done (by kernel_rfl) (NoPanic.normal ?_) _;go_wp2_with fail;refine Go.Great.bodyPost_end0 rfl rfl ⟨rfl,_,a9.out F g P V a6 a3⟩
theorem Yt(c:EInv e):JZ pz Qz e:=λw B o C A h=>by
 have i:=dM c
 have j:=c.en60
 have g:e.ls.length<=1073741824:=by have:=c.ll;have:=c.m1;omega
 by_cases d:e.ls=[]
 .exact ziu d w B o C A h
 .obtain ⟨f,y,a⟩:∃f y,e.ls=f++[y]:=⟨e.ls.dropLast,e.ls.getLast d,(List.dropLast_concat_getLast d).symm⟩
  by_cases b:y.a=(pk e).1/\y.b=(pk e).2
  .have:=zix h (m:=e.m) rfl g a i.1 (by omega) b
   rw[a,zit b.1 b.2]
   exact this
  .have:=ziv h (m:=e.m) rfl g a i.1 (by omega) b
   rw[a,zir b]
   rw[a]at this
   exact this
end Go.Proofs.YtdokgalidhmbbaaGreatDoor.Ez
