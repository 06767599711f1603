/- What the law RunAnswers needs. -/
import Derived.Test.YtdokgalidhmbbaaGreatDoorHWF
import Derived.Test.YtdokgalidhmbbaaGreatDoorHWA
import Derived.Shelf.RegionOpen
set_option linter.unusedVariables false
set_option linter.unusedSimpArgs false
set_option maxRecDepth 100000
set_option maxHeartbeats 8000000
namespace Go.Proofs.YtdokgalidhmbbaaGreatDoor
namespace Rn
open Go.RowKit Go.Shelf
attribute [local go_sem] Oper.semAt_some
structure Al(w:World)(bv:Value):Prop where
 env:Env w bv
 hn:Hn w bv
 mx:∃m:Int,w.cell? ⟨2,0,none⟩=some (.int .i64 m)
 fm:V.Forms w/\Cnts w
variable {w:World}
theorem Al.below{E:World}{I:Value}(h:Al w I)(a:Below w.heap.size w E):Al E I:=by
 refine⟨h.env.below a h.env.low,h.hn.below a,?_,h.fm.1.below a,h.fm.2.below a⟩;obtain⟨m,e⟩:=h.mx;have:=h.env.low;exact⟨m,(a.cell (p:=⟨2,0,none⟩) (show 2<w.heap.size by omega)).trans e⟩
theorem zds{I:Value}(h:Al w I):Calls Tryz.prog 11 #[] w λe E=>∃d H D,e=.returned (.tuple #[.pointer (some ⟨d,0,none⟩),.nilIface])/\Ds w E I d H D vE (zQ 20)/\Below w.heap.size w E:=by
 have s:=ztd 20 w (by decide);have t:Hid (∀g,Calls Tryz.prog 31 #[] g λe E=>∃b,e=.returned (.map (some b))/\Ms g E b 9 wantsD):=zui;have i:=zC h;clear h;go_enter Tryz.func11,Tryz.ntmps11
 go_wp2_with (go_at_call 30;refine s.mono ?_);rintro e g ⟨H,rfl,q,j⟩;have u:=t.out g;go_wp2_with (go_at_call 31;refine u.mono ?_);rintro e a ⟨D,rfl,p,f,F⟩;go_wp2;go_ret2
 have l:Below a.heap.size a (a.alloc (.cells #[.pointer (some ⟨H,0,none⟩),.map (some D)] 72)):=(Below.refl _ a).alloc (Nat.le_refl _) _;have m:=(j.trans (f.mono j.size)).trans (l.mono (Nat.le_trans j.size f.size));have n:=i.out.below m;have x:D<a.heap.size:=by
  obtain⟨y,c,e,_⟩:=p;exact(Array.getElem?_eq_some_iff.1 e).1
 have r:∀k,qi H vE k->k=H:=λk v=>by
  rcases v with e|e|e|e|e|e;exact e;all_goals cases e
 have B:=q.lt;refine⟨a.heap.size,H,D,rfl,⟨⟨n.env,n.mx,vB _ _,Zj p (l.block _ x)⟩,(q.below f).below l,λe=>?_,λe=>?_,m,i.out.fm,i.out.env.low⟩,m⟩;have:=r _ e;have:=f.size;omega;have:=r _ e;omega
theorem zjt(s:ByteArray)(w:World):Calls Tryz.prog 12 #[.string s] w λe E=>e=.returned (.func (.func 32) #[] #[.pointer (some ⟨w.heap.size,0,none⟩)])/\E=w.alloc (.cells #[.string s] 9):=by
 go_enter Tryz.func12,Tryz.ntmps12
 go_wp2;go_ret;exact⟨rfl,rfl⟩
theorem zto(x:List UInt8)(a:x.length<=3000)(w:World):Cs 15 #[.string (str x),.string ⟨#[10]⟩] w (.string (str (xJ x))):=by
 have h:=Tryz.strings_TrimSuffix (str x) ⟨#[10]⟩ w (by rw[qW];omega);rw[qo]at h;exact h
variable {B k:Nat}{v:Value}
theorem Zr{e z n:Nat}{K:List Value}(h:w.ownsRow B e z v n K)(hv:v.ownBlock=some k):∃a,w.heap[k]? =some (.cells a e (0,0)):=by
 rcases h.2 with⟨rfl,_⟩|⟨g,c,a,rfl,_,b,_⟩;cases hv;obtain rfl:g=k:=by simpa[Value.ownBlock]using hv
 exact⟨a,b⟩
variable {H:Nat}{u:Tv}{s:Tt}
theorem gW(h:TO w B H u s)(d:qi H u k):k=H\/∃b t,w.heap[k]? =some (.cells b t (0,0))/\(t=241\/t=143\/t=212):=by
 rcases d with e|e|e|e|e|e;exact .inl e;obtain ⟨c,a⟩:=Zr h.la e;exact .inr ⟨c,_,a,by decide⟩;obtain ⟨c,a⟩:=Zr h.ca e;exact .inr ⟨c,_,a,by decide⟩;obtain ⟨c,a⟩:=Zr h.lb e;exact .inr ⟨c,_,a,by decide⟩;obtain ⟨c,a⟩:=Zr h.cb e;exact .inr ⟨c,_,a,by decide⟩;obtain ⟨c,a⟩:=Zr h.lv e;exact .inr ⟨c,_,a,by decide⟩
variable {S b:Nat}{l:List UInt8}
theorem yD(h:Bu w S b v l)(g:xm b v k):S<=k/\k<w.heap.size/\∃a t d,w.heap[k]? =some (.cells a t d)/\(t=39\/t=5):=by
 rcases g with rfl|e;refine ⟨h.hb,h.lt,?_⟩;rcases h.lies with e|e;exact ⟨_,_,_,e,.inl rfl⟩;exact ⟨_,_,_,e,.inl rfl⟩;obtain ⟨c,f⟩:=Zr h.row e;exact⟨(h.row.lt k e).1,(h.row.lt k e).2,_,_,_,f,.inr rfl⟩
theorem JM(h:TO w B H u s)(f:Bu w S b v l)(r:H<S)(g:qi H u k):¬xm b v k:=λi=>by
 obtain⟨p,q,j,t,n,a,c⟩:=yD f i
 rcases gW h g with rfl|⟨m,x,h5,d⟩
 .omega
 .rw [a]at h5
  injection h5 with h5
  injection h5 with _ e _
  rcases d with rfl|rfl|rfl<;>rcases c with rfl|rfl<;>exact absurd e (by decide)
theorem JN(h:TO w B H u s){o:Obj}(b:qi H u k)(i:H<k)(d:w.heap[k]? =some o)(hn:o.isCells=false\/∃c f,o=.cells c 9 f\/o=.cells c 31 f):False:=by
 rcases gW h b with rfl|⟨g,j,h5,a⟩;.omega
 rw [d]at h5;injection h5 with h5;subst h5;rcases hn with hn|⟨c,f,hn|hn⟩;cases hn;injection hn with _ e _;rcases a with rfl|rfl|rfl<;>exact absurd e (by decide)
 injection hn with _ e _;rcases a with rfl|rfl|rfl<;>exact absurd e (by decide)
theorem yY(h:Bu w S b v l){o:Obj}(d:xm b v k)(g:w.heap[k]? =some o)(hn:o.isCells=false\/∃c f,o=.cells c 9 f\/o=.cells c 31 f):False:=by
 obtain⟨m,n,i,t,j,h3,a⟩:=yD h d;rw[g]at h3;injection h3 with h3;subst h3;rcases hn with hn|⟨c,f,hn|hn⟩;cases hn;injection hn with _ e _;rcases a with rfl|rfl<;>exact absurd e (by decide)
 injection hn with _ e _;rcases a with rfl|rfl<;>exact absurd e (by decide)
variable {d D:Nat}
theorem Ds.off{K:Nat->Prop}{Y E:World}{I:Value}(h:Ds Y w I d H D u s)(a:Off K w E)(b:∀k,K k->Y.heap.size<=k)(c:¬K d)(f:¬K D)(g:∀k,qi H u k->¬K k):Ds Y E I d H D u s:=
 ⟨h.dk.off a (λk e=>Nat.le_trans h.low (b k e)) c f,h.tk.off a g,h.nd,h.nm,h.bel.trans (a.below b h.bel.size),h.fm,h.low⟩
theorem zb2(h:Bu w S b (.slice none 0 0) []):Calls Tryz.prog 17 #[.pointer (some ⟨b,0,none⟩)] w λe E=>e=.returned (.string ⟨#[]⟩)/\Off (xm b (.slice none 0 0)) w E:=by
 have a:w.drew.cell? ⟨b,1,none⟩=some (.slice none 0 0):=by
  rcases h.lies with e|e;rw [Lib.cell_of_heap (w:=w.drew) e];rfl;rw [Lib.cell_of_heap (w:=w.drew) e];rfl
 have c:(Builtin.unsafeSliceData_ #[37] 80 #[.slice none 0 0]).run Tryz.prog w.drew=.ok (.pointer none) w.drew:=rfl;have d:∀W,(Builtin.unsafeString_ #[80,3] 9 #[.pointer none,.int .i64 0]).run Tryz.prog W=.ok (.string ⟨#[]⟩) W:=λW=>by kernel_rfl
 clear h;go_enter Tryz.func17,Tryz.ntmps17
 go_wp2;go_region
 all_goals (go_wp2;go_ret;exact⟨rfl,(Off.refl _ w).drew⟩)
theorem zb3(h:Bu w S b v l)(d:l≠ []):Calls Tryz.prog 17 #[.pointer (some ⟨b,0,none⟩)] w λe E=>e=.returned (.string ⟨l.toArray⟩)/\Off (xm b v) w E:=by
 have s:l.length≠0:=by simpa using d
 obtain⟨g,a,c,rfl,U,n,V,i,m,t⟩:∃g a c,v=.slice (some ⟨g,0,none⟩) l.length a/\S<=g/\w.heap[g]? =some (.cells c 5 (0,0))/\l.length<=a/\a<=maxLen/\c.size=a*1/\c.toList.take (l.length*1)=Lib.byteCells l:=by
  rcases h.row.2 with⟨_,B⟩|⟨g,a,c,u,r⟩;exact absurd B s;exact ⟨g,a,c,u,r⟩
 have F:w.drew.cell? ⟨b,1,none⟩=some (.slice (some ⟨g,0,none⟩) l.length a):=by
  rcases h.lies with e|e;rw [Lib.cell_of_heap (w:=w.drew) e];rfl;rw [Lib.cell_of_heap (w:=w.drew) e];rfl
 have P:(Builtin.unsafeSliceData_ #[37] 80 #[.slice (some ⟨g,0,none⟩) l.length a]).run Tryz.prog w.drew=.ok (.pointer (some ⟨g,0,none⟩)) w.drew:=
  Lib.run_unsafeSliceData_row _ _ _ _ _ _ (by omega)
 have Q:(Builtin.unsafeString_ #[80,3] 9 #[.pointer (some ⟨g,0,none⟩),.int .i64 l.length]).run Tryz.prog w.drew=.ok (.string ⟨l.toArray⟩) (w.drew.freeze ⟨g,0,none⟩ l.length):=by
  refine Lib.run_unsafeString_row w.drew 80 3 9 5 Tryz.underlying80 (by kernel_rfl) g c.size (by have p:w.drew.heap[g]? =some (.cells c 5 (0,0)):=n;simp[World.shape?,p]) l d (by omega) (by unfold maxLen at i;omega) ?_;intro j x y;exact h.row.cells (g:=g) rfl j (.int .u8 x.toNat) (by simp[Lib.byteCells,y])
 have f:Hid (Off (xm b (.slice (some ⟨g,0,none⟩) l.length a)) w (w.drew.freeze ⟨g,0,none⟩ l.length)):=by
  unfold World.freeze;split;exact (Off.refl _ w).drew;refine ((Off.refl _ w).drew).trans ⟨rfl,rfl,rfl,by simp,λk _ q=>?_⟩;simp only[Array.getElem?_modify];rw[if_neg];intro e;exact q (.inr (congrArg some e))
 clear h m t;go_enter Tryz.func17,Tryz.ntmps17
 go_wp2;go_region
 all_goals (go_wp2;go_ret;exact⟨rfl,f.out⟩)
def Rl(w:World)(I:Value)(d H D B:Nat)(a:List (List UInt8))(W:World):Prop:=
 ∃u v,Ds w W I d H D u (xx a (zQ 20))/\Bu W B (B+1) v (jG a (zQ 20))/\W.heap[B]? =some (.cells #[.pointer (some ⟨d,0,none⟩)] 31 (0,0))/\(∀k,qi H u k\/xm (B+1) v k->k≠B+2/\k≠B+3/\k≠B+4)/\(a=[]->v=.slice none 0 0)
theorem Rl.off{W e:World}{I:Value}{g:List (List UInt8)}(h:Rl w I d H D B g W)(m:w.heap.size<=B)(n:d<B)(p:D<B)(c:Off (λk=>k=B+2\/k=B+3\/k=B+4) W e):Rl w I d H D B g e:=by
 obtain⟨u,v,i,j,f,b,l⟩:=h;exact⟨u,v,i.off c (λk a=>by omega) (by omega) (by omega) (λk a=>by have:=b k (.inl a);omega),j.off c (λk a=>by have:=b k (.inr a);omega),
  (c.block _ (Array.getElem?_eq_some_iff.1 f).1 (by omega)).trans f,b,l⟩
theorem zpt{W P g c:World}{I:Value}{F:Tv}{x:Tt}{E X:Value}{l' N:List UInt8}{r:ByteArray}{S T:Obj}(K:w.heap.size<=B)(hd:d<B)(hm:D<B)(t:H<B)
  (G:Ds w W I d H D u s) (Q:Bu W B (B+1) v l) (h3:W.heap[B]? =some (.cells #[.pointer (some ⟨d,0,none⟩)] 31 (0,0))) (J:∀k,qi H u k\/xm (B+1) v k->k≠B+2/\k≠B+3/\k≠B+4)
  (j:W.heap[B+2]? =some (.cells #[.string r] 9 (0,0))) (h:W.heap[B+3]? =some S) (A:S.isCells=false) (i:W.heap[B+4]? =some T) (C:T.isCells=false)
  (L:Ds w P I d H D F x) (q:Off (qi H u) W P) (hB3:Bu g B (B+1) E l') (U:Off (xm (B+1) v) P g) (n:Bu c B (B+1) X N) (V:Off (xm (B+1) E) g c):
  (∃u v,Ds w c I d H D u x/\Bu c B (B+1) v N/\c.heap[B]? =some (.cells #[.pointer (some ⟨d,0,none⟩)] 31 (0,0))/\∀k,qi H u k\/xm (B+1) v k->k≠B+2/\k≠B+3/\k≠B+4)/\
  ∀k,(k=B+2\/k=B+3\/k=B+4)->c.heap[k]? =W.heap[k]? :=by
 have m:Bu P B (B+1) v l:=Q.off q λk hk Z=>JM G.tk Q t Z hk;have f:∀ {o:Obj} {k:Nat},W.heap[k]? =some o->k<W.heap.size:=λe=>(Array.getElem?_eq_some_iff.1 e).1;have Y:∀k,k<W.heap.size->¬qi H u k->¬xm (B+1) v k->g.heap[k]? =W.heap[k]? :=λk hk a b=>
  (U.block k (Nat.lt_of_lt_of_le hk q.size) b).trans (q.block k hk a)
 have y:∀k,(k=B+2\/k=B+3\/k=B+4)->g.heap[k]? =W.heap[k]? :=λk hk=>by
  refine Y k ?_ (λe=>?_) (λe=>?_);rcases hk with rfl|rfl|rfl;exact f j;exact f h;exact f i;have:=J k (.inl e);omega;have:=J k (.inr e);omega
 have yB:g.heap[B]? =W.heap[B]? :=Y B (f h3) (λe=>JN G.tk e t h3 (.inr ⟨_,_,.inr rfl⟩)) (λe=>yY Q e h3 (.inr ⟨_,_,.inr rfl⟩));have R:∀k,xm (B+1) E k->k≠B/\k≠B+2/\k≠B+3/\k≠B+4:=λk hk=>by
  refine⟨?_,?_,?_,?_⟩;rintro rfl;exact yY hB3 hk (yB.trans h3) (.inr ⟨_,_,.inr rfl⟩);rintro rfl;exact yY hB3 hk ((y _ (.inl rfl)).trans j) (.inr ⟨_,_,.inl rfl⟩);rintro rfl;exact yY hB3 hk ((y _ (.inr (.inl rfl))).trans h) (.inl A);rintro rfl;exact yY hB3 hk ((y _ (.inr (.inr rfl))).trans i) (.inl C)
 have O:∀k,k<W.heap.size->k<g.heap.size:=λk hk=>Nat.lt_of_lt_of_le hk (Nat.le_trans q.size U.size);have z:∀k,(k=B+2\/k=B+3\/k=B+4)->c.heap[k]? =W.heap[k]? :=λk hk=>by
  refine(V.block k (O k ?_) (λe=>?_)).trans (y k hk);rcases hk with rfl|rfl|rfl;exact f j;exact f h;exact f i;have:=R k e;omega
 have zB:c.heap[B]? =W.heap[B]? :=(V.block B (O B (f h3)) (λe=>(R B e).1 rfl)).trans yB;have M:Ds w g I d H D F x:=L.off U (λk hk=>Nat.le_trans K (yD m hk).1) (λe=>by have:=(yD m e).1;omega) (λe=>by have:=(yD m e).1;omega) (λk hk=>JM L.tk m t hk);have p:Ds w c I d H D F x:=M.off V (λk hk=>Nat.le_trans K (yD hB3 hk).1) (λe=>by have:=(yD hB3 e).1;omega) (λe=>by have:=(yD hB3 e).1;omega) (λk hk=>JM M.tk hB3 t hk)
 refine⟨⟨F,X,p,n,zB.trans h3,λk hk=>?_⟩,z⟩;rcases hk with hk|hk;refine ⟨?_,?_,?_⟩;rintro rfl;exact JN p.tk hk (by omega) ((z _ (.inl rfl)).trans j) (.inr ⟨_,_,.inl rfl⟩);rintro rfl;exact JN p.tk hk (by omega) ((z _ (.inr (.inl rfl))).trans h) (.inl A);rintro rfl;exact JN p.tk hk (by omega) ((z _ (.inr (.inr rfl))).trans i) (.inl C);refine ⟨?_,?_,?_⟩;rintro rfl;exact yY n hk ((z _ (.inl rfl)).trans j) (.inr ⟨_,_,.inl rfl⟩);rintro rfl;exact yY n hk ((z _ (.inr (.inl rfl))).trans h) (.inl A);rintro rfl;exact yY n hk ((z _ (.inr (.inr rfl))).trans i) (.inl C)
theorem zdh(x:List UInt8):(xJ x).length<=x.length:=by
 unfold xJ Lib.trimSuffix;split;rw [List.length_take];omega;exact Nat.le_refl _
theorem Few.start:Few 0 (zQ 20):=⟨Nat.le_refl _,Nat.le_refl _⟩
end Rn
end Go.Proofs.YtdokgalidhmbbaaGreatDoor
namespace Go.Proofs.YtdokgalidhmbbaaGreatDoor
namespace Rn
open Go.RowKit Go.Shelf
attribute [local go_sem] Oper.semAt_some
theorem zqy(t:List UInt8)(h:3000<t.length)(c:t.length<=9223372036854775807)(w:World):Cl 6 #[.string (str t)] w (.string (str (wM t))):=by
 have a:str (wM t)=⟨#[116,111,111,32,108,111,110,103,10]⟩:=by unfold wM;rw[if_pos h];rfl
 have b:(str t).size=t.length:=qW t;rw[a];generalize str t=s at b |-;have g:(3000:Int)<(s.size:Int):=by omega
 refine(callsIn_wide (n:=5)).1 ?_;refine callsIn_of_wp_marks Tryz.func6 rfl trivial ?_ rfl;simp only[Tryz.ntmps6,List.size_toArray,List.length_cons,List.length_nil,Nat.reduceAdd,Nat.reduceSub,Array.replicate_succ,Array.replicate_zero,List.push_toArray,List.append_toArray,List.nil_append,List.cons_append];gi_wp2;exact⟨_,results_tmp rfl _ _ _,rfl,Below.refl _ _⟩
theorem zqz(t:List UInt8)(h:t.length<=3000){w:World}{I:Value}(J:Al w I):Cl 6 #[.string (str t)] w (.string (str (wM t))):=by
 have e1:wM t=jG (qJ t) (zQ 20):=by unfold wM;rw[if_neg (by omega)]
 have hz:(str t).size=t.length:=qW t;rw[e1];have g:¬(3000:Int)<((str t).size:Int):=by omega
 refine(callsIn_wide (n:=5)).1 ?_;have ap:Fence.wide.fn 11:=trivial;have aq:Fence.wide.fn 12:=trivial;refine callsIn_of_wp_marks Tryz.func6 rfl trivial ?_ rfl;simp only[Tryz.ntmps6,List.size_toArray,List.length_cons,List.length_nil,Nat.reduceAdd,Nat.reduceSub,Array.replicate_succ,Array.replicate_zero,List.push_toArray,List.append_toArray,List.nil_append,List.cons_append];gi_wp2_with (first|(gi_at_call 11;refine(callsIn_wide.2 (zds J)).mono ?_;rintro e c ⟨d,H,D,rfl,B,T⟩)|(gi_at_call 12;refine(callsIn_wide.2 (zjt _ _)).mono ?_;rintro e E ⟨rfl,rfl⟩))
 have X:=T.size;have ad:=B.tk.lt;have ab:=B.dk.d_lt;have ac:=B.dk.mb_lt;obtain⟨j,F⟩:∃j,(((c.alloc (.cells #[.pointer (some ⟨d,0,none⟩)] 31)).alloc (.cells #[.pointer none,.slice none 0 0] 39)).alloc (.cells #[.string (str t)] 9))=j:=⟨_,rfl⟩;have Y:j.heap.size=c.heap.size+3:=by rw[<-F];simp
 have S:Below c.heap.size c j:=by rw[<-F];exact(((Below.refl _ c).alloc (Nat.le_refl _) _).alloc (by simp) _).alloc (by simp<;>omega) _
 have Z:j.heap[c.heap.size]? =some (.cells #[.pointer (some ⟨d,0,none⟩)] 31):=by
  rw[<-F];exact(Z4 _ _ (by simp<;>omega)).trans ((Z4 _ _ (by simp)).trans (vB _ _))
 have k1:j.heap[c.heap.size+1]? =some (.cells #[.pointer none,.slice none 0 0] 39):=by
  rw[<-F];have:=vB (c.alloc (.cells #[.pointer (some ⟨d,0,none⟩)] 31)) (.cells #[.pointer none,.slice none 0 0] 39);rw[World.size_alloc]at this;exact(Z4 _ _ (by simp)).trans this
 have k2:j.heap[c.heap.size+2]? =some (.cells #[.string (str t)] 9):=by
  rw[<-F];have:=vB ((c.alloc (.cells #[.pointer (some ⟨d,0,none⟩)] 31)).alloc (.cells #[.pointer none,.slice none 0 0] 39)) (.cells #[.string (str t)] 9);rw[World.size_alloc,World.size_alloc]at this;exact this
 have R:Rl w I d H D c.heap.size [] j:=by
  refine⟨vE,.slice none 0 0,B.below S,⟨Nat.le_succ _,.inl k1,World.ownsRow_nil _ _ _ _,by simp[Value.ownBlock]⟩,Z,λk i=>?_,λ_=>rfl⟩;rcases i with i|i;have:=(B.tk.own_lt i).2;omega;rcases i with i|i;.omega
  cases i
 rw[F];clear F
 refine zuz rfl (by decide) (bx:=c.heap.size+2) rfl trivial (enters_of Tryz.func32 (by kernel_rfl) rfl) (zju (5-1) (c.heap.size+2) (by decide) t h) rfl k2 (Rl w I d H D c.heap.size) ?hI R
  (λx=>{tmps:=#[.string (str t),undef,.string {data:=#[]},.pointer (some ⟨c.heap.size,0,none⟩),.nilIface,.pointer (some ⟨c.heap.size+1,0,none⟩),.string (str x),.string (str t),.int .i64 t.length,.bool (decide ((3000:Int)<t.length)),
   .tuple #[.pointer (some ⟨d,0,none⟩),.nilIface],.tuple #[.pointer (some ⟨d,0,none⟩),.nilIface],.pointer (some ⟨d,0,none⟩),.nilIface,.nilIface,.bool false,.string (str t),.func (.func 32) #[] #[.pointer (some ⟨c.heap.size+1+1,0,none⟩)],.string (str x),undef,undef,undef,undef,undef,undef,undef],defers:=[]}) ?assign ?body ?done
 case hI=>
  intro f W W' O P;exact O.off X ab ac (P.mono λk _ i=>by omega)
 case assign=>
  intro l x W K C;gi_wp2;exact C
 case body=>
  rintro l f x b8 W V ⟨u,v,h1,h2,U,A,_⟩ ⟨r,hr⟩ ⟨o1,ho1,a9⟩ ⟨o2,ho2,aa⟩;rw[Y]at ho1 ho2;have ao:x∈qJ t:=by rw[V];simp
  have b7:=zj5 t ao;have b5:f.length+1<=3000:=by
   have:=zj4 t;rw[V]at this;simp at this;omega
  have hf:Few f.length (xx f (zQ 20)):=by
   have:=Few.ses f Few.start;rwa[Nat.zero_add]at this
  have ay:=fZ f (zQ 20);have HN:Hid (jG (f++[x]) (zQ 20)=(jG f (zQ 20)++(str (zl (xJ x) (xx f (zQ 20))).1).data.toList)++[10]/\xx (f++[x]) (zQ 20)=(zl (xJ x) (xx f (zQ 20))).2):=by
   refine⟨?_,?_⟩;rw [fU,(gB _ _).1,qo,List.append_assoc];rw [fT,(gB _ _).2]
  have au:=QY (xJ x) (xx f (zQ 20));have hD1:Ds w W.drew I d H D u (xx f (zQ 20)):=h1.below (Below.refl _ _).drew;have HT:=zto x (by omega) W.drew;have HA:=za2 hD1 J.hn (K:=f.length) (by omega) hf (xJ x) (by have:=zdh x;omega);have b6:(str (zl (xJ x) (xx f (zQ 20))).1).size=(zl (xJ x) (xx f (zQ 20))).1.length:=qW _;generalize av:(zl (xJ x) (xx f (zQ 20))).1=ax at*;generalize(zl (xJ x) (xx f (zQ 20))).2=s2 at*
  generalize xx f (zQ 20)=s at*;generalize jG f (zQ 20)=G at*;have a7:c.heap.size<=W.heap.size:=by have:=(Array.getElem?_eq_some_iff.1 U).1;omega
  generalize str ax=y at*;have HB:Hid (∀m,Off (qi H u) W.drew m->Calls Tryz.prog 13 #[.pointer (some ⟨c.heap.size+1,0,none⟩),.string y] m λe E=>e=.returned (.tuple #[.int .i64 y.size,.nilIface])/\∃q,Bu E c.heap.size (c.heap.size+1) q (G++y.data.toList)/\Off (xm (c.heap.size+1) v) m E):=λm P=>
   zb1 ((h2.off (Off.refl (λ_=>False) W).drew (λ_ _=>id)).off P λk i hT=>JM h1.tk h2 ad hT i) y (by omega) (Nat.le_trans a7 P.size)
  have HC:Hid (∀p q,Bu p c.heap.size (c.heap.size+1) q (G++y.data.toList)->c.heap.size<=p.heap.size->Calls Tryz.prog 16 #[.pointer (some ⟨c.heap.size+1,0,none⟩),.int .u8 10] p λe E=>e=.returned .nilIface/\∃o,Bu E c.heap.size (c.heap.size+1) o ((G++y.data.toList)++[10])/\Off (xm (c.heap.size+1) q) p E):=λp q L hs=>
   zbp L 10 (by rw[List.length_append,<-Lib.size_eq];omega) hs
  have cB:W.drew.cell? ⟨c.heap.size,0,none⟩=some (.pointer (some ⟨d,0,none⟩)):=by rw[Lib.cell_of_heap (w:=W.drew) U];rfl
  have HS:Hid (∀m p z M q o,Ds w m I d H D M s2->Off (qi H u) W.drew m->Bu p c.heap.size (c.heap.size+1) q (G++y.data.toList)->Off (xm (c.heap.size+1) v) m p->Bu z c.heap.size (c.heap.size+1) o ((G++y.data.toList)++[10])->Off (xm (c.heap.size+1) q) p z->
    WI (Rl w I d H D c.heap.size) j.heap.size (c.heap.size+2) (f++[x]) W .normal {tmps:=#[],defers:=[]} z):=by
   show∀m p z M q o,_
   intro m p z M q o a1 a2 a3 a4 a5 a6
   obtain⟨g1,g2⟩:=zpt X ab ac ad h1 h2 U A hr ho1 a9 ho2 aa a1 (((Off.refl _ W).drew).trans a2) a3 a4 a5 a6
   refine⟨rfl,?_,λk i=>g2 k (by rw[Y]at i;omega)⟩
   unfold Rl
   rw[HN.out.1,HN.out.2]
   obtain⟨u',v0,b1,b2,b3,b4⟩:=g1
   exact⟨u',v0,b1,b2,b3,b4,λe=>by simp at e⟩
  have az:Tryz.prog.follows .mixedOrders=true:=by kernel_rfl
  have bb:Fence.wide.fn 15:=trivial;have ba:Fence.wide.fn 14:=trivial;have b9:Fence.wide.fn 13:=trivial;have bc:Fence.wide.fn 16:=trivial;clear hD1 h1 h2 U A hr ho1 a9 ho2 aa hf HN Z k1 k2 R S B J T;have b0:1<=5-1-1:=by decide
  gi_wp2;gi_region_with_o (first|(gi_at_call 15;refine(CallsIn.inRound l (callsIn_wide.2 HT)).mono ?_;rintro e m ⟨rfl,an⟩;obtain rfl:=an.symm)|(gi_at_call 14;refine(CallsIn.inRound l (callsIn_wide.2 HA)).mono ?_;rintro e m ⟨rfl,M,ah,N,aw⟩;have ae:=HB.out m N)|(gi_at_call 13;refine(CallsIn.inRound l (callsIn_wide.2 ae)).mono ?_;rintro e p ⟨rfl,q,a0,a8⟩))
  all_goals have af:=HC.out p q a0 (Nat.le_trans a7 (Nat.le_trans N.size a8.size))
  all_goals gi_wp2_with (gi_at_call 16;refine(CallsIn.inRound l (callsIn_wide.2 af)).mono ?_;rintro e z ⟨rfl,o,ag,aj⟩)
  all_goals exact HS.out _ _ _ _ _ _ ah N a0 a8 ag aj
 case done=>
  intro W O C;obtain⟨u,v,h1,h2,U,A,h5⟩:=O;have HB:Calls Tryz.prog 17 #[.pointer (some ⟨c.heap.size+1,0,none⟩)] W λe E=>e=.returned (.string ⟨(jG (qJ t) (zQ 20)).toArray⟩)/\Off (xm (c.heap.size+1) v) W E:=by
   by_cases V:qJ t=[];obtain rfl:=h5 V;rw[V]at h2 |-;exact zb2 h2;refine zb3 h2 λe=>?_;cases hl:qJ t with
   |nil=>exact V hl
   |cons a b=>rw[hl,jG]at e;simp at e
  have ai:j.heap.size<W.heap.size:=(Array.getElem?_eq_some_iff.1 C).1;have ar:Fence.wide.fn 17:=trivial;have hE:Hid (str (jG (qJ t) (zQ 20))=ByteArray.mk (jG (qJ t) (zQ 20)).toArray):=rfl;have hBl:Hid (∀Q,Off (xm (c.heap.size+1) v) W Q->Below w.heap.size w (Q.putObj j.heap.size (.deferred none))/\Q.heap[j.heap.size]? =some (.deferred (some []))):=by
   show∀Q,_;intro Q P;refine⟨?_,(P.block _ ai λe=>?_).trans C⟩;have L:=h1.bel.trans (P.below (λk i=>Nat.le_trans X (yD h2 i).1) (by omega));exact L.trans ((Xl (K:=λk=>k=j.heap.size) rfl _).below (λk e=>by omega) L.size);have:=A _ (.inr e);omega
  generalize ByteArray.mk (jG (qJ t) (zQ 20)).toArray=sr at*;rw[Y]at hBl;clear B J T S Z k1 k2 R h1 h2 U A h5 C;gi_wp2_with (gi_at_call 17;refine(callsIn_wide.2 HB).mono ?_;rintro e Q ⟨rfl,ak⟩);obtain⟨al,am⟩:=hBl.out Q ak;refine⟨by simp,.inl ⟨_,_,rfl,run_takeDeferred am,?_⟩⟩;exact⟨_,results_tmp rfl _ _ _,by rw[hE.out];rfl,al⟩
theorem Vd(s:ByteArray)(c:s.size<=9223372036854775807){w:World}{I:Value}(a:Al w I):Cl 6 #[.string s] w (.string (str (wM s.data.toList))):=by
 have h:=Lib.size_eq s;by_cases b:s.data.toList.length<=3000;have:=zqz s.data.toList b a;rwa[kK]at this;have:=zqy s.data.toList (by omega) (by omega) w;rwa[kK]at this
end Rn
end Go.Proofs.YtdokgalidhmbbaaGreatDoor
namespace Go.Proofs.YtdokgalidhmbbaaGreatDoor
namespace Rn
open Go.RowKit
theorem YK:∀n:Nat,n<10->(([48,49,50,51,52,53,54,55,56,57]:List UInt8).drop n).take (n+1-n)=zT n:=by decide+kernel
theorem Jl(n:Nat)(h:n<10)(w:World):Cs 10 #[.int .i64 (n:Int)] w (.string (str (zT n))):=by
 have a:∀W,(Instr.slice 9 (.string ⟨#[48,49,50,51,52,53,54,55,56,57]⟩) (some (.int .i64 (n:Int))) (some (.int .i64 ((n:Int)+1))) none).run Tryz.prog W=.ok (.string (str (zT n))) W:=λW=>by
  have:=Vm (str [48,49,50,51,52,53,54,55,56,57]) n (n+1) (by omega) (by rw[qW];simp;omega) (by rw[qW];decide) W;rw[Vp,YK n h]at this;exact this
 have g:(n:Int)<10:=by omega
 generalize str (zT n)=d at*;go_enter Tryz.func10,Tryz.ntmps10
 go_wp2;go_ret;exact⟨rfl,rfl⟩
theorem vJ(a b:List UInt8):str a++str b=str (a++b):=by
 apply yZ;rw[qo];simp[str]
theorem Zq{w:World}{B n:Nat}{v:Value}{X:List (List UInt8)}(h:w.ownsRow B 9 1 v n (vals X))(f:0<n):∃g a,v=.slice (some ⟨g,0,none⟩) n a/\∀(j:Nat) p,X[j]? =some p->w.cell? ⟨g,j,none⟩=some (.string (str p)):=by
 rcases h.2 with⟨_,k⟩|⟨g,a,e,rfl,_,b,i,_,_,d⟩;.omega
 refine ⟨g,a,rfl,λj p c=>?_⟩;rw[Lib.cell_of_heap b];have h1:(vals X)[j]? =some (.string (str p)):=by unfold vals;rw[List.getElem?_map,c];rfl
 rw[<-d,Nat.mul_one,List.getElem?_take]at h1;split at h1;rw [<-Array.getElem?_toList];exact h1;cases h1
end Rn
end Go.Proofs.YtdokgalidhmbbaaGreatDoor
namespace Go.Proofs.YtdokgalidhmbbaaGreatDoor
namespace Rn
open Go.RowKit
theorem zeb(n:Nat)(h:n<10):∀W,(Instr.slice 9 (.string ⟨#[48,49,50,51,52,53,54,55,56,57]⟩) (some (.int .i64 (n:Int))) (some (.int .i64 ((n:Int)+1))) none).run Tryz.prog W=.ok (.string (str (zT n))) W:=λW=>by
 have:=Vm (str [48,49,50,51,52,53,54,55,56,57]) n (n+1) (by omega) (by rw[qW];simp;omega) (by rw[qW];decide) W
 rw[Vp,YK n h]at this
 exact this
theorem zea(n:Nat)(h:10<=n)(b:n<1000):zT n=zT (n/10)++zT (n%10):=by
 unfold zT;rw[if_neg (by omega),if_pos (show n%10<10 by omega)];by_cases a:n<100;rw [if_pos a,if_pos (by omega)];rfl;rw [if_neg a,if_pos b,if_neg (by omega),if_pos (by omega),show n/10/10=n/100 by omega];rfl
theorem Jm(n:Nat)(h:10<=n)(c:n<1000)(HD:∀w,Cs 10 #[.int .i64 ((n/10:Nat):Int)] w (.string (str (zT (n/10)))))(w:World):
  Cs 10 #[.int .i64 (n:Int)] w (.string (str (zT n))):=by
 have l:=zeb (n%10) (by omega);have i:Int.tmod (n:Int) 10=((n%10:Nat):Int):=by rw[Int.tmod_eq_emod_of_nonneg (by omega)];omega
 have j:Int.tdiv (n:Int) 10=((n/10:Nat):Int):=by rw[Int.tdiv_eq_ediv_of_nonneg (by omega)];omega
 have k:str (zT (n/10))++str (zT (n%10))=str (zT n):=by rw[vJ,<-zea n h c]
 have z:(str (zT (n/10))).size<=4/\(str (zT (n%10))).size<=4:=by rw[qW,qW];exact⟨kU _,kU _⟩
 obtain⟨r,s⟩:=z;have g:¬(n:Int)<10:=by omega
 have q:wrap64 ((n/10:Nat):Int)=((n/10:Nat):Int):=by unfold wrap64;omega
 have m:((n%10:Nat):Int)<10:=by omega
 generalize n%10=a at*;generalize n/10=b at*;generalize str (zT a)=d at*;generalize str (zT b)=f at*;go_enter Tryz.func10,Tryz.ntmps10
 go_wp2_with fail;refine(HD _).mono ?_;rintro e p ⟨rfl,rfl⟩;go_wp2_with fail;go_ret;exact⟨rfl,rfl⟩
theorem QL(n:Nat)(h:n<1000):∀(w:World),Cs 10 #[.int .i64 (n:Int)] w (.string (str (zT n))):=by
 intro w;by_cases a:n<10;exact Jl n a w;by_cases b:n<100;exact Jm n (by omega) h (λw=>Jl _ (by omega) w) w;exact Jm n (by omega) h (λw=>Jm _ (by omega) (by omega) (λw=>Jl _ (by omega) w) w) w
theorem fE(n:Nat)(h:n<9)(w:World):Cl 20 #[.int .i64 (n:Int)] w (.string (str (qZ n))):=by
 obtain rfl|rfl|rfl|rfl|rfl|rfl|rfl|rfl|rfl:n=0\/n=1\/n=2\/n=3\/n=4\/n=5\/n=6\/n=7\/n=8:=by omega
 all_goals
  go_enter Tryz.func20,Tryz.ntmps20
  go_wp2_with fail
  go_ret
  exact⟨rfl,(Below.refl _ _).alloc (Nat.le_refl _) _⟩
theorem zef(n:Nat)(h:n<9)(w:World):Cl 21 #[.int .i64 (n:Int)] w (.string (str (if(n:Int)=0 then okL else qZ n))):=by
 by_cases a:n=0
 .subst a;go_enter Tryz.func21,Tryz.ntmps21
  go_wp2_with fail;go_ret;exact⟨rfl,Below.refl _ _⟩
 have HN:=fE n h;have g:((n:Int) !=0)=true:=by simp;omega
 rw[if_neg (by omega)];generalize str (qZ n)=q at*;go_enter Tryz.func21,Tryz.ntmps21
 go_wp2_with (go_at_call 20;refine(HN _).mono ?_;rintro e c ⟨rfl,b⟩);go_ret;exact⟨rfl,b⟩
end Rn
end Go.Proofs.YtdokgalidhmbbaaGreatDoor
namespace Go.Proofs.YtdokgalidhmbbaaGreatDoor
namespace Rn
open Go.RowKit
def jN(l:List UInt8):Int:=l.foldl (λa c=>a*10+(c.toNat:Int)-48) 0
theorem zac(l:List UInt8)(k:Nat)(a:k<l.length):jN (l.take (k+1))=jN (l.take k)*10+(l[k].toNat:Int)-48:=by
 unfold jN;rw[List.take_succ_eq_append_getElem a,List.foldl_append];rfl
theorem zbo{l:List UInt8}{k:Nat}(a:k<l.length):Sx.zP (str l) k=(l[k].toNat:Int):=(Qr a l[k]).2 (List.getElem?_eq_getElem a)
theorem zkz:∀(l:List UInt8),l≠ []->l.length<=4->¬(l[0]? =some 48/\1<l.length)->(∀c∈l,xu c=true)->zV l=some (jN l)
 |[],h,_,_,_=>absurd rfl h
 |[a],_,_,_,f=>by
  rw[zV,if_pos (f a (by simp))]
  congr 1
  simp[jN]
 |[a,b],_,_,g,f=>by
  rw[zV,if_pos ⟨λe=>g ⟨by rw[e];rfl,by simp⟩,f a (by simp),f b (by simp)⟩]
  congr 1
  simp only[jN,List.foldl]
  omega
 |[a,b,c],_,_,g,f=>by
  rw[zV,if_pos ⟨λe=>g ⟨by rw[e];rfl,by simp⟩,f a (by simp),f b (by simp),f c (by simp)⟩]
  congr 1
  simp only[jN,List.foldl]
  omega
 |[a,b,c,d],_,_,g,f=>by
  rw[zV,if_pos ⟨λe=>g ⟨by rw[e];rfl,by simp⟩,f a (by simp),f b (by simp),f c (by simp),f d (by simp)⟩]
  congr 1
  simp only[jN,List.foldl]
  omega
 |_::_::_::_::_::_,_,h,_,_=>by simp at h
theorem zk0:∀(l:List UInt8),(l=[]\/4<l.length\/(l[0]? =some 48/\1<l.length)\/∃c∈l,xu c=false)->zV l=none
 |[],_=>rfl
 |[a],h=>by
  rcases h with h|h|h|⟨c,hc,h⟩
  .cases h
  .simp at h
  .simp at h
  .simp at hc
   subst hc
   rw[zV,if_neg (by rw[h];decide)]
 |[a,b],h=>by
  rcases h with h|h|h|⟨c,hc,h⟩
  .cases h
  .simp at h
  .rw [zV,if_neg (λe=>e.1 (by simpa using h.1))]
  .simp at hc
   rw[zV,if_neg (by rintro⟨_,d,f⟩;rcases hc with rfl|rfl<;>simp_all)]
 |[a,b,x],h=>by
  rcases h with h|h|h|⟨c,hc,h⟩
  .cases h
  .simp at h
  .rw [zV,if_neg (λe=>e.1 (by simpa using h.1))]
  .simp at hc
   rw[zV,if_neg (by rintro⟨_,d,f,g⟩;rcases hc with rfl|rfl|rfl<;>simp_all)]
 |[a,b,x,y],h=>by
  rcases h with h|h|h|⟨c,hc,h⟩
  .cases h
  .simp at h
  .rw [zV,if_neg (λe=>e.1 (by simpa using h.1))]
  .simp at hc
   rw[zV,if_neg (by rintro⟨_,d,f,g,i⟩;rcases hc with rfl|rfl|rfl|rfl<;>simp_all)]
 |_::_::_::_::_::_,_=>rfl
def NumE(l:List UInt8)(e:Ending):Prop:=e=.returned (.tuple #[.int .i64 ((zV l).getD 0),.bool (zV l).isSome])
theorem NumE.bad{l:List UInt8}(h:l=[]\/4<l.length\/(l[0]? =some 48/\1<l.length)\/∃c∈l,xu c=false):NumE l (.returned (.tuple #[.int .i64 0,.bool false])):=by
 unfold NumE;rw[zk0 l h];rfl
theorem zk3(w:World):Calls Tryz.prog 19 #[.string (str [])] w λe E=>NumE [] e/\E=w:=by
 have a:str []=⟨#[]⟩:=rfl;rw[a];go_enter Tryz.func19,Tryz.ntmps19
 go_wp2_with fail;go_ret2
 exact⟨NumE.bad (.inl rfl),rfl⟩
theorem zk4(l:List UInt8)(b:0<l.length)(r:l.length<=3000)(h:4<l.length\/(l[0]? =some 48/\1<l.length))(w:World):Calls Tryz.prog 19 #[.string (str l)] w λe E=>NumE l e/\E=w:=by
 have a:=NumE.bad (.inr (h.imp_right .inl));have hsz:(str l).size=l.length:=qW l;have p:(str l).toList.isEmpty=false:=by rw[ByteArray.toList_eq,qo];cases l;simp at b;rfl
 have q:∀W,(Instr.index 9 (.string (str l)) (.int .i64 0)).run Tryz.prog W=.ok (.int .u8 (Sx.zP (str l) 0)) W:=λW=>Sx.jU (k:=0) (by omega) W;have hb0:Sx.zP (str l) 0=48↔l[0]? =some 48:=Qr b 48;have m:0<(str l).size:=by omega
 generalize str l=s at*;rw[<-hb0,<-hsz]at h;generalize i:Sx.zP s 0=c at*;clear i hb0;by_cases g:4<s.size
 .have f:(4:Int)<(s.size:Int):=by omega
  by_cases j:c=48
  .subst j;have d:(1:Int)<(s.size:Int):=by omega
   clear h;go_enter Tryz.func19,Tryz.ntmps19
   go_wp2_with fail;go_ret2
   exact⟨a,rfl⟩
  clear h;go_enter Tryz.func19,Tryz.ntmps19
  go_wp2_with fail;go_ret2
  exact⟨a,rfl⟩
 have f:¬(4:Int)<(s.size:Int):=by omega
 obtain⟨rfl,n⟩:=h.resolve_left g;have d:(1:Int)<(s.size:Int):=by omega
 clear h;go_enter Tryz.func19,Tryz.ntmps19
 go_wp2_with fail;go_ret2
 exact⟨a,rfl⟩
theorem zab(s:ByteArray)(k:Nat):0<=Sx.zP s k/\Sx.zP s k<=255:=by
 unfold Sx.zP;have:=UInt8.toNat_lt ((s.data[k]?).getD 0);omega
theorem zk2(l:List UInt8)(h0:0<l.length)(y:l.length<=4)(hz:¬(l[0]? =some 48/\1<l.length))(w:World):Calls Tryz.prog 19 #[.string (str l)] w λe E=>NumE l e/\E=w:=by
 have U:l≠ []:=λe=>by rw[e]at h0;simp at h0
 have g:Hid (∀k (a:k<l.length),xu l[k]=false->NumE l (.returned (.tuple #[.int .i64 0,.bool false]))):=λk a h=>NumE.bad (.inr (.inr (.inr ⟨l[k],List.getElem_mem a,h⟩)));have m:Hid ((∀k (a:k<l.length),xu l[k]=true)->NumE l (.returned (.tuple #[.int .i64 (jN l),.bool true]))):=λh=>by
  unfold NumE;rw[zkz l U y hz (λc Q=>by obtain⟨k,a,rfl⟩:=List.mem_iff_getElem.1 Q;exact h k a)];rfl
 have hsz:(str l).size=l.length:=qW l;have hem:(str l).toList.isEmpty=false:=by rw[ByteArray.toList_eq,qo];cases l;simp at h0;rfl
 have hix:Hid (∀k:Nat,k<l.length->∀W,(Instr.index 9 (.string (str l)) (.int .i64 (k:Int))).run Tryz.prog W=.ok (.int .u8 (Sx.zP (str l) k)) W):=λk a W=>Sx.jU (by omega) W;have hbv:Hid (∀k (a:k<l.length),Sx.zP (str l) k=(l[k].toNat:Int)):=λk a=>zbo a;have h00:=hix.out 0 h0;have hb0:Sx.zP (str l) 0=48↔l[0]? =some 48:=Qr h0 48;generalize str l=s at*;rw[<-hb0,<-hsz]at hz;generalize P:Sx.zP s 0=q at h00 hz
 clear P hb0;have G:¬(4:Int)<(s.size:Int):=by omega
 have V:q≠48\/(q=48/\¬(1:Int)<(s.size:Int)):=by
  by_cases h:q=48;exact .inr ⟨h,λe=>hz ⟨h,by omega⟩⟩;exact .inl h
 clear hz;have h00':∀W,(Instr.index 9 (.string s) (.int .i64 0)).run Tryz.prog W=.ok (.int .u8 q) W:=h00;clear h00;rcases V with hz|⟨rfl,hz⟩
 all_goals
  go_enter Tryz.func19,Tryz.ntmps19
  go_wp2_with fail
  clear h00' hem
  go_loopw [4,5] (λn i o=>o=w/\∃(k:Nat),k<=l.length/\i=.int .i64 k/\n=.int .i64 (jN (l.take k))/\Hid (0<=jN (l.take k)/\jN (l.take k)<10 ^ k)/\Hid (∀j (d:j<l.length),j<k->xu l[j]=true)) (λ_ i _=>l.length-(intOf i).toNat)
  case atStart=>exact⟨rfl,0,Nat.zero_le _,rfl,rfl,⟨Int.le_refl _,by simp[jN]⟩,λj _ d=>absurd d (Nat.not_lt_zero _)⟩
  case round=>
   obtain⟨rfl,k,a,rfl,rfl,hA,hno⟩:=hrel
   by_cases r:k<l.length
   .have I:=hix.out k r
    have v:=hbv.out k r
    have HS:Hid (jN (l.take (k+1))=jN (l.take k)*10+Sx.zP s k-48):=by
     show _=_
     rw[zac l k r,v]
    have f:=g.out k r
    have HY:Hid (48<=Sx.zP s k->Sx.zP s k<=57->xu l[k]=true):=λt u=>by unfold xu;exact decide_eq_true ⟨by omega,by omega⟩
    have HX:Hid (Sx.zP s k<48\/57<Sx.zP s k->xu l[k]=false):=λh=>by unfold xu;exact decide_eq_false (by omega)
    have C:(k:Int)<(s.size:Int):=by omega
    have H:=zab s k
    clear v hix hbv
    generalize F:Sx.zP s k=b at*
    clear F
    by_cases t:b<48
    .have HQ:=f (HX.out (.inl t))
     clear f HX HY HS g m
     go_wp2_with fail
     go_ret2
     exact⟨HQ,rfl⟩
    by_cases u:57<b
    .have HQ:=f (HX.out (.inr u))
     clear f HX HY HS g m
     go_wp2_with fail
     go_ret2
     exact⟨HQ,rfl⟩
    .obtain ⟨z,A⟩:=hA.out
     have J:(10:Int) ^ k<=1000:=by
      obtain rfl|rfl|rfl|rfl:k=0\/k=1\/k=2\/k=3:=by omega
      all_goals decide
     have B:Hid (0<=jN (l.take (k+1))/\jN (l.take (k+1))<10 ^ (k+1)):=by
      show _/\_
      rw[HS.out,Int.pow_succ]
      omega
     have hd:=HY.out (by omega) (by omega)
     clear f HX HY
     generalize(10:Int) ^ k=p at*
     have L:jN (l.take k)<1000:=by omega
     clear hA
     generalize jN (l.take k)=x at*
     go_wp2_with fail
     go_roundw
     case rel=>
      refine⟨trivial,k+1,by omega,by simp,by rw[HS.out],B,λj d h=>?_⟩
      by_cases e:j=k
      .subst e;exact hd
      .exact hno.out j d (by omega)
     case measure=>simp[intOf];omega
   .obtain rfl:k=l.length:=by omega
    have HQ:=m.out (λj d=>hno.out j d d)
    have D:¬(l.length:Int)<(s.size:Int):=by omega
    rw[List.take_length]at*
    clear hno hA g m hix hbv
    generalize jN l=x at*
    go_wp2_with fail
    go_ret2
    exact⟨HQ,rfl⟩
theorem bH(l:List UInt8)(c:l.length<=3000)(w:World):Cs 19 #[.string (str l)] w (.tuple #[.int .i64 ((zV l).getD 0),.bool (zV l).isSome]):=by
 by_cases a:l=[];subst a;exact zk3 w;have b:0<l.length:=List.length_pos_iff.2 a;by_cases h:4<l.length\/(l[0]? =some 48/\1<l.length);exact zk4 l b c h w;exact zk2 l b (by omega) (λe=>h (.inr e)) w
end Rn
end Go.Proofs.YtdokgalidhmbbaaGreatDoor
