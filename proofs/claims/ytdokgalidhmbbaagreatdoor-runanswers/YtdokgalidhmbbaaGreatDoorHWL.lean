/- What the law RunAnswers needs. -/
import Derived.Test.YtdokgalidhmbbaaGreatDoorHR
import Derived.Test.YtdokgalidhmbbaaGreatDoorChecked
import Derived.RangeFuncNested
import Derived.Lib.Bytealg
import Derived.Lib.IndexLaws
import Derived.Shelf.Abstract
import Derived.WalkKit
import Derived.WalkSpells
import Derived.OwnWalkIn
import Derived.TacticsInMore
import Derived.LoopNIn
import Derived.LoopIn
import Derived.Outline
import Derived.KernelRfl
set_option linter.unusedVariables false
set_option linter.unusedSimpArgs false
set_option maxRecDepth 100000
set_option maxHeartbeats 8000000
namespace Go.Proofs.YtdokgalidhmbbaaGreatDoor
namespace Rn
open Go.RowKit Go.Shelf
attribute [local go_sem] Oper.semAt_some
def qJ:List UInt8->List (List UInt8)
 |[]=>[]
 |c::a=>if c=10 then[c]::qJ a else match qJ a with
  |[]=>[[c]]
  |l::G=>(c::l)::G
def str(l:List UInt8):ByteArray:=⟨l.toArray⟩
theorem qo(l:List UInt8):(str l).data.toList=l:=by simp[str]
theorem kK(s:ByteArray):str s.data.toList=s:=by cases s;simp[str]
theorem qW(l:List UInt8):(str l).size=l.length:=by simp[str,ByteArray.size]
theorem aI:∀(l:List UInt8),l≠ []->Lib.indexByte l 10= -1->qJ l=[l]
 |[],h,_=>absurd rfl h
 |c::a,_,h=>by
  rw[Lib.indexByte]at h
  by_cases b:c=10
  .subst b;simp at h
  .have i:(c==10)=false:=by simp[b]
   rw[i]at h
   rw[qJ,if_neg b]
   have f:Lib.indexByte a 10= -1:=by
    by_cases g:Lib.indexByte a 10= -1
    .exact g
    .have:=Lib.indexByte_ge a 10
     simp[g]at h
     omega
   cases a with
   |nil=>rfl
   |cons d e=>rw[aI (d::e) (by simp) f]
theorem aJ:∀(l:List UInt8) (i:Nat),Lib.indexByte l 10=i->qJ l=l.take (i+1)::qJ (l.drop (i+1))/\i+1<=l.length
 |[],i,h=>by rw[Lib.indexByte]at h;omega
 |c::a,i,h=>by
  rw[Lib.indexByte]at h
  by_cases b:c=10
  .subst b
   simp at h
   obtain rfl:i=0:=by omega
   exact⟨rfl,by simp⟩
  .have k:(c==10)=false:=by simp[b]
   rw[k]at h
   rw[qJ,if_neg b]
   by_cases g:Lib.indexByte a 10= -1
   .simp [g]at h<;>omega
   .have f:(Lib.indexByte a 10== -1)=false:=by simp[g]
    simp[f]at h
    obtain⟨j,rfl⟩:∃j,i=j+1:=⟨i-1,by have:=Lib.indexByte_ge a 10;omega⟩
    obtain⟨d,e⟩:=aJ a j (by omega)
    rw[d]
    exact⟨rfl,by simpa using e⟩
theorem zj6(l:List UInt8)(h:l≠ []):(Lib.indexByte l 10= -1/\qJ l=[l])\/∃i:Nat,Lib.indexByte l 10=i/\qJ l=l.take (i+1)::qJ (l.drop (i+1))/\i+1<=l.length:=by
 by_cases g:Lib.indexByte l 10= -1;exact .inl ⟨g,aI l h g⟩;have:=Lib.indexByte_ge l 10;exact .inr ⟨(Lib.indexByte l 10).toNat,by omega,aJ l _ (by omega)⟩
theorem KY:∀l:List UInt8,(qJ l).flatten=l
 |[]=>rfl
 |c::a=>by
  have ih:=KY a
  rw[qJ]
  split
  .simp [ih]
  .split
   .rename_i e;rw[e]at ih;simp at ih;simp[<-ih]
   .rename_i e;rw[e]at ih;simp at ih;simp[ih]
theorem KZ:∀(l:List UInt8),∀x∈qJ l,x≠ []
 |[],x,hx=>by simp[qJ]at hx
 |c::b,x,hx=>by
  have a:=KZ b
  rw[qJ]at hx
  split at hx
  .rcases List.mem_cons.1 hx with rfl|hx
   .simp
   .exact a x hx
  .split at hx
   .simp at hx;subst hx;simp
   .rename_i e
    rcases List.mem_cons.1 hx with rfl|hx
    .simp
    .exact a x (by rw[e];exact List.mem_cons_of_mem _ hx)
theorem Y9:∀(G:List (List UInt8)),(∀x∈G,x≠ [])->G.length<=G.flatten.length
 |[],_=>Nat.le_refl _
 |x::G,h=>by
  have:=Y9 G λy a=>h y (List.mem_cons_of_mem _ a)
  have b:=List.length_pos_iff.2 (h x List.mem_cons_self)
  simp only[List.length_cons,List.flatten_cons,List.length_append]
  omega
theorem zj4(l:List UInt8):(qJ l).length<=l.length:=by
 have:=Y9 (qJ l) (KZ l);rwa[KY]at this
theorem zj5(l:List UInt8){x:List UInt8}(c:x∈qJ l):x.length<=l.length:=by
 have h:=KY l;obtain⟨a,b,e⟩:=List.append_of_mem c;rw[e]at h;have:=congrArg List.length h;simp at this;omega
theorem Xl{K:Nat->Prop}{W:World}{k:Nat}(a:K k)(o:Obj):Off K W (W.putObj k o):=
 ⟨rfl,rfl,rfl,by simp,λi _ b=>World.putObj_heap_other (λe=>b (by rw[e];exact a))⟩
def Gives(F:Fence)(n b:Nat)(t:List UInt8):Prop:=
 ∀(l:Nat) (J:List (List UInt8)->World->Prop),(∀c W a,J c W->Off (λk=>k=b) W a->J c a)->
  (∀c x d W,qJ t=c++x::d->(∃r,W.heap[b]? =some (.cells #[.string r] 9 (0,0)))->J c W->YieldAt F (n-1) Tryz.prog l #[.string (str x)] W λe a=>e=.returned (.bool true)/\J (c++[x]) a/\a.heap[b]? =W.heap[b]?)->
  ∀W,W.heap[b]? =some (.cells #[.string (str t)] 9 (0,0))->J [] W->
   CallsIn F n Tryz.prog 32 #[.func (.yield l) #[] #[],.pointer (some ⟨b,0,none⟩)] W λe a=>(∃v,e=.returned v)/\J (qJ t) a
def WI(I:List (List UInt8)->World->Prop)(D b:Nat)(K:List (List UInt8))(W:World):Exit->Act->World->Prop:=λe _ a=>
 e=.normal/\I K a/\∀k,(k=b\/k=D\/k=D+1)->a.heap[k]? =W.heap[k]?
variable {w:World}
theorem zuz{F:Fence}{n:Nat}{g:Operand}{X:Array Tmp}{assign body:Code}{Q:Exit->Act->World->Prop}{a:Act}(a7:F.round=none)(G:1<=n){bx:Nat}
  (hg:a.eval g=.func (.func 32) #[] #[.pointer (some ⟨bx,0,none⟩)]) (J:F.fn 32) (D:∀args w,(callFunc 32 args).run Tryz.prog w=.ok (.enter 32 args) w) {t:List UInt8} (L:Gives F (n-1) bx t) (a5:X.size=1)
  (A:w.heap[bx]? =some (.cells #[.string (str t)] 9 (0,0))) (I:List (List UInt8)->World->Prop)
  (q:∀b W y,I b W->Off (λk=>k=bx\/k=w.heap.size\/k=w.heap.size+1) W y->I b y) (E:I [] w) (z:List UInt8->Act)
  (O:∀(l:Nat) (x:List UInt8) (W:World) (K:Act->World->Prop),K (z x) W->
   assign.wpIn (F.inRound l) (n-1-1) Tryz.prog (Exit.then K (λ_ _ _=>False)) {tmps:=(X.zip #[.string (str x)]).foldl (λt (p,v)=>t.setIfInBounds p v) a.tmps,defers:=[]} W)
  (S:∀(l:Nat) (b:List (List UInt8)) (x:List UInt8) (V:List (List UInt8)) (W:World),qJ t=b++x::V->I b W->(∃r,W.heap[bx]? =some (.cells #[.string r] 9 (0,0)))->(∃o,W.heap[w.heap.size]? =some o/\o.isCells=false)->(∃o,W.heap[w.heap.size+1]? =some o/\o.isCells=false)->
   body.wpIn (F.inRound l) (n-1-1) Tryz.prog (WI I w.heap.size bx (b++[x]) W) (z x) W)
  (Z:∀W,I (qJ t) W->W.heap[w.heap.size]? =some (.deferred (some []))->Q .normal {a with defers:={target:=.collected w.heap.size,args:=#[]}::a.defers} W):
  (Code.rangeFunc g X assign body).wpIn F n Tryz.prog Q a w:=by
 refine wpIn_rangeFunc ?_;intro fn a0;rw[a7];have T:bx<w.heap.size:=(Array.getElem?_eq_some_iff.1 A).1;obtain⟨d,f⟩:∃d:LoopState->Option Code->Loop,d=λm j=>{state:=m,pending:=j,fn,tmps:=a.tmps,params:=X,assign,body,defers:=w.heap.size}:=⟨_,rfl⟩;obtain⟨c,s⟩:∃c,(w.alloc (.deferred (some []))).alloc (.loop (d .ready none))=c:=⟨_,rfl⟩;have a4:Off (λk=>k=bx\/k=w.heap.size\/k=w.heap.size+1) w c:=by rw[<-s];exact((Off.refl _ w).alloc _).alloc _
 have N:c.heap[w.heap.size+1]? =some (.loop (d .ready none)):=by
  rw[<-s];have:=World.alloc_heap_new (w.alloc (.deferred (some []))) (.loop (d .ready none));rwa[World.size_alloc]at this
 have M:c.heap[w.heap.size]? =some (.deferred (some [])):=by
  rw[<-s];exact(Below.heap_alloc _ _ _ (by simp)).trans (World.alloc_heap_new w _)
 have H:c.heap[bx]? =some (.cells #[.string (str t)] 9 (0,0)):=by
  rw[<-s];exact(Below.heap_alloc _ _ _ (by simp;omega)).trans ((Below.heap_alloc _ _ _ T).trans A)
 refine⟨w.heap.size+1,[{target:=.collected w.heap.size,args:=#[]}],c,{target:=.fn (.func 32) #[.pointer (some ⟨bx,0,none⟩)],args:=#[.func (.yield (w.heap.size+1)) #[] #[]]},c,32,
  #[.func (.yield (w.heap.size+1)) #[] #[]]++#[.pointer (some ⟨bx,0,none⟩)],c,?_,?_,?_,?_,λ_=>G,?_⟩
 rw [<-s,f];exact run_enterLoop_outer _ _ _ _ _;.simp only[resolve,hg];simp[go_sem]
 intro f' hf';simp[Target.leads]at hf';subst hf';exact J;.simp [invoke,go_sem,D]
 have a8:∀(m:LoopState) (j:Option Code),(d m j).state=m/\(d m j).pending=j:=λm j=>by rw[f];exact⟨rfl,rfl⟩
 refine(L (w.heap.size+1) (λb W=>I b W/\W.heap[w.heap.size+1]? =some (.loop (d .ready none))/\W.heap[w.heap.size]? =some (.deferred (some []))) ?_ ?_ c H ⟨q _ _ _ E a4,N,M⟩).mono ?_;rintro b W y ⟨u,h,i⟩ U;exact⟨q _ _ _ u (U.mono λk _ e=>.inl e),(U.block _ (Array.getElem?_eq_some_iff.1 h).1 (by omega)).trans h,(U.block _ (Array.getElem?_eq_some_iff.1 i).1 (by omega)).trans i⟩;rintro b x V W he ⟨r,a6⟩ ⟨u,h,i⟩;have a2:w.heap.size+1<W.heap.size:=(Array.getElem?_eq_some_iff.1 h).1;have hy:=run_yield (P:=Tryz.prog) (args:=#[.string (str x)]) h (by rw[f];exact a5.symm);rw[f]at hy;refine⟨fn,_,assign,body,hy,roundIn_of_wpIn a0 (O _ x W _ ⟨_,run_beginRound h (by rw[f]),?_⟩)⟩;have C:(W.putObj (w.heap.size+1) (.loop {d .ready none with state:=.busy})).heap[w.heap.size+1]? =some (.loop {d .ready none with state:=.busy}):=World.putObj_heap_same a2
 refine wpIn_mono (S _ b x V _ he (q _ _ _ u (Xl (.inr (.inr rfl)) _)) ⟨r,(World.putObj_heap_other (by omega)).trans a6⟩ ⟨_,(World.putObj_heap_other (by omega)).trans i,rfl⟩ ⟨_,C,rfl⟩) ?_;rintro e a3 W3 ⟨rfl,a1,B⟩;have hl3:=(B _ (.inr (.inr rfl))).trans C;have Y:=(B _ (.inr (.inl rfl))).trans ((World.putObj_heap_other (by omega)).trans i);have R:=(B _ (.inl rfl)).trans (World.putObj_heap_other (w:=W) (k:=bx) (by omega:bx≠w.heap.size+1))
 have hr:=run_endRound (P:=Tryz.prog) none hl3;rw[f]at hr hl3;refine⟨_,_,hr,rfl,⟨q _ _ _ a1 (Xl (.inr (.inr rfl)) _),?_,(World.putObj_heap_other (by omega)).trans Y⟩,(World.putObj_heap_other (by omega)).trans R⟩;rw[f];exact World.putObj_heap_same (Array.getElem?_eq_some_iff.1 hl3).1;rintro e W2 ⟨⟨v,rfl⟩,u,h,i⟩;have hr:=run_endLoop (P:=Tryz.prog) h (by rw[f];simp);rw[f]at hr;exact⟨none,_,hr,Z _ (q _ _ _ u (Xl (.inr (.inr rfl)) _)) ((World.putObj_heap_other (by omega)).trans i)⟩
theorem gD(s:ByteArray)(a:Nat)(h:a<=s.size)(c:s.size<=9223372036854775807)(w:World):(Instr.slice 9 (.string s) (some (.int .i64 (a:Int))) none none).run Tryz.prog w=.ok (.string (s.extract a s.size)) w:=by
 have b:(a:Int)<=(s.size:Int):=by omega
 have e:=Tryz.underlying9;go_simp
theorem zrr(s:ByteArray)(b:Nat)(h:b<=s.size)(c:s.size<=9223372036854775807)(w:World):(Instr.slice 9 (.string s) none (some (.int .i64 (b:Int))) none).run Tryz.prog w=.ok (.string (s.extract 0 b)) w:=by
 have a:(b:Int)<=(s.size:Int):=by omega
 have e:=Tryz.underlying9;go_simp
theorem gT(l:List UInt8)(a:Nat):(str l).extract a (str l).size=str (l.drop a):=by
 have h:((str l).extract a (str l).size).data.toList=(str (l.drop a)).data.toList:=by
  rw[qo,Lib.extract_data,qo,qW];exact List.take_of_length_le (by simp)
 rw[<-kK ((str l).extract a (str l).size),h,kK]
theorem zr5(l:List UInt8)(b:Nat):(str l).extract 0 b=str (l.take b):=by
 have h:((str l).extract 0 b).data.toList=(str (l.take b)).data.toList:=by
  rw[qo,Lib.extract_data,qo];simp
 rw[<-kK ((str l).extract 0 b),h,kK]
theorem zhu(s:ByteArray)(w:World):Cs 48 #[.string s,.int .u8 10] w (.int .i64 (Lib.indexByte s.data.toList 10)):=by
 go_enter Tryz.func48,Tryz.ntmps48
 go_wp2;rw[run_callFunc_extern Tryz.func69 (by kernel_rfl) (by kernel_rfl) (by kernel_rfl) (e:=Extern.BytealgIndexByte.indexByte) (by kernel_rfl),Lib.run_indexByteString];simp only[Result.andThen];rw[Oper.upon_value];go_wp2;go_ret;exact⟨rfl,rfl⟩
theorem zhv(s:ByteArray)(w:World):Cs 33 #[.string s,.int .u8 10] w (.int .i64 (Lib.indexByte s.data.toList 10)):=by
 have H:=zhu s w;go_enter Tryz.func33,Tryz.ntmps33
 go_wp2_with (go_at_call 48;refine H.mono ?_;rintro e b ⟨rfl,a⟩;obtain rfl:=a.symm);go_ret;exact⟨rfl,rfl⟩
def J5(w:World)(a:Nat):Nat:=match w.heap[a]? with
 |some (Obj.cells b _ _)=>match b[0]? with
  |some (Value.string s)=>s.size
  |_=>0
 |_=>0
theorem Qt{a:Nat}{s:ByteArray}{t:TypeId}{b:Nat×Nat}(h:w.heap[a]? =some (.cells #[.string s] t b)):J5 w a=s.size:=by
 unfold J5;rw[h];rfl
theorem Qu{a:Nat}{u:Value}(h:w.heap[a]? =some (.cells #[u] 9 (0,0)))(v:Value):(w.setCell ⟨a,0,none⟩ v).heap[a]? =some (.cells #[v] 9 (0,0)):=by
 simp[World.setCell,Array.getElem?_modify,h]
theorem bP(w:World)(b:Nat)(v:Value):Off (λk=>k=b) w (w.setCell ⟨b,0,none⟩ v):=(Off.refl (λk=>k=b) w).setCell (a:=⟨b,0,none⟩) rfl v
theorem zju(n a:Nat)(N:1<=n)(t:List UInt8)(V:t.length<=3000):Gives Fence.wide n a t:=by
 intro l J f g W P u;have H:Fence.wide.fn 33:=trivial;refine callsIn_of_wp Tryz.func32 rfl trivial ?_ rfl;simp only[Tryz.ntmps32,List.size_toArray,List.length_cons,List.length_nil,Nat.reduceAdd,Nat.reduceSub,Array.replicate_succ,Array.replicate_zero,List.push_toArray,List.append_toArray,List.nil_append,List.cons_append];gi_wp2
 gi_loopw [3] (λ_ wr=>∃c r,qJ t=c++qJ r/\r.length<=3000/\wr.heap[a]? =some (.cells #[.string (str r)] 9 (0,0))/\J c wr)
  (λ_ wr=>J5 wr a)
 case atStart=>exact⟨[],t,rfl,V,P,u⟩
 case round=>
  obtain⟨c,r,he,R,b,m⟩:=hrel;have hc:wr.cell? ⟨a,0,none⟩=some (.string (str r)):=by simp[World.cell?,b]
  have U:wr.frozen? ⟨a,0,none⟩=false:=by simp[World.frozen?,b]
  have S:=qW r;by_cases p:r=[]
  .subst p;have u:(str []).size=0:=rfl;have Q:J (qJ t) wr:=by rw[he];simpa[qJ]using m
   clear g f he;gi_wp2;go_end0
   exact⟨⟨_,rfl⟩,Q⟩
  have O:0<r.length:=List.length_pos_iff.2 p;have HI:=zhv (str r) wr;rw[qo]at HI;have E:(0:Int)<((str r).size:Int):=by omega
  rcases zj6 r p with⟨k,d⟩|⟨i,k,d,M⟩
  .rw [k]at HI;obtain⟨F,C,y,B,o,hR⟩:=g c r [] (wr.setCell ⟨a,0,none⟩ (.string ⟨#[]⟩)) (by rw[he,d]) ⟨_,Qu b _⟩ (f _ _ _ m (bP wr a _));have hb2:=Qu b (.string ⟨#[]⟩);have hlen:=Qt b;clear g f b;generalize str r=v at*;gi_wp2_with (gi_at_call 33;refine(callsIn_wide.2 HI).mono ?_;rintro e D ⟨rfl,q⟩;obtain rfl:=q.symm);refine hR.mono ?_;rintro e w ⟨rfl,j,h⟩;gi_wp2;go_roundw
   case rel=>exact⟨c++[r],[],by rw[he,d];simp[qJ],by simp,h.trans hb2,j⟩
   case measure=>rw[Qt (h.trans hb2),hlen];have G:(ByteArray.mk #[]).size=0:=rfl;omega
  rw [k]at HI;have s:((i+1:Nat):Int)=(i:Int)+1:=by omega
  have hu:=zrr (str r) (i+1) (by omega) (by omega);have hf:=gD (str r) (i+1) (by omega) (by omega);rw[zr5,s]at hu;rw[gT,s]at hf;obtain⟨F,C,y,B,o,hR⟩:=g c (r.take (i+1)) (qJ (r.drop (i+1))) (wr.setCell ⟨a,0,none⟩ (.string (str (r.drop (i+1))))).drew (by rw[he,d]) ⟨_,Qu b _⟩ (f _ _ _ m (bP wr a _).drew);have hb2:(wr.setCell ⟨a,0,none⟩ (.string (str (r.drop (i+1))))).drew.heap[a]? =_:=Qu b (.string (str (r.drop (i+1))))
  have hlen:=Qt b;have z:=qW (r.drop (i+1));rw[List.length_drop]at z;have hd3:(r.drop (i+1)).length<=3000:=by rw[List.length_drop];omega
  have he2:qJ t=(c++[r.take (i+1)])++qJ (r.drop (i+1)):=by rw[he,d];simp
  clear g f b he d;generalize str r=v at*;generalize r.take (i+1)=x at*;generalize r.drop (i+1)=A at*;generalize str x=K at*;have T:(0:Int)<=(i:Int):=by omega
  gi_wp2_with (gi_at_call 33;refine(callsIn_wide.2 HI).mono ?_;rintro e D ⟨rfl,q⟩;obtain rfl:=q.symm);have I:wr.drew.cell? ⟨a,0,none⟩=some (.string v):=hc;have L:wr.drew.frozen? ⟨a,0,none⟩=false:=U;gi_region
  all_goals gi_wp2
  all_goals (refine hR.mono ?_;rintro e w ⟨rfl,j,h⟩;gi_wp2;go_roundw)
  case rel=>exact⟨_,A,he2,hd3,h.trans hb2,j⟩
  case measure=>rw[Qt (h.trans hb2),hlen];omega
end Rn
end Go.Proofs.YtdokgalidhmbbaaGreatDoor
