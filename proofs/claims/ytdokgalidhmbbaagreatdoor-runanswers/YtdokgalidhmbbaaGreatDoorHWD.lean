/- What the law RunAnswers needs. -/
import Derived.Test.YtdokgalidhmbbaaGreatDoorHWC
import Derived.Lib.SplitLaws
import Derived.Handy
set_option linter.unusedVariables false
set_option linter.unusedSimpArgs false
set_option maxRecDepth 100000
set_option maxHeartbeats 8000000
namespace Go.Proofs.YtdokgalidhmbbaaGreatDoor
namespace Rn
open Go.RowKit
def ZR:ByteArray:=⟨#[32]⟩
def jW(s:ByteArray):List ByteArray:=Lib.splitB ZR 0 (Lib.countB s ZR) s
structure Ord where
 name:ByteArray
 n0:Int
 n1:Int
 word:ByteArray
abbrev emp:ByteArray:=⟨#[]⟩
def yN(X:List ByteArray):Option Ord:=
 match qd (X.getD 0 emp).data.toList with
 |none=>none
 |some (a,b)=>
  if X.length≠1+a+b\/Lib.containsS X emp=true then none else
  match (if 1<=a then jr (X.getD 1 emp).data.toList else some 0),(if 2<=a then jr (X.getD 2 emp).data.toList else some 0)with
  |some x,some y=>some ⟨X.getD 0 emp,x,y,if 1<=b then X.getD (1+a) emp else emp⟩
  |_,_=>none
def yo(s:ByteArray):Option Ord:=yN (jW s)
def Ord.val(o:Ord):Value:=.agg #[.string o.name,.int .i64 o.n0,.int .i64 o.n1,.string o.word]
def bB:Value:=.agg #[.string emp,.int .i64 0,.int .i64 0,.string emp]
def Kt(I:Value):Option Ord->Value
 |some o=>.tuple #[o.val,.nilIface]
 |none=>.tuple #[bB,I]
theorem VB(s:ByteArray):(jW s).length=Lib.countB s ZR+1:=Lib.splitB_all ZR (by decide) 0 _ s rfl
theorem zuf(l:List UInt8):qd l=none\/qd l=some (1,0)\/qd l=some (0,0)\/qd l=some (2,0)\/qd l=some (1,1):=by
 unfold qd;repeat' split
 all_goals simp
structure Dk(w:World)(bv:Value)(d tb mb:Nat):Prop where
 env:Env w bv
 mx:∃m:Int,w.cell? ⟨2,0,none⟩=some (.int .i64 m)
 dk:w.heap[d]? =some (.cells #[.pointer (some ⟨tb,0,none⟩),.map (some mb)] 72 (0,0))
 mp:w.ownsMap Tryz.prog 9 two mb 9 wantsD
variable {w:World}{d H D:Nat}
theorem Dk.d_lt{I:Value}(h:Dk w I d H D):d<w.heap.size:=(Array.getElem?_eq_some_iff.1 h.dk).1
theorem Dk.mb_lt{I:Value}(h:Dk w I d H D):D<w.heap.size:=by
 obtain⟨a,c,e,_⟩:=h.mp;exact(Array.getElem?_eq_some_iff.1 e).1
theorem Zj{E:World}(h:w.ownsMap Tryz.prog 9 two D 9 wantsD)(e:E.heap[D]? =w.heap[D]?):E.ownsMap Tryz.prog 9 two D 9 wantsD:=by
 obtain⟨b,c,a,r⟩:=h;exact⟨b,c,e.trans a,r⟩
theorem Dk.below{E:World}{I:Value}(h:Dk w I d H D)(a:Below w.heap.size w E):Dk E I d H D where
 env:=h.env.below a h.env.low
 mx:=by
  obtain⟨m,e⟩:=h.mx
  have:=h.env.low
  exact⟨m,(a.cell (p:=⟨2,0,none⟩) (show 2<w.heap.size by omega)).trans e⟩
 dk:=(a.block _ h.d_lt).trans h.dk
 mp:=Zj h.mp (a.block _ h.mb_lt)
theorem Q0(h:w.ownsMap Tryz.prog 9 two D 9 wantsD)(s:ByteArray)(c:s.size<=3000):
  (Instr.lookup 69 (.map (some D)) (.string s) true).run Tryz.prog w=.ok (.tuple #[.agg #[.int .i64 ((qd s.data.toList).getD (0,0)).1,.int .i64 ((qd s.data.toList).getD (0,0)).2],.bool (qd s.data.toList).isSome]) w:=by
 obtain⟨v,X,hr,hv⟩:=h.look_ok Yw Tryz.underlying69 (Tryz.zeroValue112 w) (zd:=WG) (iH 0 0) (Yu s (by unfold maxLen;omega));rw[(iL s.data.toList).2]at hr;rw[(iL s.data.toList).1]at hv;obtain⟨a,b,rfl,e⟩:=zt0 hv;have L:(el ((qd s.data.toList).getD (0,0)).1 ((qd s.data.toList).getD (0,0)).2,X)=(el a b,([]:List MemPlace)):=e;injection L with e1 _;injection e1 with e1;injection e1 with x1 x2;injection x2 with x2 _
 injection x1 with x1;injection x2 with x2;injection x1 with _ x1;injection x2 with _ x2;rw[x1,x2];exact hr
theorem zru(s:ByteArray)(b:s.size<=3000){I:Value}(h:Dk w I d H D):Calls Tryz.prog 70 #[.string s,.string ⟨#[32]⟩] w λe E=>
  e=.returned (.slice (some ⟨w.heap.size,0,none⟩) (jW s).length (jW s).length)/\E=w.alloc (.cells ((jW s).map Value.string).toArray 9):=by
 obtain⟨m,a⟩:=h.mx;rw[VB];exact Any.strings_Split {Tryz.laysM146 with} Tryz.laysM146.i9 s ZR m w (by omega) a (by decide)
theorem vB(w:World)(o:Obj):(w.alloc o).heap[w.heap.size]? =some o:=by
 show(w.heap.push o)[w.heap.size]? =some o;simp
theorem Z4(w:World)(o:Obj){k:Nat}(a:k<w.heap.size):(w.alloc o).heap[k]? =w.heap[k]? :=by
 show(w.heap.push o)[k]? =w.heap[k]?;rw[Array.getElem?_push,if_neg (by omega)]
theorem gH(a:ByteArray)(n:Nat):∀(k:Nat) (s:ByteArray),s.size<=n->∀p∈Lib.splitB a 0 k s,p.size<=n
 |0,s,h,p,hp=>by
  rw[Lib.splitB_zero,List.mem_singleton]at hp
  rw[hp];exact h
 |k+1,s,h,p,hp=>by
  rw[Lib.splitB]at hp
  split at hp
  .rw [List.mem_singleton]at hp
   rw[hp];exact h
  .rcases List.mem_cons.1 hp with rfl|hp
   .simp only[ByteArray.size_extract];omega
   .exact gH a n k _ (by simp only[ByteArray.size_extract];omega) p hp
theorem zmk(s:ByteArray)(j:Nat):((jW s).getD j emp).size<=s.size:=by
 rw[List.getD]
 cases e:(jW s)[j]? with
 |none=>exact Nat.zero_le _
 |some p=>exact gH ZR s.size _ s (Nat.le_refl _) p (List.mem_of_getElem? e)
theorem zmm(w:World)(X:List ByteArray)(j:Nat)(a:j<X.length):(w.alloc (.cells (X.map Value.string).toArray 9)).cell? ⟨w.heap.size,j,none⟩=some (.string (X.getD j emp)):=by
 have e:(w.alloc (.cells (X.map Value.string).toArray 9)).heap[w.heap.size]? =some (.cells (X.map Value.string).toArray 9):=vB _ _;rw[Lib.cell_of_heap e];simp[List.getD,List.getElem?_eq_getElem a]
theorem JG{b i:Nat}{a:Array Value}{T:TypeId}{d:Nat×Nat}{v:Value}(f:w.heap[b]? =some (.cells a T d))(g:a[i]? =some v):w.setCell ⟨b,i,none⟩ v=w:=by
 have e:(w.setCell ⟨b,i,none⟩ v).heap=w.heap:=by
  apply Array.ext_getElem?;intro k;simp only[World.setCell,Array.getElem?_modify];by_cases c:b=k;subst c;have:a.setIfInBounds i v=a:=by
   apply Array.ext_getElem?;intro j;rw[Array.getElem?_setIfInBounds];split;rename_i e;subst e;split;exact g.symm;rename_i h;rw[Array.getElem?_eq_none (by omega)];.rfl
  simp[f,this];rw [if_neg c]
 exact congrArg (λh=>{w with heap:=h}) e
theorem wN{n:Nat}(h:w.heap[n]? =some (.cells #[.string emp,.int .i64 0,.int .i64 0,.string emp] 117)):
  (w.cell? ⟨n,0,none⟩=some (.string ⟨#[]⟩)/\w.setCell ⟨n,0,none⟩ (.string ⟨#[]⟩)=w)/\(w.cell? ⟨n,1,none⟩=some (.int .i64 0)/\w.setCell ⟨n,1,none⟩ (.int .i64 0)=w)/\
  (w.cell? ⟨n,2,none⟩=some (.int .i64 0)/\w.setCell ⟨n,2,none⟩ (.int .i64 0)=w)/\(w.cell? ⟨n,3,none⟩=some (.string ⟨#[]⟩)/\w.setCell ⟨n,3,none⟩ (.string ⟨#[]⟩)=w)/\
  w.frozen? ⟨n,0,none⟩=false/\w.frozen? ⟨n,1,none⟩=false/\w.frozen? ⟨n,2,none⟩=false/\w.frozen? ⟨n,3,none⟩=false:=
 ⟨⟨by rw[Lib.cell_of_heap h];rfl,JG h rfl⟩,⟨by rw[Lib.cell_of_heap h];rfl,JG h rfl⟩,⟨by rw[Lib.cell_of_heap h];rfl,JG h rfl⟩,⟨by rw[Lib.cell_of_heap h];rfl,JG h rfl⟩,Lib.frozen_of_heap h 0,Lib.frozen_of_heap h 1,Lib.frozen_of_heap h 2,Lib.frozen_of_heap h 3⟩
theorem yF{n:Nat}{a b c d:Value}{e:Nat×Nat}(h:w.heap[n]? =some (.cells #[a,b,c,d] 117 e)):w.cell? ⟨n,0,none⟩=some a/\w.cell? ⟨n,1,none⟩=some b/\w.cell? ⟨n,2,none⟩=some c/\w.cell? ⟨n,3,none⟩=some d:=
 ⟨by rw[Lib.cell_of_heap h];rfl,by rw[Lib.cell_of_heap h];rfl,by rw[Lib.cell_of_heap h];rfl,by rw[Lib.cell_of_heap h];rfl⟩
variable {X:List ByteArray}
theorem zlq(h:qd (X.getD 0 emp).data.toList=none):yN X=none:=by
 unfold yN;rw[h]
theorem Q5{a b:Nat}(h:qd (X.getD 0 emp).data.toList=some (a,b)):yN X=if X.length≠1+a+b\/Lib.containsS X emp=true then none else
  match (if 1<=a then jr (X.getD 1 emp).data.toList else some 0),(if 2<=a then jr (X.getD 2 emp).data.toList else some 0)with
  |some x,some y=>some ⟨X.getD 0 emp,x,y,if 1<=b then X.getD (1+a) emp else emp⟩
  |_,_=>none:=by
 unfold yN;rw[h]
theorem zdc{k:Nat}{ps:List ByteArray}(c:ps.length<=5000)(a:∀j,j<ps.length->w.cell? ⟨k,j,none⟩=some (.string (ps.getD j emp))):
  Cs 71 #[.slice (some ⟨k,0,none⟩) ps.length ps.length,.string ⟨#[]⟩] w (.bool (Lib.containsS ps emp)):=by
 have h:=Tryz.slices_Contains_string k 0 ps.length ps.length ps emp w (Nat.le_refl _) (by omega) (λj b=>by rw[Nat.zero_add];exact a j b);rw[List.take_length]at h;exact h
theorem zmo(s:ByteArray):(jW s).length<=s.size+1:=by
 rw[VB];have:=Lib.countB_le ZR (by decide) s.size s (Nat.le_refl _);omega
structure So(w U:World)(bv:Value)(d tb mb:Nat)(ps:List ByteArray)(a b:Int)(p0:ByteArray)(x y:Int)(wd:ByteArray):Prop where
 bl:Below w.heap.size w U
 dk:Dk U bv d tb mb
 pc:∀j,j<ps.length->U.cell? ⟨w.heap.size+1,j,none⟩=some (.string (ps.getD j emp))
 rz:U.heap[w.heap.size]? =some (.cells #[.string emp,.int .i64 0,.int .i64 0,.string emp] 117)
 ww:U.heap[w.heap.size+2]? =some (.cells #[.int .i64 a,.int .i64 b] 112)
 oo:U.heap[w.heap.size+3]? =some (.cells #[.string p0,.int .i64 x,.int .i64 y,.string wd] 117)
 sz:w.heap.size+4<=U.heap.size
variable {a b:Int}
theorem So.new{V:World}{I:Value}(f:Below w.heap.size w V)(g:Dk V I d H D)(h:∀j,j<X.length->V.cell? ⟨w.heap.size+1,j,none⟩=some (.string (X.getD j emp)))
    (k:V.heap[w.heap.size]? =some (.cells #[.string emp,.int .i64 0,.int .i64 0,.string emp] 117)) (l:V.heap[w.heap.size+2]? =some (.cells #[.int .i64 a,.int .i64 b] 112)) (m:V.heap.size=w.heap.size+3) (e:ByteArray):
    So w (V.alloc (.cells #[.string e,.int .i64 0,.int .i64 0,.string emp] 117)) I d H D X a b e 0 0 emp:=by
  have c:Below V.heap.size V (V.alloc (.cells #[.string e,.int .i64 0,.int .i64 0,.string emp] 117)):=(Below.refl _ _).alloc (Nat.le_refl _) _;exact⟨f.trans (c.mono f.size),g.below c,λj i=>(c.cell (p:=⟨w.heap.size+1,j,none⟩) (show w.heap.size+1<V.heap.size by omega)).trans (h j i),(c.block _ (by omega)).trans k,(c.block _ (by omega)).trans l,by rw[<-m];exact vB _ _,
    by have:(V.alloc (.cells #[.string e,.int .i64 0,.int .i64 0,.string emp] 117)).heap.size=V.heap.size+1:=by simp
       omega⟩
variable {x y:Int}
theorem So.below{U e:World}{I:Value}{f:ByteArray}{g:ByteArray}(h:So w U I d H D X a b f x y g)(c:Below U.heap.size U e):So w e I d H D X a b f x y g:=
 have k:=h.sz
 ⟨h.bl.trans (c.mono h.bl.size),h.dk.below c,λj i=>(c.cell (p:=⟨w.heap.size+1,j,none⟩) (show w.heap.size+1<U.heap.size by omega)).trans (h.pc j i),(c.block _ (by omega)).trans h.rz,(c.block _ (by omega)).trans h.ww,(c.block _ (by omega)).trans h.oo,Nat.le_trans k c.size⟩
theorem So.put{U:World}{I:Value}{g:ByteArray}{n:ByteArray}(h:So w U I d H D X a b g x y n)(F:d<w.heap.size)(P:D<w.heap.size)(i:Nat)(v:Value){r s:Int}{q:ByteArray}(l:18<=w.heap.size)
  (u:(#[.string g,.int .i64 x,.int .i64 y,.string n]:Array Value).setIfInBounds i v=#[.string g,.int .i64 r,.int .i64 s,.string q]):So w (U.setCell ⟨w.heap.size+3,i,none⟩ v) I d H D X a b g r s q:=by
 have B:=h.sz;have c:∀k,k≠w.heap.size+3->(U.setCell ⟨w.heap.size+3,i,none⟩ v).heap[k]? =U.heap[k]? :=λk c=>by
  simp only[World.setCell,Array.getElem?_modify];rw[if_neg (λe=>c e.symm)]
 have f:Below (w.heap.size+3) U (U.setCell ⟨w.heap.size+3,i,none⟩ v):=⟨rfl,rfl,rfl,by simp[World.setCell],λk h=>c k (by omega)⟩;have Q:=h.dk.env.low;have l:18<=w.heap.size+3:=by omega
 refine⟨h.bl.trans (f.mono (by omega)),⟨h.dk.env.below f l,?_,(c d (by omega)).trans h.dk.dk,Zj h.dk.mp (c D (by omega))⟩,λj t=>(f.cell (p:=⟨w.heap.size+1,j,none⟩) (show w.heap.size+1<w.heap.size+3 by omega)).trans (h.pc j t),(c _ (by omega)).trans h.rz,(c _ (by omega)).trans h.ww,?_,by simpa[World.setCell]using B⟩;obtain ⟨m,e⟩:=h.dk.mx;exact⟨m,(f.cell (p:=⟨2,0,none⟩) (show 2<w.heap.size+3 by omega)).trans e⟩
 simp only[World.setCell,Array.getElem?_modify,if_true,h.oo,Option.map_some];simp[u]
theorem So.done{U:World}{I:Value}{i:ByteArray}{j:ByteArray}(h:So w U I d H D X a b i x y j)(c e f g:Value):
  ((((U.setCell ⟨w.heap.size,0,none⟩ c).setCell ⟨w.heap.size,1,none⟩ e).setCell ⟨w.heap.size,2,none⟩ f).setCell ⟨w.heap.size,3,none⟩ g).heap[w.heap.size]? =some (.cells #[c,e,f,g] 117)/\
  Below w.heap.size w ((((U.setCell ⟨w.heap.size,0,none⟩ c).setCell ⟨w.heap.size,1,none⟩ e).setCell ⟨w.heap.size,2,none⟩ f).setCell ⟨w.heap.size,3,none⟩ g):=by
 refine⟨?_,h.bl.trans ⟨rfl,rfl,rfl,by simp[World.setCell],λk l=>?_⟩⟩
 .simp [World.setCell,Array.getElem?_modify,h.rz]
 .simp only[World.setCell,Array.getElem?_modify]
  rw[if_neg (by omega),if_neg (by omega),if_neg (by omega),if_neg (by omega)]
/-! ORDERS -/
theorem five{c:ByteArray}(i:X.getD 0 emp=c):∃(g:Bool) (d f L:Int) (N:Nat),(∀(w:World) (D:Nat),w.ownsMap Tryz.prog 9 two D 9 wantsD->c.size<=3000->(Instr.lookup 69 (.map (some D)) (.string c) true).run Tryz.prog w=.ok (.tuple #[.agg #[.int .i64 d,.int .i64 f],.bool g]) w)/\
  ((g=false/\yN X=none)\/(g=true/\L=(N:Int)/\(X.length≠N\/Lib.containsS X emp=true->yN X=none)/\((d=0/\f=0/\N=1/\L=1/\qd c.data.toList=some (0,0))\/(d=1/\f=0/\N=2/\L=2/\qd c.data.toList=some (1,0))\/(d=1/\f=1/\N=3/\L=3/\qd c.data.toList=some (1,1))\/(d=2/\f=0/\N=3/\L=3/\qd c.data.toList=some (2,0))))):=by
 subst i;rcases zuf (X.getD 0 emp).data.toList with a|a|a|a|a;exact ⟨false,0,0,0,0,λw D h b=>by have e:=Q0 h _ b;rw[a]at e;exact e,.inl ⟨rfl,zlq a⟩⟩;exact ⟨true,1,0,2,2,λw D h b=>by have e:=Q0 h _ b;rw[a]at e;exact e,.inr ⟨rfl,rfl,λh=>by rw[Q5 a];exact if_pos h,.inr (.inl ⟨rfl,rfl,rfl,rfl,a⟩)⟩⟩;exact ⟨true,0,0,1,1,λw D h b=>by have e:=Q0 h _ b;rw[a]at e;exact e,.inr ⟨rfl,rfl,λh=>by rw[Q5 a];exact if_pos h,.inl ⟨rfl,rfl,rfl,rfl,a⟩⟩⟩
 exact ⟨true,2,0,3,3,λw D h b=>by have e:=Q0 h _ b;rw[a]at e;exact e,.inr ⟨rfl,rfl,λh=>by rw[Q5 a];exact if_pos h,.inr (.inr (.inr ⟨rfl,rfl,rfl,rfl,a⟩))⟩⟩;exact ⟨true,1,1,3,3,λw D h b=>by have e:=Q0 h _ b;rw[a]at e;exact e,.inr ⟨rfl,rfl,λh=>by rw[Q5 a];exact if_pos h,.inr (.inr (.inl ⟨rfl,rfl,rfl,rfl,a⟩))⟩⟩
theorem zlt(s:ByteArray)(hs:s.size<=3000){bv:Value}{tb:Nat}(h:Dk w bv d tb D):
  Cl 50 #[.pointer (some ⟨d,0,none⟩),.string s] w (Kt bv (yo s)):=by
 obtain⟨bt,bp,rfl⟩:=h.env.isB;have a2:Below w.heap.size w (w.alloc (.cells #[.string emp,.int .i64 0,.int .i64 0,.string emp] 117)):=(Below.refl _ w).alloc (Nat.le_refl _) _;have h1:=h.below a2;have HS:=zru s hs h1;go_enter Tryz.func50,Tryz.ntmps50
 go_wp2_with (go_at_call 70;refine HS.mono ?_);rintro e w1 ⟨rfl,rfl⟩;have hk:Below w.heap.size w ((w.alloc (.cells #[.string emp,.int .i64 0,.int .i64 0,.string emp] 117)).alloc (.cells ((jW s).map Value.string).toArray 9)):=a2.alloc (by simp) _;have hD:=h.below hk;have hc:=zmm (w.alloc (.cells #[.string emp,.int .i64 0,.int .i64 0,.string emp] 117)) (jW s);have hl:=zmo s;have ab:=VB s;have hr:((w.alloc (.cells #[.string emp,.int .i64 0,.int .i64 0,.string emp] 117)).alloc (.cells ((jW s).map Value.string).toArray 9)).heap[w.heap.size]? =some (.cells #[.string emp,.int .i64 0,.int .i64 0,.string emp] 117):=(Z4 _ _ (by simp)).trans (vB _ _)
 have hz:((w.alloc (.cells #[.string emp,.int .i64 0,.int .i64 0,.string emp] 117)).alloc (.cells ((jW s).map Value.string).toArray 9)).heap.size=w.heap.size+2:=by simp
 have a3:(w.alloc (.cells #[.string emp,.int .i64 0,.int .i64 0,.string emp] 117)).heap.size=w.heap.size+1:=by simp
 rw[a3]at hc;simp only[a3];clear h1 a2 HS a3;generalize((w.alloc (.cells #[.string emp,.int .i64 0,.int .i64 0,.string emp] 117)).alloc (.cells ((jW s).map Value.string).toArray 9))=W at hk hD hc hr hz |-;have hps:∀j,((jW s).getD j emp).size<=3000:=λj=>Nat.le_trans (zmk s j) hs;have ho:yo s=yN (jW s):=rfl;have ad:1<=(jW s).length:=by omega
 have ac:(jW s).length<=3001:=by omega
 clear hl ab;generalize jW s=r at hps ho hc ad ac |-;have hc0:=hc 0 (by omega);have hp0:=hps 0;generalize S:r.getD 0 emp=B at hc0 hp0;obtain⟨kn,va,vb,L,N,Z,H5⟩:=five S;have R:Below W.heap.size W (W.alloc (.cells #[.int .i64 0,.int .i64 0] 112)):=(Below.refl _ _).alloc (Nat.le_refl _) _;have a6:W.drew.cell? ⟨w.heap.size+1,0,none⟩=some (.string B):=hc0;have a7:W.drew.cell? ⟨d,1,none⟩=some (.map (some D)):=by rw[Lib.cell_of_heap (w:=W.drew) hD.dk];rfl
 have a9:=Z W.drew D (Zj hD.mp rfl) hp0;have hc0:(W.alloc (.cells #[.int .i64 0,.int .i64 0] 112)).drew.cell? ⟨w.heap.size+1,0,none⟩=some (.string B):=(R.cell (p:=⟨w.heap.size+1,0,none⟩) (show w.heap.size+1<W.heap.size by omega)).trans hc0;have a8:(W.alloc (.cells #[.int .i64 0,.int .i64 0] 112)).drew.cell? ⟨d,1,none⟩=some (.map (some D)):=by
  rw[Lib.cell_of_heap (w:=(W.alloc (.cells #[.int .i64 0,.int .i64 0] 112)).drew) ((R.block _ hD.d_lt).trans hD.dk)];rfl
 have aa:=Z (W.alloc (.cells #[.int .i64 0,.int .i64 0] 112)).drew D (Zj hD.mp (R.block _ hD.mb_lt)) hp0;have af:(0:Int)<r.length:=by omega
 have I:Below W.heap.size W (W.alloc (.cells #[.int .i64 va,.int .i64 vb] 112)).drew:=((Below.refl _ _).alloc (Nat.le_refl _) _).drew;have hkk:=hk.trans (I.mono hk.size);have hDD:=hD.below I;have hcc:∀j,j<r.length->(W.alloc (.cells #[.int .i64 va,.int .i64 vb] 112)).drew.cell? ⟨w.heap.size+1,j,none⟩=some (.string (r.getD j emp)):=λj hj=>(I.cell (p:=⟨w.heap.size+1,j,none⟩) (show w.heap.size+1<W.heap.size by omega)).trans (hc j hj)
 have hrr:(W.alloc (.cells #[.int .i64 va,.int .i64 vb] 112)).drew.heap[w.heap.size]? =some (.cells #[.string emp,.int .i64 0,.int .i64 0,.string emp] 117):=(I.block _ (by omega)).trans hr;have hww:(W.alloc (.cells #[.int .i64 va,.int .i64 vb] 112)).drew.heap[w.heap.size+2]? =some (.cells #[.int .i64 va,.int .i64 vb] 112):=by rw[<-hz];exact vB _ _
 have hzz:(W.alloc (.cells #[.int .i64 va,.int .i64 vb] 112)).drew.heap.size=w.heap.size+3:=(by simp:(W.alloc (.cells #[.int .i64 va,.int .i64 vb] 112)).heap.size=W.heap.size+1).trans (by omega);clear Z;have H5:Hid _:=H5;go_wp2;go_region
 all_goals clear hc hk hD hr hc0 a6 a7 a8 a9 aa R I
 all_goals generalize(W.alloc (.cells #[.int .i64 va,.int .i64 vb] 112)).drew=V at hkk hDD hcc hrr hww hzz |-
 all_goals (
  have HC:=zdc (w:=V) (k:=w.heap.size+1) (ps:=r) (by omega) hcc
  rcases H5.out with⟨rfl,H⟩|⟨rfl,hL,J,H⟩
  .rw [H]at ho
   clear HC
   have n1:(1:Nat)≠w.heap.size:=by have:=h.env.low;omega
   have a4:V.drew.cell? ⟨1,0,none⟩=some (.iface bt bp):=hDD.env.bad
   obtain⟨⟨a,t⟩,⟨b,u⟩,⟨c,v⟩,⟨f,x⟩,l,m,n,q⟩:=wN hrr
   go_wp2
   go_region
   all_goals (go_wp2;refine bodyPost_ret (by simp[results,Tryz.results50,go_sem,a,b,c,f];try rfl) rfl ?_;exact⟨by rw[ho];rfl,hkk.drew⟩)
  have a0:V.cell? ⟨w.heap.size+2,0,none⟩=some (.int .i64 va):=by rw[Lib.cell_of_heap hww];rfl
  have a1:V.cell? ⟨w.heap.size+2,1,none⟩=some (.int .i64 vb):=by rw[Lib.cell_of_heap hww];rfl
  clear H5
  by_cases hlen:r.length=N
  rotate_left
  .rw [J (.inl hlen)]at ho
   have ag:decide ((r.length:Int)=L)=false:=decide_eq_false (by omega)
   have ah:(r.length:Int)≠L:=by omega
   clear HC J hL
   rcases H with⟨rfl,rfl,rfl,rfl,_⟩|⟨rfl,rfl,rfl,rfl,_⟩|⟨rfl,rfl,rfl,rfl,_⟩|⟨rfl,rfl,rfl,rfl,_⟩
   all_goals (
    have n1:(1:Nat)≠w.heap.size:=by have:=h.env.low;omega
    have a4:V.drew.cell? ⟨1,0,none⟩=some (.iface bt bp):=hDD.env.bad
    obtain⟨⟨a,t⟩,⟨b,u⟩,⟨c,v⟩,⟨f,x⟩,l,m,n,q⟩:=wN hrr
    go_wp2
    go_region
    all_goals (go_wp2;refine bodyPost_ret (by simp[results,Tryz.results50,go_sem,a,b,c,f];try rfl) rfl ?_;exact⟨by rw[ho];rfl,hkk.drew⟩))
  clear hL
  by_cases hct:Lib.containsS r emp=true
  .rw [J (.inr hct)]at ho
   clear J
   rcases H with⟨rfl,rfl,rfl,rfl,_⟩|⟨rfl,rfl,rfl,rfl,_⟩|⟨rfl,rfl,rfl,rfl,_⟩|⟨rfl,rfl,rfl,rfl,_⟩
   all_goals (
    rw[hlen]at HC |-
    go_wp2_with (go_at_call 71;refine HC.mono ?_)
    clear HC
    have n1:(1:Nat)≠w.heap.size:=by have:=h.env.low;omega
    have a4:V.drew.cell? ⟨1,0,none⟩=some (.iface bt bp):=hDD.env.bad
    obtain⟨⟨a,t⟩,⟨b,u⟩,⟨c,v⟩,⟨f,x⟩,l,m,n,q⟩:=wN hrr
    go_wp2
    go_region
    all_goals (go_wp2;refine bodyPost_ret (by simp[results,Tryz.results50,go_sem,a,b,c,f];try rfl) rfl ?_;exact⟨by rw[ho];rfl,hkk.drew⟩))
  rw[Bool.not_eq_true]at hct
  clear J
  have hS:=So.new hkk hDD hcc hrr hww hzz B
  have ae:V.cell? ⟨w.heap.size+1,0,none⟩=some (.string B):=by rw[hcc 0 (by omega),S]
  clear hcc hDD hkk hrr hww
  rcases H with⟨rfl,rfl,rfl,rfl,hw⟩|⟨rfl,rfl,rfl,rfl,hw⟩|⟨rfl,rfl,rfl,rfl,hw⟩|⟨rfl,rfl,rfl,rfl,hw⟩
  all_goals (
   rw[<-S]at hw
   rw[Q5 hw,if_neg (by rintro(h|h);exact h hlen;rw[hct]at h;cases h),S]at ho
   clear hw
   rw[hlen]at HC |-
   go_wp2_with (go_at_call 71;refine HC.mono ?_)
   clear HC
   clear hct
   go_wp2
   clear a0 a1 ae
   generalize(V.alloc (.cells #[.string B,.int .i64 0,.int .i64 0,.string emp] 117))=U at hS |-)
  .refine wp_loop_rounds 1 ?_
   have O:U.cell? ⟨w.heap.size+2,1,none⟩=some (.int .i64 0):=by rw[Lib.cell_of_heap hS.ww];rfl
   have M:U.cell? ⟨w.heap.size+2,0,none⟩=some (.int .i64 0):=by rw[Lib.cell_of_heap hS.ww];rfl
   rw[rounds_succ]
   obtain⟨⟨a,t⟩,⟨b,u⟩,⟨c,v⟩,⟨f,x⟩,l,m,n,q⟩:=wN hS.rz
   obtain⟨z,A,C,E⟩:=yF hS.oo
   go_wp2
   clear a t b u c v f x l m n q z A C E
   obtain⟨hX,hb⟩:=hS.done (.string B) (.int .i64 0) (.int .i64 0) (.string emp)
   generalize((((U.setCell ⟨w.heap.size,0,none⟩ (.string B)).setCell ⟨w.heap.size,1,none⟩ (.int .i64 0)).setCell ⟨w.heap.size,2,none⟩ (.int .i64 0)).setCell ⟨w.heap.size,3,none⟩ (.string emp))=X at hX hb |-
   obtain⟨a,b,c,f⟩:=yF hX
   refine bodyPost_ret (by simp[results,Tryz.results50,go_sem,a,b,c,f];try rfl) rfl ?_
   exact⟨by rw[ho];rfl,hb⟩
  .refine wp_loop_rounds 2 ?_
   have HN:=Xh (r.getD 1 emp) (hps 1) hS.dk.env
   have pc:=hS.pc 1 (by omega)
   generalize r.getD 1 emp=K at HN pc ho
   rw[rounds_succ]
   go_wp2_with (go_at_call 72;refine HN.mono ?_)
   rintro e F ⟨rfl,hb⟩
   have g:=hS.below hb
   obtain⟨⟨a,t⟩,⟨b,u⟩,⟨c,v⟩,⟨f,x⟩,l,m,n,q⟩:=wN g.rz
   have P:F.cell? ⟨w.heap.size+3,1,none⟩=some (.int .i64 0):=by rw[Lib.cell_of_heap g.oo];rfl
   have Q:F.frozen? ⟨w.heap.size+3,1,none⟩=false:=Lib.frozen_of_heap g.oo 1
   clear HN pc hS
   cases i:jr K.data.toList with
   |none=>
    have o:yo s=none:=by rw[ho,i];rfl
    simp only[i,yM]
    go_wp2
    refine bodyPost_ret (by simp[results,Tryz.results50,go_sem,a,b,c,f];try rfl) rfl ?_
    exact⟨by rw[o];rfl,g.bl⟩
   |some y=>
   simp only[i,yM]
   rw[i]at ho
   clear a t b u c v f x l m n q
   go_wp2
   have hS:=g.put h.d_lt h.mb_lt 1 (.int .i64 y) h.env.low rfl
   clear g P Q hb
   generalize(F.setCell ⟨w.heap.size+3,1,none⟩ (.int .i64 y))=U at hS |-
   have O:U.cell? ⟨w.heap.size+2,1,none⟩=some (.int .i64 0):=by rw[Lib.cell_of_heap hS.ww];rfl
   have M:U.cell? ⟨w.heap.size+2,0,none⟩=some (.int .i64 1):=by rw[Lib.cell_of_heap hS.ww];rfl
   rw[rounds_succ]
   obtain⟨⟨a,t⟩,⟨b,u⟩,⟨c,v⟩,⟨f,x⟩,l,m,n,q⟩:=wN hS.rz
   obtain⟨z,A,C,E⟩:=yF hS.oo
   go_wp2
   clear a t b u c v f x l m n q z A C E
   obtain⟨hX,hb⟩:=hS.done (.string B) (.int .i64 y) (.int .i64 0) (.string emp)
   generalize((((U.setCell ⟨w.heap.size,0,none⟩ (.string B)).setCell ⟨w.heap.size,1,none⟩ (.int .i64 y)).setCell ⟨w.heap.size,2,none⟩ (.int .i64 0)).setCell ⟨w.heap.size,3,none⟩ (.string emp))=X at hX hb |-
   obtain⟨a,b,c,f⟩:=yF hX
   refine bodyPost_ret (by simp[results,Tryz.results50,go_sem,a,b,c,f];try rfl) rfl ?_
   exact⟨by rw[ho];rfl,hb⟩
  .refine wp_loop_rounds 2 ?_
   have HN:=Xh (r.getD 1 emp) (hps 1) hS.dk.env
   have pc:=hS.pc 1 (by omega)
   generalize r.getD 1 emp=K at HN pc ho
   rw[rounds_succ]
   go_wp2_with (go_at_call 72;refine HN.mono ?_)
   rintro e F ⟨rfl,hb⟩
   have g:=hS.below hb
   obtain⟨⟨a,t⟩,⟨b,u⟩,⟨c,v⟩,⟨f,x⟩,l,m,n,q⟩:=wN g.rz
   have P:F.cell? ⟨w.heap.size+3,1,none⟩=some (.int .i64 0):=by rw[Lib.cell_of_heap g.oo];rfl
   have Q:F.frozen? ⟨w.heap.size+3,1,none⟩=false:=Lib.frozen_of_heap g.oo 1
   clear HN pc hS
   cases i:jr K.data.toList with
   |none=>
    have o:yo s=none:=by rw[ho,i];rfl
    simp only[i,yM]
    go_wp2
    refine bodyPost_ret (by simp[results,Tryz.results50,go_sem,a,b,c,f];try rfl) rfl ?_
    exact⟨by rw[o];rfl,g.bl⟩
   |some y=>
   simp only[i,yM]
   rw[i]at ho
   clear a t b u c v f x l m n q
   go_wp2
   have hS:=g.put h.d_lt h.mb_lt 1 (.int .i64 y) h.env.low rfl
   clear g P Q hb
   generalize(F.setCell ⟨w.heap.size+3,1,none⟩ (.int .i64 y))=U at hS |-
   have O:U.cell? ⟨w.heap.size+2,1,none⟩=some (.int .i64 1):=by rw[Lib.cell_of_heap hS.ww];rfl
   have M:U.cell? ⟨w.heap.size+2,0,none⟩=some (.int .i64 1):=by rw[Lib.cell_of_heap hS.ww];rfl
   rw[rounds_succ]
   have pc:=hS.pc 2 (by omega)
   have P:U.cell? ⟨w.heap.size+3,3,none⟩=some (.string ⟨#[]⟩):=by rw[Lib.cell_of_heap hS.oo];rfl
   have Q:U.frozen? ⟨w.heap.size+3,3,none⟩=false:=Lib.frozen_of_heap hS.oo 3
   generalize r.getD 2 emp=T at pc ho
   have a5:=hS.put h.d_lt h.mb_lt 3 (.string T) h.env.low rfl
   obtain⟨⟨a,t⟩,⟨b,u⟩,⟨c,v⟩,⟨f,x⟩,l,m,n,q⟩:=wN hS.rz
   obtain⟨z,A,C,E⟩:=yF hS.oo
   go_wp2
   clear a t b u c v f x l m n q z A C E
   clear P Q pc O M hS
   have hS:=a5
   generalize(U.setCell ⟨w.heap.size+3,3,none⟩ (.string T))=U at hS |-
   obtain⟨hX,hb⟩:=hS.done (.string B) (.int .i64 y) (.int .i64 0) (.string T)
   generalize((((U.setCell ⟨w.heap.size,0,none⟩ (.string B)).setCell ⟨w.heap.size,1,none⟩ (.int .i64 y)).setCell ⟨w.heap.size,2,none⟩ (.int .i64 0)).setCell ⟨w.heap.size,3,none⟩ (.string T))=X at hX hb |-
   obtain⟨a,b,c,f⟩:=yF hX
   refine bodyPost_ret (by simp[results,Tryz.results50,go_sem,a,b,c,f];try rfl) rfl ?_
   exact⟨by rw[ho];rfl,hb⟩
  .refine wp_loop_rounds 3 ?_
   have HN:=Xh (r.getD 1 emp) (hps 1) hS.dk.env
   have pc:=hS.pc 1 (by omega)
   generalize r.getD 1 emp=K at HN pc ho
   rw[rounds_succ]
   go_wp2_with (go_at_call 72;refine HN.mono ?_)
   rintro e F ⟨rfl,hb⟩
   have g:=hS.below hb
   obtain⟨⟨a,t⟩,⟨b,u⟩,⟨c,v⟩,⟨f,x⟩,l,m,n,q⟩:=wN g.rz
   have P:F.cell? ⟨w.heap.size+3,1,none⟩=some (.int .i64 0):=by rw[Lib.cell_of_heap g.oo];rfl
   have Q:F.frozen? ⟨w.heap.size+3,1,none⟩=false:=Lib.frozen_of_heap g.oo 1
   clear HN pc hS
   cases i:jr K.data.toList with
   |none=>
    have o:yo s=none:=by rw[ho,i];rfl
    simp only[i,yM]
    go_wp2
    refine bodyPost_ret (by simp[results,Tryz.results50,go_sem,a,b,c,f];try rfl) rfl ?_
    exact⟨by rw[o];rfl,g.bl⟩
   |some y=>
   simp only[i,yM]
   rw[i]at ho
   clear a t b u c v f x l m n q
   go_wp2
   have hS:=g.put h.d_lt h.mb_lt 1 (.int .i64 y) h.env.low rfl
   clear g P Q hb
   generalize(F.setCell ⟨w.heap.size+3,1,none⟩ (.int .i64 y))=U at hS |-
   have HN:=Xh (r.getD 2 emp) (hps 2) hS.dk.env
   have pc:=hS.pc 2 (by omega)
   generalize r.getD 2 emp=q1 at HN pc ho
   rw[rounds_succ]
   go_wp2_with (go_at_call 72;refine HN.mono ?_)
   rintro e U1 ⟨rfl,hb⟩
   have G:=hS.below hb
   obtain⟨⟨a,t⟩,⟨b,u⟩,⟨c,v⟩,⟨f,x⟩,l,m,n,q⟩:=wN G.rz
   have P:U1.cell? ⟨w.heap.size+3,2,none⟩=some (.int .i64 0):=by rw[Lib.cell_of_heap G.oo];rfl
   have Q:U1.frozen? ⟨w.heap.size+3,2,none⟩=false:=Lib.frozen_of_heap G.oo 2
   clear HN pc hS
   cases i:jr q1.data.toList with
   |none=>
    have o:yo s=none:=by rw[ho,i];rfl
    simp only[i,yM]
    go_wp2
    refine bodyPost_ret (by simp[results,Tryz.results50,go_sem,a,b,c,f];try rfl) rfl ?_
    exact⟨by rw[o];rfl,G.bl⟩
   |some Y=>
   simp only[i,yM]
   rw[i]at ho
   clear a t b u c v f x l m n q
   go_wp2
   have hS:=G.put h.d_lt h.mb_lt 2 (.int .i64 Y) h.env.low rfl
   clear G P Q hb
   generalize(U1.setCell ⟨w.heap.size+3,2,none⟩ (.int .i64 Y))=U at hS |-
   have O:U.cell? ⟨w.heap.size+2,1,none⟩=some (.int .i64 0):=by rw[Lib.cell_of_heap hS.ww];rfl
   have M:U.cell? ⟨w.heap.size+2,0,none⟩=some (.int .i64 2):=by rw[Lib.cell_of_heap hS.ww];rfl
   rw[rounds_succ]
   obtain⟨⟨a,t⟩,⟨b,u⟩,⟨c,v⟩,⟨f,x⟩,l,m,n,q⟩:=wN hS.rz
   obtain⟨z,A,C,E⟩:=yF hS.oo
   go_wp2
   clear a t b u c v f x l m n q z A C E
   obtain⟨hX,hb⟩:=hS.done (.string B) (.int .i64 y) (.int .i64 Y) (.string emp)
   generalize((((U.setCell ⟨w.heap.size,0,none⟩ (.string B)).setCell ⟨w.heap.size,1,none⟩ (.int .i64 y)).setCell ⟨w.heap.size,2,none⟩ (.int .i64 Y)).setCell ⟨w.heap.size,3,none⟩ (.string emp))=X at hX hb |-
   obtain⟨a,b,c,f⟩:=yF hX
   refine bodyPost_ret (by simp[results,Tryz.results50,go_sem,a,b,c,f];try rfl) rfl ?_
   exact⟨by rw[ho];rfl,hb⟩)
end Rn
end Go.Proofs.YtdokgalidhmbbaaGreatDoor
