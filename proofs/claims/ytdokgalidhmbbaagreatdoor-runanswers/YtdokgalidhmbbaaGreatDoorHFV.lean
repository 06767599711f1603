/- What the law RunAnswers needs. -/
import Derived.Test.YtdokgalidhmbbaaGreatDoorHF
import Derived.Test.YtdokgalidhmbbaaGreatDoorHKK
import Derived.Test.YtdokgalidhmbbaaGreatDoorCards
import Derived.Test.YtdokgalidhmbbaaGreatDoorTie
import Derived.ProofKit
import Derived.LaidMore
import Derived.OpenShut
import Derived.Stop.Joined
import Derived.LaidHandle
import Derived.SizedLaws
set_option linter.unusedVariables false
set_option linter.unusedSimpArgs false
set_option maxRecDepth 100000
set_option maxHeartbeats 8000000
namespace Go.Proofs.YtdokgalidhmbbaaGreatDoor
open Go.ChangeShapes Go.WideShapes Go.ChangeAt Go.RowKit
theorem own:ownKnob Tryz.prog.godebug=none:=by kernel_rfl
theorem gForms:Tryz.prog.globalNamed "wanderwire/varint.forms" =some 3:=by kernel_rfl
theorem tForms:(Tryz.prog.globals[3]?).map (·.type)=some 196:=by kernel_rfl
theorem gCounts:Tryz.prog.globalNamed "wanderwire/frame.counts" =some 9:=by kernel_rfl
theorem tCounts:(Tryz.prog.globals[9]?).map (·.type)=some 305:=by kernel_rfl
theorem Wm:Tryz.prog.cellsOf 3=1:=by kernel_rfl
theorem zcn:Tryz.prog.cellsOf 195=2:=by kernel_rfl
theorem zco:Tryz.prog.cellsOf 196=6:=by kernel_rfl
theorem zcp:Tryz.prog.cellsOf 305=9:=by kernel_rfl
def zjg:List (String×DataW Unit):=[("wanderwire/varint.forms",Rows.laid_wanderwire_varint_forms),("wanderwire/frame.counts",Rows.laid_wanderwire_frame_counts)]
theorem Jy{H:Type}{f:TypeId×Value->H}{w:World}{T:Nat}{l:Nat->Bool}{k:Bool}{g:Nat}{c d:Value}{a b:Int}{X:List MemPlace}
  (h:DataW.trod f Tryz.prog w T l k g 195 [c,d]=some (.agg [.lit (.int .i64 a),.lit (.int .i64 b)],X)):c=.int .i64 a/\d=.int .i64 b:=by
 obtain⟨s,t,m,e,_,i,j⟩:=trod_struct2 Tryz.underlying195 h;obtain⟨q,e0,n,_⟩:=DataW.trod_int Tryz.underlying3 i;obtain⟨r,e1,p,_⟩:=DataW.trod_int Tryz.underlying3 j;simp only[Wm]at e0 e1;simp at e0 e1;subst e0 e1;rw[n,p]at e;simp at e;exact⟨by rw[e.1.1],by rw[e.1.2]⟩
theorem yJ{H:Type}{b:TypeId×Value->H}{w:World}{T:Nat}{f:Nat->Bool}{e:Bool}{d:Nat}{c:Value}{a:Int}{X:List MemPlace}
  (h:DataW.trod b Tryz.prog w T f e d 3 [c]=some (.lit (.int .i64 a),X)):c=.int .i64 a:=by
 obtain⟨g,e0,x0,_⟩:=DataW.trod_int Tryz.underlying3 h;simp at e0 x0;rw[e0,x0.1]
theorem zue{ps:List MemPlace}{W:World}(h:DataW.LaidVars Tryz.prog W zjg ps):V.Forms W/\Cnts W:=by
 obtain⟨Z,t0,w,X,p0,u,hg0,ht0,z,hd0,o,_⟩:=h;obtain⟨g1,t1,x,Y,p1,v,hg1,ht1,A,hd1,_,_⟩:=o;constructor;obtain rfl:=Option.some.inj (gForms.symm.trans hg0);obtain rfl:=Option.some.inj (tForms.symm.trans ht0);obtain⟨K,C,rfl,f,hlen,g,a⟩:=DataW.trod_array Tryz.underlying196 hd0;have cell:=World.var?_cell hg0 z;obtain⟨j⟩:=w;rw[zco]at hlen;simp only[Prod.mk.injEq]at f;match j,hlen with
 |[y,B,F,P,Q,U],_=>
  match K,g with
  |[k,l,m],_=>
   have h0:=a 0 (by decide);have h1:=a 1 (by decide);have h2:=a 2 (by decide);simp only[zcn]at h0 h1 h2;have hx:=f.1;simp only[List.map_cons,List.map_nil,Rows.laid_wanderwire_varint_forms,DataW.agg.injEq,List.cons.injEq]at hx;obtain⟨E,u⟩:=k;obtain⟨G,v⟩:=l;obtain⟨H,D⟩:=m;obtain⟨b,d,e,_⟩:=hx;dsimp only at b d e;subst b d e;obtain⟨rfl,rfl⟩:=Jy h0;obtain⟨rfl,rfl⟩:=Jy h1;obtain⟨rfl,rfl⟩:=Jy h2;refine⟨cell 0,cell 1,cell 2,cell 3,cell 4,cell 5,?_⟩
   have c:=cell 0;by_cases i:3<W.heap.size;exact i
   .exfalso
    simp[World.cell?,Array.getElem?_eq_none (show W.heap.size<=3 by omega)]at c
 obtain rfl:=Option.some.inj (gCounts.symm.trans hg1);obtain rfl:=Option.some.inj (tCounts.symm.trans ht1);obtain⟨K,C,rfl,f,hlen,g,a⟩:=DataW.trod_array Tryz.underlying305 hd1;have cell:=World.var?_cell hg1 A;obtain⟨j⟩:=x;rw[zcp]at hlen;simp only[Prod.mk.injEq]at f;match j,hlen with
 |[y,B,F,P,Q,U,R,S,T],_=>
  match K,g with
  |[k,l,m,I,J,L,M,N,O],_=>
   have h0:=a 0 (by decide);have h1:=a 1 (by decide);have h2:=a 2 (by decide);have h3:=a 3 (by decide);have h4:=a 4 (by decide);have h5:=a 5 (by decide);have h6:=a 6 (by decide);have h7:=a 7 (by decide);have h8:=a 8 (by decide);simp only[Wm]at h0 h1 h2 h3 h4 h5 h6 h7 h8;have hx:=f.1;simp only[List.map_cons,List.map_nil,Rows.laid_wanderwire_frame_counts,DataW.agg.injEq,List.cons.injEq]at hx;obtain⟨E,u⟩:=k
   obtain⟨G,v⟩:=l;obtain⟨H,D⟩:=m;obtain⟨r3,q3⟩:=I;obtain⟨r4,q4⟩:=J;obtain⟨r5,q5⟩:=L;obtain⟨r6,q6⟩:=M;obtain⟨r7,q7⟩:=N;obtain⟨r8,q8⟩:=O;obtain⟨b,d,e,n,p,q,r,s,t,_⟩:=hx;dsimp only at b d e n p q r s t;subst b d e n p q r s t;obtain rfl:=yJ h0;obtain rfl:=yJ h1;obtain rfl:=yJ h2;obtain rfl:=yJ h3;obtain rfl:=yJ h4;obtain rfl:=yJ h5;obtain rfl:=yJ h6;obtain rfl:=yJ h7;obtain rfl:=yJ h8;refine⟨cell 0,cell 1,cell 2,cell 3,cell 4,cell 5,cell 6,cell 7,cell 8,?_⟩
   have c:=cell 0;by_cases i:9<W.heap.size;exact i
   .exfalso
    simp[World.cell?,Array.getElem?_eq_none (show W.heap.size<=9 by omega)]at c
theorem zgv:Tryz.prog.globalNamed "errors.errorType" =some 0:=by kernel_rfl
theorem rtRow:(Tryz.prog.cutTypes.find? (·.1== "internal/reflectlite.rtype")).map (·.2)=some 170:=by kernel_rfl
theorem zf0:((List.range 366).filter λt=>Tryz.prog.rowNamed t [101,114,114,111,114])=[33]:=by kernel_rfl
theorem zt5:Tryz.prog.types.size=366:=by kernel_rfl
end Go.Proofs.YtdokgalidhmbbaaGreatDoor
