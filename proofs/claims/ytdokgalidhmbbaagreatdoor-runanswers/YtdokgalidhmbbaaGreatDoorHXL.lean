/- What the law RunAnswers needs. -/
import Derived.Test.YtdokgalidhmbbaaGreatDoorHFV
import Derived.Test.YtdokgalidhmbbaaGreatDoorHWX
import Derived.Lay
import Derived.HandedShaped
import Derived.Lib.LaidTab
import Derived.Lib.ItoaNum
set_option linter.unusedVariables false
set_option linter.unusedSimpArgs false
set_option maxRecDepth 100000
set_option maxHeartbeats 8000000
namespace Go.Proofs.YtdokgalidhmbbaaGreatDoor
namespace Rn
open Go.ChangeShapes Go.WideShapes Go.ChangeAt Go.RowKit
theorem QW{P:Program}{w:World}:∀ {l:List (String×DataW Unit)} {X:List MemPlace},DataW.LaidVars P w l X->∀ {x:String×DataW Unit},x∈l->
  ∃g t f j p,P.globalNamed x.1=some g/\(P.globals[g]?).map (·.type)=some t/\w.var? P x.1=some f/\DataW.trod (λ_=>()) P w 0 (λ_=>true) false j t f.toList=some (x.2,p)/\∀y∈MemPlace.row ⟨g,0,none⟩ f.size,y∈X
 |[],_,_,_,i=>by cases i
 |(n,d)::r,X,h,x,i=>by
  obtain⟨g,t,f,j,p,q,Q,V,o,F,U,e⟩:=h
  rcases List.mem_cons.1 i with rfl|i
  .exact ⟨g,t,f,j,p,Q,V,o,F,λy m=>by rw[e];exact List.mem_append_left _ (List.mem_append_left _ m)⟩
  .obtain ⟨B,A,s,v,z,a,b,c,u,k⟩:=QW U i
   exact⟨B,A,s,v,z,a,b,c,u,λy m=>by rw[e];exact List.mem_append_right _ (k y m)⟩
theorem gI: "*" ++ "errors.errorString" = "*errors.errorString" :=by decide
theorem zp8(u:TypeId)(h:Tryz.prog.typeName? 3 u=some "*errors.errorString"):u=286:=
 typeName_ptr_named (nm:= "errors.errorString") (by rw[gI];kernel_rfl) (by kernel_rfl) (by decide) u (by rw[gI];exact h)
theorem zcl:Tryz.prog.cellsOf 288=1:=by kernel_rfl
theorem zcm:Tryz.prog.cellsOf 9=1:=by kernel_rfl
variable {W:World}
theorem Vi{l:List (String×DataW Unit)}(h:laidMet Tryz.prog l W){nm:String}{text:List UInt8}(q:(nm,DataW.iface "*errors.errorString" (.ptr (.agg [.lit (.string text)])))∈l){g:Nat}(b:Tryz.prog.globalNamed nm=some g)(n:(Tryz.prog.globals[g]?).map (·.type)=some 33):
  ∃a s,W.var? Tryz.prog nm=some #[.iface 286 (.pointer (some a))]/\W.cell? a=some (.string s)/\s.data.toList=text:=by
 obtain⟨X,j,F,k⟩:=h;obtain⟨B,t,f,y,p,c,ht',hv,hd,hp⟩:=QW j q;dsimp only at c hv hd;obtain rfl:=Option.some.inj (b.symm.trans c);obtain rfl:=Option.some.inj (n.symm.trans ht');obtain⟨r⟩:=f;have w:∀u v,r=[.iface u v]->Value.okWide Tryz.prog W .any 0 u v:=λu v e=>by
  subst e;exact(k g 0 (hp _ (by simp[MemPlace.row]))).2 u v (by simpa using World.var?_cell b hv 0)
 obtain⟨d,x,rfl,i,m,_,_⟩:=errorString_of_trod Tryz.underlying33 zp8 Tryz.underlying286 Tryz.underlying288 rfl rfl Tryz.underlying9 zcl zcm hd w;exact⟨d,x,hv,i,m⟩
def Z8:List (String×DataW Unit):=[("math/bits.deBruijn32tab",Rows.laid_math_bits_deBruijn32tab),("math/bits.deBruijn64tab",Rows.laid_math_bits_deBruijn64tab),("internal/strconv.uint64pow10",Rows.laid_internal_strconv_uint64pow10),("unicode/utf8.acceptRanges",Rows.laid_unicode_utf8_acceptRanges),("errors.errorType",Rows.laid_errors_errorType),("strconv.ErrRange",Rows.laid_strconv_ErrRange),("strconv.ErrSyntax",Rows.laid_strconv_ErrSyntax),("wanderwire/varint.forms",Rows.laid_wanderwire_varint_forms),("wanderwire/frame.counts",Rows.laid_wanderwire_frame_counts),("wanderwire/run.errBad",Rows.laid_wanderwire_run_errBad),("unicode/utf8.first",Rows.laid_unicode_utf8_first)]
def wG:List (String×DataW Unit):=[("math/bits.deBruijn32tab",Rows.laid_math_bits_deBruijn32tab),("math/bits.deBruijn64tab",Rows.laid_math_bits_deBruijn64tab),("internal/strconv.uint64pow10",Rows.laid_internal_strconv_uint64pow10),("unicode/utf8.acceptRanges",Rows.laid_unicode_utf8_acceptRanges),("strconv.ErrRange",Rows.laid_strconv_ErrRange),("strconv.ErrSyntax",Rows.laid_strconv_ErrSyntax),("wanderwire/varint.forms",Rows.laid_wanderwire_varint_forms),("wanderwire/frame.counts",Rows.laid_wanderwire_frame_counts),("wanderwire/run.errBad",Rows.laid_wanderwire_run_errBad),("unicode/utf8.first",Rows.laid_unicode_utf8_first)]
def X6:List (String×DataW Unit):=[("unicode/utf8.first",Rows.laid_unicode_utf8_first)]
theorem zmp(h:laidMetH Tryz.prog Z8 W):laidMet Tryz.prog wG W/\handlesMet Tryz.prog [("errors.errorType",Rows.laid_errors_errorType)] W:=h
theorem zr7(h:laidMet Tryz.prog wG W):Lib.TabIs Tryz.prog W "internal/strconv.uint64pow10" .u64 Lib.pow10Tab:=by
 obtain⟨X,c,_,_⟩:=h;obtain⟨g,t,d,f,p,a,ht',b,hd,i⟩:=QW c (x:=("internal/strconv.uint64pow10",Rows.laid_internal_strconv_uint64pow10)) (by simp[wG]);dsimp only at a b hd;obtain rfl:=Option.some.inj ((show Tryz.prog.globalNamed "internal/strconv.uint64pow10" =some 6 by kernel_rfl).symm.trans a);obtain rfl:=Option.some.inj ((show(Tryz.prog.globals[6]?).map (·.type)=some 274 by kernel_rfl).symm.trans ht')
 have e:(Rows.laid_internal_strconv_uint64pow10:DataW Unit)=Lib.tabData .u64 Lib.pow10Tab:=by kernel_rfl
 rw[e]at hd;unfold Lib.TabIs;rw[b,<-Lib.cells_of_tab Tryz.underlying274 Tryz.underlying250 (by kernel_rfl) (by kernel_rfl) hd]
theorem zgg(h:laidMet Tryz.prog wG W):V.Forms W/\Cnts W:=by
 obtain⟨X,a,_,_⟩:=h;obtain⟨p,t,i,m,r,b,d,f,k,_⟩:=QW a (x:=("wanderwire/varint.forms",Rows.laid_wanderwire_varint_forms)) (by simp[wG]);obtain⟨q,u,j,n,s,c,e,g,l,_⟩:=QW a (x:=("wanderwire/frame.counts",Rows.laid_wanderwire_frame_counts)) (by simp[wG]);exact zue (ps:=_) ⟨p,t,i,m,r,_,b,d,f,k,⟨q,u,j,n,s,[],c,e,g,l,rfl,rfl⟩,rfl⟩
theorem zhn(f:handlesMet Tryz.prog [("errors.errorType",Rows.laid_errors_errorType)] W):Handle W:=by
 obtain⟨i,u,j,b,c,d,e4,e5⟩:=f _ (List.mem_singleton.2 rfl);have e:i=[101,114,114,111,114]:=(Option.some.inj b).symm;subst e;obtain rfl:=Option.some.inj (rtRow.symm.trans c);have hm:j∈(List.range 366).filter λt=>Tryz.prog.rowNamed t [101,114,114,111,114]:=List.mem_filter.2 ⟨List.mem_range.2 (by rw[<-zt5];exact d),e4⟩;rw[zf0]at hm;obtain rfl:=List.mem_singleton.1 hm;have h:typeHandle Tryz.prog 33=.pointer (some ⟨17,33,none⟩):=by kernel_rfl
 rw[h]at e5;have a:W.cell? ⟨0,0,none⟩=some (.iface 170 (.agg #[.pointer (some ⟨17,33,none⟩)])):=by simpa using World.var?_cell zgv e5 0
 refine⟨a,?_⟩;by_cases g:0<W.heap.size;exact g
 .exfalso
  simp[World.cell?,Array.getElem?_eq_none (show W.heap.size<=0 by omega)]at a
theorem zuv(a:Os)(b:Array Value):laidMet Tryz.prog wG ((((World.doorLaid Tryz.prog 111 a).layVars Tryz.prog X6).forCall (λ_ _=>0) ⟨#[],b,[]⟩).memory):=
 (show laidMet Tryz.prog wG ((World.doorLaid Tryz.prog 111 a).layVars Tryz.prog X6)from laidMet_layVars (w0:=World.doorLaid Tryz.prog 111 a) ["unicode/utf8.first"] ((List.range (World.doorLaid Tryz.prog 111 a).heap.size).filter (· !=7)) rfl (by kernel_rfl) (by kernel_rfl)
  (LaidIn.of_run ((List.range (World.doorLaid Tryz.prog 111 a).heap.size).filter (· !=7)) 8 (by kernel_rfl) (by kernel_rfl) (by kernel_rfl) (by kernel_rfl))).of_heap (by simp[World.memory,World.forCall,Input.heap])
theorem zuw(b:Os)(a:Array Value):laidMetH Tryz.prog Z8 ((((World.doorLaid Tryz.prog 111 b).layVars Tryz.prog X6).forCall (λ_ _=>0) ⟨#[],a,[]⟩).memory):=
 laidMetH_of_parts3 (fuel:=8) (zuv b a) (by kernel_rfl) (by kernel_rfl)
end Rn
end Go.Proofs.YtdokgalidhmbbaaGreatDoor
namespace Go.Proofs.YtdokgalidhmbbaaGreatDoor
namespace Rn
open Go.ChangeShapes Go.WideShapes Go.ChangeAt Go.RowKit
theorem zhs:decide (18<(begin Tryz.prog (λ_ _=>0) default).world.heap.size)=true:=by kernel_rfl
theorem zhg:Tryz.prog.globals.size=17:=by kernel_rfl
theorem Yf:Tryz.prog.globalNamed "wanderwire/run.errBad" =some 1:=by kernel_rfl
theorem zaw{W:World}(h:laidMetH Tryz.prog Z8 W)(c:W.ShapedOpen Tryz.prog):∃I,Al W I:=by
 obtain⟨b,e⟩:=zmp h;obtain⟨a,s,j,d,i⟩:=Vi b (nm:= "wanderwire/run.errBad") (text:=[98,97,100]) (by simp[wG,Rows.laid_wanderwire_run_errBad]) Yf (by kernel_rfl);obtain⟨m,_,k,_⟩:=Vi b (nm:= "strconv.ErrSyntax") (text:=[105,110,118,97,108,105,100,32,115,121,110,116,97,120]) (by simp[wG,Rows.laid_strconv_ErrSyntax]) Yi (by kernel_rfl);obtain⟨n,_,l,_⟩:=Vi b (nm:= "strconv.ErrRange") (text:=[118,97,108,117,101,32,111,117,116,32,111,102,32,114,97,110,103,101]) (by simp[wG,Rows.laid_strconv_ErrRange]) Yh (by kernel_rfl)
 have f:18<=W.heap.size:=by
  have p:=of_decide_eq_true zhs;obtain⟨o,_,g,_⟩:=c.2 17 (by rw[zhg];exact Nat.le_refl _) (by omega);have:=(Array.getElem?_eq_some_iff.1 g).1;omega
 refine⟨_,⟨f,by simpa using World.var?_cell Yf j 0,⟨_,_,rfl⟩,zr7 b,⟨_,_,k⟩,⟨_,_,l⟩⟩,⟨zhn e,a,rfl,?_⟩,Tryz.laysM146.s1_3 W c,zgg b⟩;rw[d];exact congrArg (λx=>some (Value.string x)) (by rw[<-kK s,i];rfl)
theorem zpc{H:Type}{d:TypeId×Value->H}{l:Os}{f:FuncId}{b:Func}{s:ChangeSpec}{X:World->Array Value->Prop}(q:∀(w E:World) (a:Array Value),w.heap=E.heap->X w a->X E a)
  (o:ownKnob Tryz.checked.prog.godebug=none) (z:l.Started) (V:Tryz.checked.prog.inits.idxOf? f=none) (u:Tryz.checked.prog.funcs[f]? =some b)
  (A:∃(w:World) (c:Tape) (i:Input),w.os=l/\(w.forCall c i).Shaped Tryz.checked.prog/\i.vars=[]/\Input.okWide Tryz.checked.prog (w.forCall c i) .any w.heap.size f i/\
   ((s.pre d Tryz.checked.prog b [] false (w.forCall c i).memory i.args/\X (w.forCall c i).memory i.args)/\sizedMet d Tryz.checked.prog b (OpenSpec.ofChange s) false (w.forCall c i).memory i.args)/\({}:Assume).holds Tryz.checked.prog (lone (Frame.enter Tryz.checked.prog f i.args .normal) [] (w.forCall c i)))
  (contract:∀(W:World) (T:Nat) (a:Array Value) (g h:List (DataW H)) (k:List MemPlace),
   (∀(j:Nat) t v,b.params[j]? =some t->a[j]? =some v->Value.okWide Tryz.checked.prog W .any T t v)->DataW.Whole d Tryz.checked.prog b.params.toList s.vars false W a.toList g h k->
   (DataW.weightsEach Tryz.checked.prog (b.params.toList++s.plain.varTypes Tryz.checked.prog) (g++h)).all (·<=reachBytes)=true->X W a->W.ShapedOpen Tryz.checked.prog->
   Calls Tryz.checked.prog f a W λe m=>∃v,e=.returned v/\s.post d Tryz.checked.prog b false true false false W a v m):
  ReturnsInHanded {} Tryz.checked l f .any (λw a=>(s.pre d Tryz.checked.prog b [] false w a/\X w a)/\sizedMet d Tryz.checked.prog b (OpenSpec.ofChange s) false w a) (s.post d Tryz.checked.prog b false true false false):=by
 refine returnsInHanded_of_calls o z V A ?_;intro w c i _ F _ y hpre _;obtain⟨_,_,_,p,x,_,_,_,_,P⟩:=y;obtain rfl:p=b:=Option.some.inj (x.symm.trans u);obtain⟨⟨⟨g,h,k,n,_⟩,Q⟩,U⟩:=hpre;refine(contract (w.forCall c i) w.heap.size i.args g h k P (DataW.Whole.of_heap (w':=w.forCall c i) (by rfl) n) (U.weights n) (q _ _ _ (by rfl) Q) F).mono λe m ⟨v,r,B⟩=>?_;subst r;exact ChangeSpec.post_blind B
end Rn
end Go.Proofs.YtdokgalidhmbbaaGreatDoor
