/- What the law RunAnswers needs. -/
import Derived.Test.YtdokgalidhmbbaaGreatDoorHKK
import Derived.WalkLawsBesides
set_option linter.unusedVariables false
set_option linter.unusedSimpArgs false
set_option maxRecDepth 100000
set_option maxHeartbeats 8000000
namespace Go.Proofs.YtdokgalidhmbbaaGreatDoor
namespace Rn
open Go.RowKit Go.Extern.Stop Go.Stop Go.Extern
theorem zjf(t:Addr)(w:World):(ReflectliteValue.unpack (.iface 79 (.pointer (some t)))).run Tryz.prog w
  =.ok (.agg #[.pointer (some ⟨17,79,none⟩),.pointer (some ⟨w.heap.size,0,none⟩),.int .u64 150]) (w.alloc (.cells #[.pointer (some t)] 79)):=by kernel_rfl
theorem zjd(a:Addr)(w:World):(ReflectliteValue.methodAny (ReflectliteValue.valueError "reflectlite.Value.Type" 0) (λt _ _ _=>ReflectliteType.toType t) #[.agg #[.pointer (some ⟨17,79,none⟩),.pointer (some a),.int .u64 150]]).run Tryz.prog w
  =.ok (.iface 170 (.agg #[.pointer (some ⟨17,79,none⟩)])) w:=by kernel_rfl
theorem zi8(w:World):((ReflectliteType.abiMethod λt=>Functor.map (λa:Nat=>Value.int IntKind.u8 (a:Int)) (Rtype.kind t)) #[.pointer (some ⟨17,79,none⟩)]).run Tryz.prog w=.ok (.int .u8 22) w:=by kernel_rfl
theorem zi7(w:World):((ReflectliteType.abiMethod λt=>Functor.map (λa:Nat=>Value.int IntKind.u8 (a:Int)) (Rtype.kind t)) #[.pointer (some ⟨17,77,none⟩)]).run Tryz.prog w=.ok (.int .u8 25) w:=by kernel_rfl
theorem zi6(a:Addr)(W:World):(ReflectliteValue.method (ReflectliteValue.valueError "reflectlite.Value.IsNil" 0) ReflectliteValue.isNil #[.agg #[.pointer (some ⟨17,79,none⟩),.pointer (some a),.int .u64 150]]).run Tryz.prog W
  =(ReflectliteValue.isNil 79 a 150 22).run Tryz.prog W:=by kernel_rfl
theorem zi2(a:Addr)(W:World):(ReflectliteValue.method (ReflectliteValue.valueError "reflectlite.Value.Elem" 0) ReflectliteValue.elem #[.agg #[.pointer (some ⟨17,79,none⟩),.pointer (some a),.int .u64 150]]).run Tryz.prog W
  =(ReflectliteValue.elem 79 a 150 22).run Tryz.prog W:=by kernel_rfl
theorem zi5(a p:Addr)(W:World)(b:W.cell? a=some (.pointer (some p))):
  (ReflectliteValue.method (ReflectliteValue.valueError "reflectlite.Value.IsNil" 0) ReflectliteValue.isNil #[.agg #[.pointer (some ⟨17,79,none⟩),.pointer (some a),.int .u64 150]]).run Tryz.prog W=.ok (.bool false) W:=by
 rw[zi6];simp[ReflectliteValue.isNil,loadVar,isAgg,underlying,Tryz.underlying79,b,Result.andThen]
theorem zi1(w:World):(ReflectliteType.method ReflectliteType.elem #[.agg #[.pointer (some ⟨17,79,none⟩)]]).run Tryz.prog w=.ok (.iface 170 (.agg #[.pointer (some ⟨17,77,none⟩)])) w:=by kernel_rfl
theorem zi4(w:World):(ReflectliteType.relation "Implements" ReflectliteType.implements_ #[.agg #[.pointer (some ⟨17,77,none⟩)],.iface 170 (.agg #[.pointer (some ⟨17,33,none⟩)])]).run Tryz.prog w=.ok (.bool true) w:=by kernel_rfl
theorem KV(v:Value)(w:World):(ReflectliteType.typeOf #[.iface 77 v]).run Tryz.prog w=.ok (.iface 170 (.agg #[.pointer (some ⟨17,77,none⟩)])) w:=by kernel_rfl
theorem ziy(w:World):(ReflectliteType.relation "AssignableTo" ReflectliteType.assignableTo #[.agg #[.pointer (some ⟨17,77,none⟩)],.iface 170 (.agg #[.pointer (some ⟨17,77,none⟩)])]).run Tryz.prog w=.ok (.bool true) w:=by kernel_rfl
theorem zje(e:Value)(w:World):(ReflectliteValue.unpack (.iface 77 (.agg #[e]))).run Tryz.prog w
  =.ok (.agg #[.pointer (some ⟨17,77,none⟩),.pointer (some ⟨w.heap.size,0,none⟩),.int .u64 153]) (w.alloc (.cells #[e] 77)):=by kernel_rfl
theorem zi0(w:World):(Rtype.elem? 79).run Tryz.prog w=.ok (some 77) w:=by kernel_rfl
theorem zi9(p:Addr)(w:World):(ReflectliteValue.mk 77 p ReflectliteValue.flagAddr).run Tryz.prog w=.ok (.agg #[.pointer (some ⟨17,77,none⟩),.pointer (some p),.int .u64 409]) w:=by kernel_rfl
theorem zi3(a p:Addr)(W:World)(b:W.cell? a=some (.pointer (some p))):
  (ReflectliteValue.method (ReflectliteValue.valueError "reflectlite.Value.Elem" 0) ReflectliteValue.elem #[.agg #[.pointer (some ⟨17,79,none⟩),.pointer (some a),.int .u64 150]]).run Tryz.prog W
   =.ok (.agg #[.pointer (some ⟨17,77,none⟩),.pointer (some p),.int .u64 409]) W:=by
 rw[zi2];simp[ReflectliteValue.elem,loadVar,isAgg,underlying,Tryz.underlying79,b,Result.andThen,zi0,zi9]
theorem zjb(a:Addr)(w:World):(ReflectliteValue.parts (.agg #[.pointer (some ⟨17,77,none⟩),.pointer (some a),.int .u64 409])).run Tryz.prog w=.ok (some (77,a,409)) w:=by kernel_rfl
theorem zja(a:Addr)(w:World):(ReflectliteValue.parts (.agg #[.pointer (some ⟨17,77,none⟩),.pointer (some a),.int .u64 153])).run Tryz.prog w=.ok (some (77,a,153)) w:=by kernel_rfl
theorem ziz(w:World):(Rtype.directlyAssignable 77 77).run Tryz.prog w=.ok true w:=by kernel_rfl
theorem zjc(a b:Addr)(e:Value)(f:e.oneCell'=true)(j:Value)(W:World)(d:W.cell? b=some e)(h:W.cell? a=some j)(g:W.frozen? a=false):
  (ReflectliteValue.set #[.agg #[.pointer (some ⟨17,77,none⟩),.pointer (some a),.int .u64 409],.agg #[.pointer (some ⟨17,77,none⟩),.pointer (some b),.int .u64 153]]).run Tryz.prog W
   =.ok (.tuple #[]) (W.setCell a e):=by
 show Sem.run Tryz.prog (bind (ReflectliteValue.parts (.agg #[.pointer (some ⟨17,77,none⟩),.pointer (some a),.int .u64 409])) λp=>bind (ReflectliteValue.parts (.agg #[.pointer (some ⟨17,77,none⟩),.pointer (some b),.int .u64 153])) λq=>_) W=_;simp only[Sem.run_bind,zjb,zja,Result.andThen];have c:=Tryz.isAgg77 W;have i:=Tryz.sizeOf77 W;simp[ReflectliteValue.flagAddr,loadVar,c,i,d,Result.andThen,ziz,storeVar,Value.cells,storeCells,loadCells,loadCellsFrom,Addr.add]
 rw[run_store Tryz.prog W a _ _ f];simp[h,g]
theorem za7(e:Value)(i:e.oneCell'=true)(t:Addr)(d:Value)(w:World)(a:Handle w)(b:w.cell? t=some d)(j:w.frozen? t=false):
  Calls Tryz.prog 36 #[.iface 77 (.agg #[e]),.iface 79 (.pointer (some t))] w λg E=>g=.returned (.bool true)/\E=((((w.alloc (.cells #[.pointer (some t)] 79)).alloc (.cells #[.pointer (some ⟨17,79,none⟩),.pointer (some ⟨w.heap.size,0,none⟩),.int .u64 150] 123)).alloc (.cells #[.pointer (some ⟨17,79,none⟩),.pointer (some ⟨w.heap.size,0,none⟩),.int .u64 150] 123)).alloc (.cells #[e] 77)).setCell t e:=by
 have P:=@run_callFunc_extern Tryz.prog 52 _ (λf=>ReflectliteValue.unpack (f.getD 0 (.tuple #[]))) Tryz.func52 (by kernel_rfl) (by kernel_rfl) (by kernel_rfl) (by kernel_rfl);have Q:=@run_callFunc_extern Tryz.prog 53 _ (ReflectliteValue.methodAny (ReflectliteValue.valueError "reflectlite.Value.Type" 0) (λt _ _ _=>ReflectliteType.toType t)) Tryz.func53 (by kernel_rfl) (by kernel_rfl) (by kernel_rfl) (by kernel_rfl)
 have U:=@run_callFunc_extern Tryz.prog 54 _ (ReflectliteValue.method (ReflectliteValue.valueError "reflectlite.Value.IsNil" 0) ReflectliteValue.isNil) Tryz.func54 (by kernel_rfl) (by kernel_rfl) (by kernel_rfl) (by kernel_rfl);have x:=@run_callFunc_extern Tryz.prog 262 _ (ReflectliteType.abiMethod λt=>do pure (.int .u8 (<-Rtype.kind t))) Tryz.func262 (by kernel_rfl) (by kernel_rfl) (by kernel_rfl) (by kernel_rfl)
 have B:=@run_callFunc_extern Tryz.prog 273 _ (ReflectliteType.method ReflectliteType.elem) Tryz.func273 (by kernel_rfl) (by kernel_rfl) (by kernel_rfl) (by kernel_rfl);have F:=@run_callFunc_extern Tryz.prog 274 _ (ReflectliteType.relation "Implements" ReflectliteType.implements_) Tryz.func274 (by kernel_rfl) (by kernel_rfl) (by kernel_rfl) (by kernel_rfl);have s:=@run_callFunc_extern Tryz.prog 84 _ ReflectliteType.typeOf Tryz.func84 (by kernel_rfl) (by kernel_rfl) (by kernel_rfl) (by kernel_rfl)
 have y:=@run_callFunc_extern Tryz.prog 271 _ (ReflectliteType.relation "AssignableTo" ReflectliteType.assignableTo) Tryz.func271 (by kernel_rfl) (by kernel_rfl) (by kernel_rfl) (by kernel_rfl);have u:=@run_callFunc_extern Tryz.prog 85 _ (ReflectliteValue.method (ReflectliteValue.valueError "reflectlite.Value.Elem" 0) ReflectliteValue.elem) Tryz.func85 (by kernel_rfl) (by kernel_rfl) (by kernel_rfl) (by kernel_rfl)
 have v:=@run_callFunc_extern Tryz.prog 86 _ ReflectliteValue.set Tryz.func86 (by kernel_rfl) (by kernel_rfl) (by kernel_rfl) (by kernel_rfl);have K:=KV;have C:=VO;have m:=ziy;have L:=zje;have q:=zjf;have r:=zjd;have H:=VR;have D:=VP;have G:=VQ;have A:=zi8;have z:=zi7;have n:=zi1;have o:=zi4;have I:=zi5 ⟨w.heap.size,0,none⟩ t ((w.alloc (.cells #[.pointer (some t)] 79)).alloc (.cells #[.pointer (some ⟨17,79,none⟩),.pointer (some ⟨w.heap.size,0,none⟩),.int .u64 150] 123)) (by simp)
 have l:0<w.heap.size:=a.pos;have k:=a.cell;have V:((w.alloc (.cells #[.pointer (some t)] 79)).alloc (.cells #[.pointer (some ⟨17,79,none⟩),.pointer (some ⟨w.heap.size,0,none⟩),.int .u64 150] 123)).cell? ⟨0,0,none⟩=some (.iface 170 (.agg #[.pointer (some ⟨17,33,none⟩)])):=by
  rw[World.cell?_alloc_lt _ _ ⟨0,0,none⟩ (by simp<;>omega),World.cell?_alloc_lt _ _ ⟨0,0,none⟩ l];exact k
 have c:t.block<w.heap.size:=by
  rcases Nat.lt_or_ge t.block w.heap.size with h|h;exact h;simp [World.cell?,Array.getElem?_eq_none h]at b
 have p:=zi3 ⟨w.heap.size,0,none⟩ t (((w.alloc (.cells #[.pointer (some t)] 79)).alloc (.cells #[.pointer (some ⟨17,79,none⟩),.pointer (some ⟨w.heap.size,0,none⟩),.int .u64 150] 123)).alloc (.cells #[.pointer (some ⟨17,79,none⟩),.pointer (some ⟨w.heap.size,0,none⟩),.int .u64 150] 123)) (by rw[World.cell?_alloc_lt _ _ ⟨w.heap.size,0,none⟩ (by simp;omega)];simp)
 have J:=zjc t ⟨w.heap.size+1+1+1,0,none⟩ e i d ((((w.alloc (.cells #[.pointer (some t)] 79)).alloc (.cells #[.pointer (some ⟨17,79,none⟩),.pointer (some ⟨w.heap.size,0,none⟩),.int .u64 150] 123)).alloc (.cells #[.pointer (some ⟨17,79,none⟩),.pointer (some ⟨w.heap.size,0,none⟩),.int .u64 150] 123)).alloc (.cells #[e] 77))
  (by rw[World.cell?_alloc_at _ _ _ _ (by simp)];rfl)
  (by rw[World.cell?_alloc_lt _ _ t (by simp;omega),World.cell?_alloc_lt _ _ t (by simp;omega),World.cell?_alloc_lt _ _ t (by simp;omega),World.cell?_alloc_lt _ _ t c];exact b)
  (by rw[World.frozen?_alloc_old _ _ t (by simp;omega),World.frozen?_alloc_old _ _ t (by simp;omega),World.frozen?_alloc_old _ _ t (by simp;omega),World.frozen?_alloc_old _ _ t (Nat.ne_of_lt c)];exact j)
 go_enter Tryz.func36,Tryz.ntmps36
 go_wp2;refine wp_loop_rounds 1 ?_;rw[rounds_succ];go_wp2;go_ret;exact⟨rfl,rfl⟩
end Rn
end Go.Proofs.YtdokgalidhmbbaaGreatDoor
namespace Go.Proofs.YtdokgalidhmbbaaGreatDoor
namespace Rn
open Go.RowKit Go.Extern.Stop Go.Stop Go.Extern
theorem aV(w:World):(ReflectliteType.relation "AssignableTo" ReflectliteType.assignableTo #[.agg #[.pointer (some ⟨17,77,none⟩)],.iface 170 (.agg #[.pointer (some ⟨17,133,none⟩)])]).run Tryz.prog w=.ok (.bool false) w:=by kernel_rfl
theorem zkf(w:World):(ReflectliteType.relation "AssignableTo" ReflectliteType.assignableTo #[.agg #[.pointer (some ⟨17,286,none⟩)],.iface 170 (.agg #[.pointer (some ⟨17,133,none⟩)])]).run Tryz.prog w=.ok (.bool false) w:=by kernel_rfl
theorem zkg(v:Value)(w:World):(ReflectliteType.typeOf #[.iface 286 v]).run Tryz.prog w=.ok (.iface 170 (.agg #[.pointer (some ⟨17,286,none⟩)])) w:=by kernel_rfl
theorem aU(x:Value)(W:World):(Instr.typeAssert (.iface 77 (.agg #[x])) 33 175 true).run Tryz.prog W=.ok (.tuple #[.nilIface,.bool false]) W:=run_typeAssert_lacksB Tryz.underlying175 (by kernel_rfl) (by kernel_rfl) _ 33 W
theorem aW(x:Value)(W:World):(Instr.typeAssert (.iface 77 (.agg #[x])) 33 178 true).run Tryz.prog W=.ok (.tuple #[.iface 77 (.agg #[x]),.bool true]) W:=by kernel_rfl
theorem zke(x:Value)(W:World):(Instr.typeAssert (.iface 286 x) 33 175 true).run Tryz.prog W=.ok (.tuple #[.nilIface,.bool false]) W:=run_typeAssert_lacksB Tryz.underlying175 (by kernel_rfl) (by kernel_rfl) _ 33 W
theorem zkh(x:Value)(W:World):(Instr.typeAssert (.iface 286 x) 33 178 true).run Tryz.prog W=.ok (.tuple #[.nilIface,.bool false]) W:=run_typeAssert_lacksB Tryz.underlying178 (by kernel_rfl) (by kernel_rfl) _ 33 W
theorem zki(x:Value)(W:World):(Instr.typeAssert (.iface 286 x) 33 180 true).run Tryz.prog W=.ok (.tuple #[.nilIface,.bool false]) W:=run_typeAssert_lacksB Tryz.underlying180 (by kernel_rfl) (by kernel_rfl) _ 33 W
theorem aX(x:Value)(w:World):(Go.method 466 77 (.agg #[x]) "Unwrap").run Tryz.prog w=.ok (266,.agg #[x]) w:=by kernel_rfl
theorem za9(e:Int)(t:Addr)(d:Value)(w:World)(a:Handle w)(b:w.cell? t=some d)(i:w.frozen? t=false):
  Calls Tryz.prog 36 #[.iface 77 (.agg #[.iface 133 (.int .i64 e)]),.iface 134 (.pointer (some t))] w λg E=>g=.returned (.bool true)/\E=(((((w.alloc (.cells #[.pointer (some t)] 134)).alloc (.cells #[.pointer (some ⟨17,134,none⟩),.pointer (some ⟨w.heap.size,0,none⟩),.int .u64 150] 123)).alloc (.cells #[.pointer (some ⟨17,134,none⟩),.pointer (some ⟨w.heap.size,0,none⟩),.int .u64 150] 123)).alloc (.cells #[.iface 133 (.int .i64 e)] 77)).alloc (.cells #[.int .i64 e] 133)).setCell t (.int .i64 e):=by
 have P:=@run_callFunc_extern Tryz.prog 52 _ (λf=>ReflectliteValue.unpack (f.getD 0 (.tuple #[]))) Tryz.func52 (by kernel_rfl) (by kernel_rfl) (by kernel_rfl) (by kernel_rfl);have Q:=@run_callFunc_extern Tryz.prog 53 _ (ReflectliteValue.methodAny (ReflectliteValue.valueError "reflectlite.Value.Type" 0) (λt _ _ _=>ReflectliteType.toType t)) Tryz.func53 (by kernel_rfl) (by kernel_rfl) (by kernel_rfl) (by kernel_rfl)
 have U:=@run_callFunc_extern Tryz.prog 54 _ (ReflectliteValue.method (ReflectliteValue.valueError "reflectlite.Value.IsNil" 0) ReflectliteValue.isNil) Tryz.func54 (by kernel_rfl) (by kernel_rfl) (by kernel_rfl) (by kernel_rfl);have x:=@run_callFunc_extern Tryz.prog 262 _ (ReflectliteType.abiMethod λt=>do pure (.int .u8 (<-Rtype.kind t))) Tryz.func262 (by kernel_rfl) (by kernel_rfl) (by kernel_rfl) (by kernel_rfl)
 have B:=@run_callFunc_extern Tryz.prog 273 _ (ReflectliteType.method ReflectliteType.elem) Tryz.func273 (by kernel_rfl) (by kernel_rfl) (by kernel_rfl) (by kernel_rfl);have F:=@run_callFunc_extern Tryz.prog 274 _ (ReflectliteType.relation "Implements" ReflectliteType.implements_) Tryz.func274 (by kernel_rfl) (by kernel_rfl) (by kernel_rfl) (by kernel_rfl);have s:=@run_callFunc_extern Tryz.prog 84 _ ReflectliteType.typeOf Tryz.func84 (by kernel_rfl) (by kernel_rfl) (by kernel_rfl) (by kernel_rfl)
 have y:=@run_callFunc_extern Tryz.prog 271 _ (ReflectliteType.relation "AssignableTo" ReflectliteType.assignableTo) Tryz.func271 (by kernel_rfl) (by kernel_rfl) (by kernel_rfl) (by kernel_rfl);have u:=@run_callFunc_extern Tryz.prog 85 _ (ReflectliteValue.method (ReflectliteValue.valueError "reflectlite.Value.Elem" 0) ReflectliteValue.elem) Tryz.func85 (by kernel_rfl) (by kernel_rfl) (by kernel_rfl) (by kernel_rfl)
 have v:=@run_callFunc_extern Tryz.prog 86 _ ReflectliteValue.set Tryz.func86 (by kernel_rfl) (by kernel_rfl) (by kernel_rfl) (by kernel_rfl);have L:=zoe;have C:=VO;have m:=zn4;have N:=zof;have q:=dW;have r:=dV;have H:=VR;have D:=VP;have G:=VQ;have A:=dU;have z:=dS;have n:=dP;have o:=dQ;have J:=dR ⟨w.heap.size,0,none⟩ t ((w.alloc (.cells #[.pointer (some t)] 134)).alloc (.cells #[.pointer (some ⟨17,134,none⟩),.pointer (some ⟨w.heap.size,0,none⟩),.int .u64 150] 123)) (by simp)
 have k:0<w.heap.size:=a.pos;have j:=a.cell;have V:((w.alloc (.cells #[.pointer (some t)] 134)).alloc (.cells #[.pointer (some ⟨17,134,none⟩),.pointer (some ⟨w.heap.size,0,none⟩),.int .u64 150] 123)).cell? ⟨0,0,none⟩=some (.iface 170 (.agg #[.pointer (some ⟨17,33,none⟩)])):=by
  rw[World.cell?_alloc_lt _ _ ⟨0,0,none⟩ (by simp<;>omega),World.cell?_alloc_lt _ _ ⟨0,0,none⟩ k];exact j
 have c:t.block<w.heap.size:=by
  rcases Nat.lt_or_ge t.block w.heap.size with h|h;exact h;simp [World.cell?,Array.getElem?_eq_none h]at b
 have M:=KV;have l:=aV;have I:=aX;have O:=aU;have R:=aW;have p:=zn8 ⟨w.heap.size,0,none⟩ t ((((w.alloc (.cells #[.pointer (some t)] 134)).alloc (.cells #[.pointer (some ⟨17,134,none⟩),.pointer (some ⟨w.heap.size,0,none⟩),.int .u64 150] 123)).alloc (.cells #[.pointer (some ⟨17,134,none⟩),.pointer (some ⟨w.heap.size,0,none⟩),.int .u64 150] 123)).alloc (.cells #[.iface 133 (.int .i64 e)] 77)) (by rw[World.cell?_alloc_lt _ _ ⟨w.heap.size,0,none⟩ (by simp;omega),World.cell?_alloc_lt _ _ ⟨w.heap.size,0,none⟩ (by simp;omega)];simp)
 have K:=zod t ⟨w.heap.size+1+1+1+1,0,none⟩ e d (((((w.alloc (.cells #[.pointer (some t)] 134)).alloc (.cells #[.pointer (some ⟨17,134,none⟩),.pointer (some ⟨w.heap.size,0,none⟩),.int .u64 150] 123)).alloc (.cells #[.pointer (some ⟨17,134,none⟩),.pointer (some ⟨w.heap.size,0,none⟩),.int .u64 150] 123)).alloc (.cells #[.iface 133 (.int .i64 e)] 77)).alloc (.cells #[.int .i64 e] 133))
  (by rw[World.cell?_alloc_at _ _ _ _ (by simp)];rfl)
  (by rw[World.cell?_alloc_lt _ _ t (by simp;omega),World.cell?_alloc_lt _ _ t (by simp;omega),World.cell?_alloc_lt _ _ t (by simp;omega),World.cell?_alloc_lt _ _ t (by simp;omega),World.cell?_alloc_lt _ _ t c];exact b)
  (by rw[World.frozen?_alloc_old _ _ t (by simp;omega),World.frozen?_alloc_old _ _ t (by simp;omega),World.frozen?_alloc_old _ _ t (by simp;omega),World.frozen?_alloc_old _ _ t (by simp;omega),World.frozen?_alloc_old _ _ t (Nat.ne_of_lt c)];exact i)
 go_enter Tryz.func36,Tryz.ntmps36
 go_wp2;refine wp_loop_rounds 2 ?_;rw[rounds_succ];go_wp2;rw[rounds_succ];go_wp2;go_ret;exact⟨rfl,rfl⟩
theorem za8(p:Addr)(t:Addr)(g:Value)(w:World)(a:Handle w)(f:w.cell? t=some g)(B:w.frozen? t=false):
  Calls Tryz.prog 36 #[.iface 77 (.agg #[.iface 286 (.pointer (some p))]),.iface 134 (.pointer (some t))] w λc E=>c=.returned (.bool false)/\E=((((w.alloc (.cells #[.pointer (some t)] 134)).alloc (.cells #[.pointer (some ⟨17,134,none⟩),.pointer (some ⟨w.heap.size,0,none⟩),.int .u64 150] 123)).alloc (.cells #[.pointer (some ⟨17,134,none⟩),.pointer (some ⟨w.heap.size,0,none⟩),.int .u64 150] 123)).alloc (.cells #[.iface 286 (.pointer (some p))] 77)):=by
 have v:=@run_callFunc_extern Tryz.prog 52 _ (λb=>ReflectliteValue.unpack (b.getD 0 (.tuple #[]))) Tryz.func52 (by kernel_rfl) (by kernel_rfl) (by kernel_rfl) (by kernel_rfl);have x:=@run_callFunc_extern Tryz.prog 53 _ (ReflectliteValue.methodAny (ReflectliteValue.valueError "reflectlite.Value.Type" 0) (λt _ _ _=>ReflectliteType.toType t)) Tryz.func53 (by kernel_rfl) (by kernel_rfl) (by kernel_rfl) (by kernel_rfl)
 have y:=@run_callFunc_extern Tryz.prog 54 _ (ReflectliteValue.method (ReflectliteValue.valueError "reflectlite.Value.IsNil" 0) ReflectliteValue.isNil) Tryz.func54 (by kernel_rfl) (by kernel_rfl) (by kernel_rfl) (by kernel_rfl);have q:=@run_callFunc_extern Tryz.prog 262 _ (ReflectliteType.abiMethod λt=>do pure (.int .u8 (<-Rtype.kind t))) Tryz.func262 (by kernel_rfl) (by kernel_rfl) (by kernel_rfl) (by kernel_rfl)
 have s:=@run_callFunc_extern Tryz.prog 273 _ (ReflectliteType.method ReflectliteType.elem) Tryz.func273 (by kernel_rfl) (by kernel_rfl) (by kernel_rfl) (by kernel_rfl);have u:=@run_callFunc_extern Tryz.prog 274 _ (ReflectliteType.relation "Implements" ReflectliteType.implements_) Tryz.func274 (by kernel_rfl) (by kernel_rfl) (by kernel_rfl) (by kernel_rfl);have n:=@run_callFunc_extern Tryz.prog 84 _ ReflectliteType.typeOf Tryz.func84 (by kernel_rfl) (by kernel_rfl) (by kernel_rfl) (by kernel_rfl)
 have r:=@run_callFunc_extern Tryz.prog 271 _ (ReflectliteType.relation "AssignableTo" ReflectliteType.assignableTo) Tryz.func271 (by kernel_rfl) (by kernel_rfl) (by kernel_rfl) (by kernel_rfl);have o:=VO;have l:=dW;have m:=dV;have C:=VR;have z:=VP;have A:=VQ;have V:=dU;have U:=dS;have k:=dP;have Q:=dQ;have G:=dR ⟨w.heap.size,0,none⟩ t ((w.alloc (.cells #[.pointer (some t)] 134)).alloc (.cells #[.pointer (some ⟨17,134,none⟩),.pointer (some ⟨w.heap.size,0,none⟩),.int .u64 150] 123)) (by simp)
 have e:0<w.heap.size:=a.pos;have d:=a.cell;have F:((w.alloc (.cells #[.pointer (some t)] 134)).alloc (.cells #[.pointer (some ⟨17,134,none⟩),.pointer (some ⟨w.heap.size,0,none⟩),.int .u64 150] 123)).cell? ⟨0,0,none⟩=some (.iface 170 (.agg #[.pointer (some ⟨17,33,none⟩)])):=by
  rw[World.cell?_alloc_lt _ _ ⟨0,0,none⟩ (by simp<;>omega),World.cell?_alloc_lt _ _ ⟨0,0,none⟩ e];exact d
 have P:t.block<w.heap.size:=by
  rcases Nat.lt_or_ge t.block w.heap.size with h|h;exact h;simp [World.cell?,Array.getElem?_eq_none h]at f
 have H:=KV;have i:=aV;have D:=aX;have J:=aU;have K:=aW;have I:=zkg;have j:=zkf;have L:=zke;have M:=zkh;have N:=zki;go_enter Tryz.func36,Tryz.ntmps36
 go_wp2;refine wp_loop_rounds 2 ?_;rw[rounds_succ];go_wp2;rw[rounds_succ];go_wp2;go_ret;exact⟨rfl,rfl⟩
end Rn
end Go.Proofs.YtdokgalidhmbbaaGreatDoor
