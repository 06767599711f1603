/- What the law RunAnswers needs. -/
import Derived.Test.YtdokgalidhmbbaaGreatDoorHTK
import Derived.Test.YtdokgalidhmbbaaGreatDoorChecked
import Derived.WalkKit
import Derived.WalkSpells
import Derived.LoopN
import Derived.LaidEql
import Derived.Stop.Asserts
import Derived.RowKitTokens
import Derived.KernelRfl
set_option linter.unusedVariables false
set_option linter.unusedSimpArgs false
set_option maxRecDepth 100000
set_option maxHeartbeats 8000000
namespace Go.Proofs.YtdokgalidhmbbaaGreatDoor
open Go.RowKit Go.Extern.Stop Go.Stop Go.Extern
theorem dW(t:Addr)(w:World):(ReflectliteValue.unpack (.iface 134 (.pointer (some t)))).run Tryz.prog w
  =.ok (.agg #[.pointer (some ⟨17,134,none⟩),.pointer (some ⟨w.heap.size,0,none⟩),.int .u64 150]) (w.alloc (.cells #[.pointer (some t)] 134)):=by kernel_rfl
theorem dV(a:Addr)(w:World):(ReflectliteValue.methodAny (ReflectliteValue.valueError "reflectlite.Value.Type" 0) (λt _ _ _=>ReflectliteType.toType t) #[.agg #[.pointer (some ⟨17,134,none⟩),.pointer (some a),.int .u64 150]]).run Tryz.prog w
  =.ok (.iface 170 (.agg #[.pointer (some ⟨17,134,none⟩)])) w:=by kernel_rfl
theorem VR(h:Value)(w:World):(Go.method 466 170 (.agg #[h]) "Kind").run Tryz.prog w=.ok (262,h) w:=by kernel_rfl
theorem dU(w:World):((ReflectliteType.abiMethod λt=>Functor.map (λa:Nat=>Value.int IntKind.u8 (a:Int)) (Rtype.kind t)) #[.pointer (some ⟨17,134,none⟩)]).run Tryz.prog w=.ok (.int .u8 22) w:=by kernel_rfl
theorem dS(w:World):((ReflectliteType.abiMethod λt=>Functor.map (λa:Nat=>Value.int IntKind.u8 (a:Int)) (Rtype.kind t)) #[.pointer (some ⟨17,133,none⟩)]).run Tryz.prog w=.ok (.int .u8 2) w:=by kernel_rfl
theorem zn9(a:Addr)(W:World):(ReflectliteValue.method (ReflectliteValue.valueError "reflectlite.Value.IsNil" 0) ReflectliteValue.isNil #[.agg #[.pointer (some ⟨17,134,none⟩),.pointer (some a),.int .u64 150]]).run Tryz.prog W
  =(ReflectliteValue.isNil 134 a 150 22).run Tryz.prog W:=by kernel_rfl
theorem zn7(a:Addr)(W:World):(ReflectliteValue.method (ReflectliteValue.valueError "reflectlite.Value.Elem" 0) ReflectliteValue.elem #[.agg #[.pointer (some ⟨17,134,none⟩),.pointer (some a),.int .u64 150]]).run Tryz.prog W
  =(ReflectliteValue.elem 134 a 150 22).run Tryz.prog W:=by kernel_rfl
theorem dR(a p:Addr)(W:World)(b:W.cell? a=some (.pointer (some p))):
  (ReflectliteValue.method (ReflectliteValue.valueError "reflectlite.Value.IsNil" 0) ReflectliteValue.isNil #[.agg #[.pointer (some ⟨17,134,none⟩),.pointer (some a),.int .u64 150]]).run Tryz.prog W=.ok (.bool false) W:=by
 rw[zn9];simp[ReflectliteValue.isNil,loadVar,isAgg,underlying,Tryz.underlying134,b,Result.andThen]
theorem VP(h:Value)(w:World):(Go.method 466 170 (.agg #[h]) "Elem").run Tryz.prog w=.ok (273,.agg #[h]) w:=by kernel_rfl
theorem VQ(h:Value)(w:World):(Go.method 466 170 (.agg #[h]) "Implements").run Tryz.prog w=.ok (274,.agg #[h]) w:=by kernel_rfl
theorem VO(h:Value)(w:World):(Go.method 466 170 (.agg #[h]) "AssignableTo").run Tryz.prog w=.ok (271,.agg #[h]) w:=by kernel_rfl
theorem dP(w:World):(ReflectliteType.method ReflectliteType.elem #[.agg #[.pointer (some ⟨17,134,none⟩)]]).run Tryz.prog w=.ok (.iface 170 (.agg #[.pointer (some ⟨17,133,none⟩)])) w:=by kernel_rfl
theorem dQ(w:World):(ReflectliteType.relation "Implements" ReflectliteType.implements_ #[.agg #[.pointer (some ⟨17,133,none⟩)],.iface 170 (.agg #[.pointer (some ⟨17,33,none⟩)])]).run Tryz.prog w=.ok (.bool true) w:=by kernel_rfl
theorem zoe(v:Value)(w:World):(ReflectliteType.typeOf #[.iface 133 v]).run Tryz.prog w=.ok (.iface 170 (.agg #[.pointer (some ⟨17,133,none⟩)])) w:=by kernel_rfl
theorem zn4(w:World):(ReflectliteType.relation "AssignableTo" ReflectliteType.assignableTo #[.agg #[.pointer (some ⟨17,133,none⟩)],.iface 170 (.agg #[.pointer (some ⟨17,133,none⟩)])]).run Tryz.prog w=.ok (.bool true) w:=by kernel_rfl
theorem zof(e:Int)(w:World):(ReflectliteValue.unpack (.iface 133 (.int .i64 e))).run Tryz.prog w
  =.ok (.agg #[.pointer (some ⟨17,133,none⟩),.pointer (some ⟨w.heap.size,0,none⟩),.int .u64 130]) (w.alloc (.cells #[.int .i64 e] 133)):=by kernel_rfl
theorem zn6(w:World):(Rtype.elem? 134).run Tryz.prog w=.ok (some 133) w:=by kernel_rfl
theorem zoa(p:Addr)(w:World):(ReflectliteValue.mk 133 p ReflectliteValue.flagAddr).run Tryz.prog w=.ok (.agg #[.pointer (some ⟨17,133,none⟩),.pointer (some p),.int .u64 386]) w:=by kernel_rfl
theorem zn8(a p:Addr)(W:World)(b:W.cell? a=some (.pointer (some p))):
  (ReflectliteValue.method (ReflectliteValue.valueError "reflectlite.Value.Elem" 0) ReflectliteValue.elem #[.agg #[.pointer (some ⟨17,134,none⟩),.pointer (some a),.int .u64 150]]).run Tryz.prog W
   =.ok (.agg #[.pointer (some ⟨17,133,none⟩),.pointer (some p),.int .u64 386]) W:=by
 rw[zn7];simp[ReflectliteValue.elem,loadVar,isAgg,underlying,Tryz.underlying134,b,Result.andThen,zn6,zoa]
theorem zoc(a:Addr)(w:World):(ReflectliteValue.parts (.agg #[.pointer (some ⟨17,133,none⟩),.pointer (some a),.int .u64 386])).run Tryz.prog w=.ok (some (133,a,386)) w:=by kernel_rfl
theorem zob(a:Addr)(w:World):(ReflectliteValue.parts (.agg #[.pointer (some ⟨17,133,none⟩),.pointer (some a),.int .u64 130])).run Tryz.prog w=.ok (some (133,a,130)) w:=by kernel_rfl
theorem zn5(w:World):(Rtype.directlyAssignable 133 133).run Tryz.prog w=.ok true w:=by kernel_rfl
theorem zod(a b:Addr)(e:Int)(g:Value)(W:World)(c:W.cell? b=some (.int .i64 e))(f:W.cell? a=some g)(d:W.frozen? a=false):
  (ReflectliteValue.set #[.agg #[.pointer (some ⟨17,133,none⟩),.pointer (some a),.int .u64 386],.agg #[.pointer (some ⟨17,133,none⟩),.pointer (some b),.int .u64 130]]).run Tryz.prog W
   =.ok (.tuple #[]) (W.setCell a (.int .i64 e)):=by
 show Sem.run Tryz.prog (bind (ReflectliteValue.parts (.agg #[.pointer (some ⟨17,133,none⟩),.pointer (some a),.int .u64 386])) λp=>bind (ReflectliteValue.parts (.agg #[.pointer (some ⟨17,133,none⟩),.pointer (some b),.int .u64 130])) λq=>_) W=_;simp only[Sem.run_bind,zoc,zob,Result.andThen];simp[ReflectliteValue.flagAddr,loadVar,isAgg,underlying,Tryz.underlying133,c,Result.andThen,zn5,storeVar,Value.cells,storeCells,Addr.add]
 rw[run_store Tryz.prog W a _ _ (by rfl)];simp[f,d]
structure Handle(w:World):Prop where
 cell:w.cell? ⟨0,0,none⟩=some (.iface 170 (.agg #[.pointer (some ⟨17,33,none⟩)]))
 pos:0<w.heap.size
theorem Handle.below{w E:World}(h:Handle w)(a:Below w.heap.size w E):Handle E:=
 ⟨(a.cell (p:=⟨0,0,none⟩) h.pos).trans h.cell,Nat.lt_of_lt_of_le h.pos a.size⟩
end Go.Proofs.YtdokgalidhmbbaaGreatDoor
