/- What TalkPlays needs. -/
import Derived.Test.YtdnehibcpkjafaaGreatDoorChecked
import Derived.WalkKit
import Derived.WalkSpells
import Derived.LoopN
import Derived.LaidEql
import Derived.Stop.Asserts
import Derived.RowKitTokens
import Derived.KernelRfl
set_option linter.unusedVariables false
set_option linter.unusedSimpArgs false
set_option maxRecDepth 100000
set_option maxHeartbeats 8000000
namespace Go.Proofs.YtdnehibcpkjafaaGreatDoor
open Go.RowKit Go.Extern.Stop Go.Stop Go.Extern
theorem zs1 (t:Addr) (w:World):(ReflectliteValue.unpack (.iface 121 (.pointer (some t)))).run Tryz.prog w
  = .ok (.agg #[.pointer (some ⟨3,121,none⟩),.pointer (some ⟨w.heap.size,0,none⟩),.int .u64 150]) (w.alloc (.cells #[.pointer (some t)] 121)):=by kernel_rfl
theorem zGi (a:Addr) (w:World):(ReflectliteValue.methodAny (ReflectliteValue.valueError "reflectlite.Value.Type" 0) (fun t _ _ _=>ReflectliteType.toType t) #[.agg #[.pointer (some ⟨3,121,none⟩),.pointer (some a),.int .u64 150]]).run Tryz.prog w
  = .ok (.iface 192 (.agg #[.pointer (some ⟨3,121,none⟩)])) w:=by kernel_rfl
theorem znq (h:Value) (w:World):(Go.method 385 192 (.agg #[h]) "Kind").run Tryz.prog w= .ok (188,h) w:=by kernel_rfl
theorem zD8 (w:World):((ReflectliteType.abiMethod fun t=>Functor.map (fun a:Nat=>Value.int IntKind.u8 (a:Int)) (Rtype.kind t)) #[.pointer (some ⟨3,121,none⟩)]).run Tryz.prog w= .ok (.int .u8 22) w:=by kernel_rfl
theorem zDt (w:World):((ReflectliteType.abiMethod fun t=>Functor.map (fun a:Nat=>Value.int IntKind.u8 (a:Int)) (Rtype.kind t)) #[.pointer (some ⟨3,78,none⟩)]).run Tryz.prog w= .ok (.int .u8 2) w:=by kernel_rfl
theorem zsg (a:Addr) (W:World):(ReflectliteValue.method (ReflectliteValue.valueError "reflectlite.Value.IsNil" 0) ReflectliteValue.isNil #[.agg #[.pointer (some ⟨3,121,none⟩),.pointer (some a),.int .u64 150]]).run Tryz.prog W
  =(ReflectliteValue.isNil 121 a 150 22).run Tryz.prog W:=by kernel_rfl
theorem zwa (a:Addr) (W:World):(ReflectliteValue.method (ReflectliteValue.valueError "reflectlite.Value.Elem" 0) ReflectliteValue.elem #[.agg #[.pointer (some ⟨3,121,none⟩),.pointer (some a),.int .u64 150]]).run Tryz.prog W
  =(ReflectliteValue.elem 121 a 150 22).run Tryz.prog W:=by kernel_rfl
theorem zzz (a p:Addr) (W:World) (ha:W.cell? a=some (.pointer (some p))):
  (ReflectliteValue.method (ReflectliteValue.valueError "reflectlite.Value.IsNil" 0) ReflectliteValue.isNil #[.agg #[.pointer (some ⟨3,121,none⟩),.pointer (some a),.int .u64 150]]).run Tryz.prog W= .ok (.bool false) W:=by
 rw [zsg]
 simp [ReflectliteValue.isNil,loadVar,isAgg,underlying,Tryz.underlying121,ha,Result.andThen]
theorem zn2 (h:Value) (w:World):(Go.method 385 192 (.agg #[h]) "Elem").run Tryz.prog w= .ok (198,.agg #[h]) w:=by kernel_rfl
theorem zhi (h:Value) (w:World):(Go.method 385 192 (.agg #[h]) "Implements").run Tryz.prog w= .ok (199,.agg #[h]) w:=by kernel_rfl
theorem zfw (h:Value) (w:World):(Go.method 385 192 (.agg #[h]) "AssignableTo").run Tryz.prog w= .ok (196,.agg #[h]) w:=by kernel_rfl
theorem zE2 (w:World):(ReflectliteType.method ReflectliteType.elem #[.agg #[.pointer (some ⟨3,121,none⟩)]]).run Tryz.prog w= .ok (.iface 192 (.agg #[.pointer (some ⟨3,78,none⟩)])) w:=by kernel_rfl
theorem zl5 (w:World):(ReflectliteType.relation "Implements" ReflectliteType.implements_ #[.agg #[.pointer (some ⟨3,78,none⟩)],.iface 192 (.agg #[.pointer (some ⟨3,26,none⟩)])]).run Tryz.prog w= .ok (.bool true) w:=by kernel_rfl
theorem zxm (v:Value) (w:World):(ReflectliteType.typeOf #[.iface 78 v]).run Tryz.prog w= .ok (.iface 192 (.agg #[.pointer (some ⟨3,78,none⟩)])) w:=by kernel_rfl
theorem zll (w:World):(ReflectliteType.relation "AssignableTo" ReflectliteType.assignableTo #[.agg #[.pointer (some ⟨3,78,none⟩)],.iface 192 (.agg #[.pointer (some ⟨3,78,none⟩)])]).run Tryz.prog w= .ok (.bool true) w:=by kernel_rfl
theorem ztp (e:Int) (w:World):(ReflectliteValue.unpack (.iface 78 (.int .i64 e))).run Tryz.prog w
  = .ok (.agg #[.pointer (some ⟨3,78,none⟩),.pointer (some ⟨w.heap.size,0,none⟩),.int .u64 130]) (w.alloc (.cells #[.int .i64 e] 78)):=by kernel_rfl
theorem zzc (w:World):(Rtype.elem? 121).run Tryz.prog w= .ok (some 78) w:=by kernel_rfl
theorem zIz (p:Addr) (w:World):(ReflectliteValue.mk 78 p ReflectliteValue.flagAddr).run Tryz.prog w= .ok (.agg #[.pointer (some ⟨3,78,none⟩),.pointer (some p),.int .u64 386]) w:=by kernel_rfl
theorem zAx (a p:Addr) (W:World) (ha:W.cell? a=some (.pointer (some p))):
  (ReflectliteValue.method (ReflectliteValue.valueError "reflectlite.Value.Elem" 0) ReflectliteValue.elem #[.agg #[.pointer (some ⟨3,121,none⟩),.pointer (some a),.int .u64 150]]).run Tryz.prog W
   = .ok (.agg #[.pointer (some ⟨3,78,none⟩),.pointer (some p),.int .u64 386]) W:=by
 rw [zwa]
 simp [ReflectliteValue.elem,loadVar,isAgg,underlying,Tryz.underlying121,ha,Result.andThen,zzc,zIz]
theorem zyk (a:Addr) (w:World):(ReflectliteValue.parts (.agg #[.pointer (some ⟨3,78,none⟩),.pointer (some a),.int .u64 386])).run Tryz.prog w= .ok (some (78,a,386)) w:=by kernel_rfl
theorem zzw (a:Addr) (w:World):(ReflectliteValue.parts (.agg #[.pointer (some ⟨3,78,none⟩),.pointer (some a),.int .u64 130])).run Tryz.prog w= .ok (some (78,a,130)) w:=by kernel_rfl
theorem zvp (w:World):(Rtype.directlyAssignable 78 78).run Tryz.prog w= .ok true w:=by kernel_rfl
theorem zH7 (ta b:Addr) (e:Int) (old:Value) (W:World) (hb:W.cell? b=some (.int .i64 e)) (ht:W.cell? ta=some old) (hf:W.frozen? ta=false):
  (ReflectliteValue.set #[.agg #[.pointer (some ⟨3,78,none⟩),.pointer (some ta),.int .u64 386],.agg #[.pointer (some ⟨3,78,none⟩),.pointer (some b),.int .u64 130]]).run Tryz.prog W
   = .ok (.tuple #[]) (W.setCell ta (.int .i64 e)):=by
 show Sem.run Tryz.prog (bind (ReflectliteValue.parts (.agg #[.pointer (some ⟨3,78,none⟩),.pointer (some ta),.int .u64 386])) fun p=>bind (ReflectliteValue.parts (.agg #[.pointer (some ⟨3,78,none⟩),.pointer (some b),.int .u64 130])) fun q=>_) W=_
 simp only [Sem.run_bind,zyk,zzw,Result.andThen]
 simp [ReflectliteValue.flagAddr,loadVar,isAgg,underlying,Tryz.underlying78,hb,Result.andThen,zvp,storeVar,Value.cells,storeCells,Addr.add]
 rw [run_store Tryz.prog W ta _ _ (by rfl)]
 simp [ht,hf]
structure Handle (w:World):Prop where
 cell:w.cell? ⟨0,0,none⟩=some (.iface 192 (.agg #[.pointer (some ⟨3,26,none⟩)]))
 pos:0<w.heap.size
theorem Handle.below {w w':World} (h:Handle w) (hb:Below w.heap.size w w'):Handle w':=
 ⟨(hb.cell (p:=⟨0,0,none⟩) h.pos).trans h.cell,Nat.lt_of_lt_of_le h.pos hb.size⟩
theorem zHg (e:Int) (t:Addr) (old:Value) (w:World) (hH:Handle w) (ht0:w.cell? t=some old) (hf0:w.frozen? t=false):
  Calls Tryz.prog 59 #[.iface 78 (.int .i64 e),.iface 121 (.pointer (some t))] w fun ev w'=>ev= .returned (.bool true)∧w'=((((w.alloc (.cells #[.pointer (some t)] 121)).alloc (.cells #[.pointer (some ⟨3,121,none⟩),.pointer (some ⟨w.heap.size,0,none⟩),.int .u64 150] 154)).alloc (.cells #[.pointer (some ⟨3,121,none⟩),.pointer (some ⟨w.heap.size,0,none⟩),.int .u64 150] 154)).alloc (.cells #[.int .i64 e] 78)).setCell t (.int .i64 e):=by
 have h6:= @run_callFunc_extern Tryz.prog 89 _ (fun args=>ReflectliteValue.unpack (args.getD 0 (.tuple #[]))) Tryz.func89 (by kernel_rfl) (by kernel_rfl) (by kernel_rfl) (by kernel_rfl)
 have h7:= @run_callFunc_extern Tryz.prog 90 _ (ReflectliteValue.methodAny (ReflectliteValue.valueError "reflectlite.Value.Type" 0) (fun t _ _ _=>ReflectliteType.toType t)) Tryz.func90 (by kernel_rfl) (by kernel_rfl) (by kernel_rfl) (by kernel_rfl)
 have h8:= @run_callFunc_extern Tryz.prog 91 _ (ReflectliteValue.method (ReflectliteValue.valueError "reflectlite.Value.IsNil" 0) ReflectliteValue.isNil) Tryz.func91 (by kernel_rfl) (by kernel_rfl) (by kernel_rfl) (by kernel_rfl)
 have h27:= @run_callFunc_extern Tryz.prog 188 _ (ReflectliteType.abiMethod fun t=>do pure (.int .u8 (←Rtype.kind t))) Tryz.func188 (by kernel_rfl) (by kernel_rfl) (by kernel_rfl) (by kernel_rfl)
 have h37:= @run_callFunc_extern Tryz.prog 198 _ (ReflectliteType.method ReflectliteType.elem) Tryz.func198 (by kernel_rfl) (by kernel_rfl) (by kernel_rfl) (by kernel_rfl)
 have h38:= @run_callFunc_extern Tryz.prog 199 _ (ReflectliteType.relation "Implements" ReflectliteType.implements_) Tryz.func199 (by kernel_rfl) (by kernel_rfl) (by kernel_rfl) (by kernel_rfl)
 have h10:= @run_callFunc_extern Tryz.prog 116 _ ReflectliteType.typeOf Tryz.func116 (by kernel_rfl) (by kernel_rfl) (by kernel_rfl) (by kernel_rfl)
 have h35:= @run_callFunc_extern Tryz.prog 196 _ (ReflectliteType.relation "AssignableTo" ReflectliteType.assignableTo) Tryz.func196 (by kernel_rfl) (by kernel_rfl) (by kernel_rfl) (by kernel_rfl)
 have h11:= @run_callFunc_extern Tryz.prog 117 _ (ReflectliteValue.method (ReflectliteValue.valueError "reflectlite.Value.Elem" 0) ReflectliteValue.elem) Tryz.func117 (by kernel_rfl) (by kernel_rfl) (by kernel_rfl) (by kernel_rfl)
 have h12:= @run_callFunc_extern Tryz.prog 118 _ ReflectliteValue.set Tryz.func118 (by kernel_rfl) (by kernel_rfl) (by kernel_rfl) (by kernel_rfl)
 have tO:=zxm
 have mA:=zfw
 have a25:=zll
 have v25:=ztp
 have f6:=zs1
 have f7:=zGi
 have mK:=znq
 have mE:=zn2
 have mI:=zhi
 have k27:=zD8
 have k25:=zDt
 have e27:=zE2
 have i25:=zl5
 have n8:=zzz ⟨w.heap.size,0,none⟩ t ((w.alloc (.cells #[.pointer (some t)] 121)).alloc (.cells #[.pointer (some ⟨3,121,none⟩),.pointer (some ⟨w.heap.size,0,none⟩),.int .u64 150] 154)) (by simp)
 have hlt:0<w.heap.size:=hH.pos
 have hg:=hH.cell
 have hg2:((w.alloc (.cells #[.pointer (some t)] 121)).alloc (.cells #[.pointer (some ⟨3,121,none⟩),.pointer (some ⟨w.heap.size,0,none⟩),.int .u64 150] 154)).cell? ⟨0,0,none⟩=some (.iface 192 (.agg #[.pointer (some ⟨3,26,none⟩)])):=by
  rw [World.cell?_alloc_lt _ _ ⟨0,0,none⟩ (by simp<;>omega),World.cell?_alloc_lt _ _ ⟨0,0,none⟩ hlt];exact hg
 have htl:t.block<w.heap.size:=by
  rcases Nat.lt_or_ge t.block w.heap.size with h | h
  ·exact h
  ·simp [World.cell?,Array.getElem?_eq_none h] at ht0
 have el:=zAx ⟨w.heap.size,0,none⟩ t (((w.alloc (.cells #[.pointer (some t)] 121)).alloc (.cells #[.pointer (some ⟨3,121,none⟩),.pointer (some ⟨w.heap.size,0,none⟩),.int .u64 150] 154)).alloc (.cells #[.pointer (some ⟨3,121,none⟩),.pointer (some ⟨w.heap.size,0,none⟩),.int .u64 150] 154)) (by rw [World.cell?_alloc_lt _ _ ⟨w.heap.size,0,none⟩ (by simp;omega)];simp)
 have st:=zH7 t ⟨w.heap.size+1+1+1,0,none⟩ e old ((((w.alloc (.cells #[.pointer (some t)] 121)).alloc (.cells #[.pointer (some ⟨3,121,none⟩),.pointer (some ⟨w.heap.size,0,none⟩),.int .u64 150] 154)).alloc (.cells #[.pointer (some ⟨3,121,none⟩),.pointer (some ⟨w.heap.size,0,none⟩),.int .u64 150] 154)).alloc (.cells #[.int .i64 e] 78))
  (by rw [World.cell?_alloc_at _ _ _ _ (by simp)];rfl)
  (by rw [World.cell?_alloc_lt _ _ t (by simp;omega),World.cell?_alloc_lt _ _ t (by simp;omega),World.cell?_alloc_lt _ _ t (by simp;omega),World.cell?_alloc_lt _ _ t htl];exact ht0)
  (by rw [World.frozen?_alloc_old _ _ t (by simp;omega),World.frozen?_alloc_old _ _ t (by simp;omega),World.frozen?_alloc_old _ _ t (by simp;omega),World.frozen?_alloc_old _ _ t (Nat.ne_of_lt htl)];exact hf0)
 go_enter Tryz.func59,Tryz.ntmps59
 go_wp2
 refine wp_loop_rounds 1 ?_
 rw [rounds_succ]
 go_wp2
 go_ret
 exact ⟨rfl,rfl⟩
theorem zAe (w:World):Calls Tryz.prog 35 #[.nilIface] w fun e w'=>e= .returned (.int .i64 0)∧Below w.heap.size w w':=by
 go_enter Tryz.func35,Tryz.ntmps35
 go_wp2
 go_ret
 exact ⟨rfl,Below.refl _ _⟩
theorem zBg (c:Int) (w:World) (hH:Handle w):Calls Tryz.prog 35 #[.iface 78 (.int .i64 c)] w fun e w'=>e= .returned (.int .i64 c)∧Below w.heap.size w w':=by
 have hHA:Handle (w.alloc (.cells #[.int .i64 0] 78)):=hH.below ((Below.refl _ _).alloc (Nat.le_refl _) _)
 have htA:(w.alloc (.cells #[.int .i64 0] 78)).cell? ⟨w.heap.size,0,none⟩=some (.int .i64 0):=by simp
 have hfA:(w.alloc (.cells #[.int .i64 0] 78)).frozen? ⟨w.heap.size,0,none⟩=false:=by simp
 go_enter Tryz.func35,Tryz.ntmps35
 go_wp2_with (go_at_call 59;refine (zHg c _ (.int .i64 0) _ hHA htA hfA).mono ?_;rintro e w' ⟨rfl,rfl⟩)
 go_ret
 exact ⟨rfl,by repeat (first | exact Below.refl _ _ | (refine Below.setCell ?_ (by simp<;>omega) _) | (refine Below.alloc ?_ (by simp<;>omega) _))⟩
theorem zq0 (k:Int) (w:World):Calls Tryz.prog 14 #[.nilIface,.int .i64 k] w fun e w'=>e= .returned (.bool (0==k))∧Below w.heap.size w w':=by
 go_enter Tryz.func14,Tryz.ntmps14
 go_wp2_with (go_at_call 35;refine (zAe _).mono ?_;rintro e w1 ⟨rfl,hb⟩)
 go_ret
 exact ⟨rfl,‹_›⟩
theorem zha (c k:Int) (w:World) (hH:Handle w):Calls Tryz.prog 14 #[.iface 78 (.int .i64 c),.int .i64 k] w fun e w'=>e= .returned (.bool (c==k))∧Below w.heap.size w w':=by
 go_enter Tryz.func14,Tryz.ntmps14
 go_wp2_with (go_at_call 35;refine (zBg c _ hH).mono ?_;rintro e w1 ⟨rfl,hb⟩)
 go_ret
 exact ⟨rfl,‹_›⟩
end Go.Proofs.YtdnehibcpkjafaaGreatDoor
