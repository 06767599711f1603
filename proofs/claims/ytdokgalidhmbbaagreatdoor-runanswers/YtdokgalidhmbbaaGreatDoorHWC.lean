/- What the law RunAnswers needs. -/
import Derived.Test.YtdokgalidhmbbaaGreatDoorHWA
import Derived.Test.YtdokgalidhmbbaaGreatDoorHRS
import Derived.WalkSmall
import Derived.Laws.Strings
set_option linter.unusedVariables false
set_option linter.unusedSimpArgs false
set_option maxRecDepth 100000
set_option maxHeartbeats 8000000
namespace Go.Proofs.YtdokgalidhmbbaaGreatDoor
namespace Rn
open Go.RowKit
structure Env(w:World)(bv:Value):Prop where
 low:18<=w.heap.size
 bad:w.cell? ⟨1,0,none⟩=some bv
 isB:∃t p,bv=.iface t p
 tab:Lib.TabIs Tryz.prog w "internal/strconv.uint64pow10" .u64 Lib.pow10Tab
 syn:∃t p,w.var? Tryz.prog "strconv.ErrSyntax" =some #[.iface t p]
 rng:∃t p,w.var? Tryz.prog "strconv.ErrRange" =some #[.iface t p]
theorem gTab:Tryz.prog.globalNamed "internal/strconv.uint64pow10" =some 6:=by kernel_rfl
theorem Yi:Tryz.prog.globalNamed "strconv.ErrSyntax" =some 4:=by kernel_rfl
theorem Yh:Tryz.prog.globalNamed "strconv.ErrRange" =some 5:=by kernel_rfl
variable {w:World}
theorem Env.below{E:World}{I:Value}{B:Nat}(h:Env w I)(a:Below B w E)(b:18<=B):Env E I where
 low:=Nat.le_trans h.low a.size
 bad:=(a.cell (p:=⟨1,0,none⟩) (show 1<B by omega)).trans h.bad
 isB:=h.isB
 tab:=var?_below a gTab (by omega) h.tab
 syn:=by obtain⟨t,p,e⟩:=h.syn;exact⟨t,p,var?_below a Yi (by omega) e⟩
 rng:=by obtain⟨t,p,e⟩:=h.rng;exact⟨t,p,var?_below a Yh (by omega) e⟩
def jr(l:List UInt8):Option Int:=
 match Lib.atoiAll l with
 |.ok v=>if v<0\/9999<v\/Lib.itoa v≠l then none else some v
 |_=>none
def yM(I:Value):Option Int->Value
 |some n=>.tuple #[.int .i64 n,.nilIface]
 |none=>.tuple #[.int .i64 0,I]
theorem below_grow(w:World)(k:Nat)(b:Array Go.Obj):Below w.heap.size w (Go.Sort.grow (w.drewN k) b):=
 (below_drewN (Below.refl _ w) k).trans ⟨rfl,rfl,rfl,by simp[Go.Sort.grow],λi a=>by
  simp only[Go.Sort.grow]
  exact Array.getElem?_append_left a⟩
theorem zbs(w:World)(t:TypeId)(x:ByteArray):Below w.heap.size w (Lib.bytesWorld w t x):=by
 have h:Below w.heap.size w (w.drew.alloc (.cells (Lib.bytesCells w t x) t)):=(Below.refl _ w).drew.alloc (Nat.le_refl _) _;refine h.trans ⟨rfl,rfl,rfl,?_,λi a=>?_⟩;simp [Lib.bytesWorld,World.freeze];simp [Lib.bytesWorld,World.freeze,Array.getElem?_modify];omega
theorem zbd(s:ByteArray)(f:s.size<=3000){I:Value}(h:Env w I):Calls Tryz.prog 94 #[.string s] w λe E=>
  ∃v b,e=.returned (.tuple #[.int .i64 v,b])/\((b=.nilIface/\Lib.atoiAll s.data.toList=.ok v)\/((∃t p,b=.iface t p)/\∀v,Lib.atoiAll s.data.toList≠ .ok v))/\Below w.heap.size w E:=by
 obtain⟨r,hr⟩:∃r,Lib.atoiAll s.data.toList=r:=⟨_,rfl⟩;rw[hr];rcases r with v|_|_;refine (Tryz.strconv_Atoi_ok s (by omega) v hr w).mono ?_;rintro e E ⟨rfl,rfl|⟨t,rfl⟩⟩;exact ⟨v,_,rfl,.inl ⟨rfl,rfl⟩,Below.refl _ _⟩;exact ⟨v,_,rfl,.inl ⟨rfl,rfl⟩,zbs _ _ _⟩;obtain ⟨t,p,a⟩:=h.syn;refine(Tryz.strconv_Atoi_bad_var s (by omega) hr t p w a).mono ?_;rintro e E ⟨N,rfl,_,_,c⟩;exact⟨_,_,rfl,.inr ⟨⟨_,_,rfl⟩,λv d=>by cases d⟩,c⟩
 obtain ⟨t,p,a⟩:=h.rng;refine(Tryz.strconv_Atoi_range_var s (by omega) hr t p w a).mono ?_;rintro e E ⟨N,rfl,_,_,c⟩;exact⟨_,_,rfl,.inr ⟨⟨_,_,rfl⟩,λv d=>by cases d⟩,c⟩
theorem toList_data(b:ByteArray):b.toList=b.data.toList:=ByteArray.toList_eq b
theorem yZ{a b:ByteArray}(h:a.data.toList=b.data.toList):a=b:=by
 cases a;cases b;congr 1
 exact Array.toList_inj.1 h
theorem QV(v:Int)(c:0<=v)(d:v<=1000000000){I:Value}(h:Env w I):Calls Tryz.prog 79 #[.int .i64 v] w λe E=>
  ∃b:ByteArray,e=.returned (.string b)/\b.data.toList=Lib.itoa v/\Below w.heap.size w E:=by
 refine(Tryz.strconv_Itoa v (by omega) (by omega) w h.tab).mono ?_;rintro e f ⟨rfl,k,a,rfl⟩;exact⟨_,rfl,rfl,below_grow w k a⟩
theorem Xh(s:ByteArray)(U:s.size<=3000){I:Value}(h:Env w I):Cl 72 #[.string s] w (yM I (jr s.data.toList)):=by
 obtain⟨d,c,rfl⟩:=h.isB;have m:=zbd s U h;go_enter Tryz.func72,Tryz.ntmps72
 go_wp2_with (go_at_call 94;refine m.mono ?_);rintro e l ⟨v,D,rfl,P,a⟩;have f:=h.below a h.low;have g:=f.bad;clear m;rcases P with⟨rfl,k⟩|⟨⟨t,p,rfl⟩,k⟩
 .have hv:jr s.data.toList=if v<0\/9999<v\/Lib.itoa v≠s.data.toList then none else some v:=by unfold jr;rw[k]
  by_cases n:v<0
  .rw [if_pos (.inl n)]at hv;go_wp2;have i:l.drew.cell? ⟨1,0,none⟩=some (.iface d c):=g;go_region
   all_goals (go_wp2;go_ret2;exact⟨by rw[hv];rfl,a.drew⟩)
  by_cases q:9999<v
  .rw [if_pos (.inr (.inl q))]at hv;go_wp2;have i:l.drew.cell? ⟨1,0,none⟩=some (.iface d c):=g;go_region
   all_goals (go_wp2;go_ret2;exact⟨by rw[hv];rfl,a.drew⟩)
  have y:=QV v (by omega) (by omega) f;have A:decide (v<0)=false:=decide_eq_false n;have C:decide (9999<v)=false:=decide_eq_false q;go_wp2_with (go_at_call 79;refine y.mono ?_);rintro e z ⟨b,rfl,x,r⟩;have B:=(f.below r f.low).bad;have u:=a.trans (r.mono a.size);by_cases j:b=s
  .subst j;rw[if_neg (by rintro(h|h|h)<;>first|exact absurd h (by omega)|exact h x.symm)]at hv;go_wp2;go_ret2
   exact⟨by rw[hv];rfl,u⟩
  have Q:Lib.itoa v≠s.data.toList:=λe=>j (yZ (x.trans e));have V:jr s.data.toList=none:=hv.trans (if_pos (.inr (.inr Q)));have G:(b.toList==s.toList)=false:=by
   rw[beq_eq_false_iff_ne];intro e;rw[toList_data,toList_data]at e;exact j (yZ e)
  go_wp2;have i:z.drew.cell? ⟨1,0,none⟩=some (.iface d c):=B;go_region
  all_goals (go_wp2;go_ret2;exact⟨by rw[V];rfl,u.drew⟩)
 have hv:jr s.data.toList=none:=by
  unfold jr;split;rename_i o F;exact absurd F (k o);.rfl
 go_wp2;have i:l.drew.cell? ⟨1,0,none⟩=some (.iface d c):=g;go_region
 all_goals (go_wp2;go_ret2;exact⟨by rw[hv];rfl,a.drew⟩)
end Rn
end Go.Proofs.YtdokgalidhmbbaaGreatDoor
