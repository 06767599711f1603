/- What the law RunAnswers needs. -/
import Derived.Test.YtdokgalidhmbbaaGreatDoorHR
import Derived.Test.YtdokgalidhmbbaaGreatDoorChecked
import Derived.Maps.OwnSet
import Derived.Maps.OwnIn
import Derived.StringKeys
import Derived.WalkKit
import Derived.WalkSpells
import Derived.WalkLawsBesides
import Derived.LoopN
import Derived.Outline
import Derived.KernelRfl
import Derived.Deep.RegionWith
import Derived.Shelf.Strings.Builder1
import Derived.Lib.AppendStr
import Derived.Laws.AppendOwn
set_option linter.unusedVariables false
set_option linter.unusedSimpArgs false
set_option maxRecDepth 100000
set_option maxHeartbeats 8000000
namespace Go.Proofs.YtdokgalidhmbbaaGreatDoor
namespace Rn
open Go.RowKit
def two:Value->Option (DataW Unit×List MemPlace)
 |.agg c=>match c.toList with
  |[.int .i64 a,.int .i64 b]=>some (.agg [.lit (.int .i64 a),.lit (.int .i64 b)],[])
  |_=>none
 |_=>none
theorem iH(a b:Int):two (.agg #[.int .i64 a,.int .i64 b])=some (.agg [.lit (.int .i64 a),.lit (.int .i64 b)],[]):=rfl
theorem zt0{v:Value}{z:DataW Unit×List MemPlace}(h:two v=some z):∃a b:Int,v=.agg #[.int .i64 a,.int .i64 b]/\z=(.agg [.lit (.int .i64 a),.lit (.int .i64 b)],[]):=by
 unfold two at h;split at h;rename_i c;split at h;rename_i a b e;refine⟨a,b,?_,(Option.some.inj h).symm⟩;have:c=#[.int .i64 a,.int .i64 b]:=by cases c;simp_all
 rw[this];cases h;cases h
def WG:DataW Unit:=.agg [.lit (.int .i64 0),.lit (.int .i64 0)]
theorem Yw:Maps.Keyed Tryz.prog 9:=Maps.string_keyed Tryz.underlying9
theorem Yu(s:ByteArray)(h:s.size<=maxLen):keyOf Tryz.prog 9 (.string s)=some (.string s.data.toList):=by
 rw[keyOf_string Tryz.underlying9];simp[mapKey,Tryz.underlying9,h]
def Ms(Y w:World)(b n:Nat)(D:DataW Unit):Prop:=w.ownsMap Tryz.prog 9 two b n D/\Below Y.heap.size Y w/\Y.heap.size<=b
theorem zh0{Y w:World}{W:Array Oper}{c:List Oper}{o:Oper}{a:Act}{Q:Exit->Act->World->Prop}
  (g:o.guard=none) (m x v:Operand) (j:o.op=Op.insert 69 m x v) (b n:Nat) (D:DataW Unit) (h:Ms Y w b n D)
  (i:a.eval m=.map (some b)) (P:n<100) (s:ByteArray) (p q:Int) (u:a.eval x=.string s) (t:a.eval v=.agg #[.int .i64 p,.int .i64 q]) (r:s.size<=maxLen)
  (d:∀E,Ms Y E b (n+1) (D.put (.string s.data.toList) (.agg [.lit (.int .i64 p),.lit (.int .i64 q)]))->wpList Tryz.prog W Q c (a.put o.dst undef) E):
  wpList Tryz.prog W Q (o::c) a w:=by
 refine wpList_plain g λF f=>?_;obtain⟨E,l,y,B⟩:=h.1.update Yw Tryz.underlying69 (by unfold maxLen;omega) (Yu s r) (iH p q);unfold Oper.wp;simp[execOp,j,i,u,t,l,Result.andThen];exact f _ _ (d E ⟨y,h.2.1.grown B h.2.1.size (λk e=>by cases e;exact h.2.2),h.2.2⟩)
abbrev el(p q:Int):DataW Unit:=.agg [.lit (.int .i64 p),.lit (.int .i64 q)]
def wantsD:DataW Unit:=(((((((((DataW.map []).put (.string [119,114,105,116,101]) (el 1 1)).put (.string [115,101,110,100]) (el 1 0)).put (.string [99,111,109,101]) (el 1 0)).put (.string [108,111,115,101]) (el 1 0)).put (.string [116,119,105,99,101]) (el 1 0)).put (.string [114,101,97,100]) (el 2 0)).put (.string [99,111,117,110,116]) (el 0 0)).put (.string [118,97,114,105,110,116]) (el 1 0)).put (.string [110,101,101,100]) (el 2 0)
theorem zui(w:World):Calls Tryz.prog 31 #[] w λe E=>∃b,e=.returned (.map (some b))/\Ms w E b 9 wantsD:=by
 have a:Ms w (w.alloc (.map #[] 0)) w.heap.size 0 (.map []):=⟨World.ownsMap_made w _ _ _,(Below.refl _ w).alloc (Nat.le_refl _) _,Nat.le_refl _⟩;have c:=@run_makeMap Tryz.prog;go_enter Tryz.func31,Tryz.ntmps31
 go_wp2_with (first|(refine zh0 rfl _ _ _ rfl _ _ _ (by assumption) rfl (by decide) _ _ _ rfl rfl (by decide) ?_;intro f d)|fail);go_ret;exact⟨_,rfl,by assumption⟩
def qd(l:List UInt8):Option (Nat×Nat):=
 if l=[99,111,109,101]then some (1,0)else if l=[99,111,117,110,116]then some (0,0)else if l=[108,111,115,101]then some (1,0)else if l=[110,101,101,100]then some (2,0)else if l=[114,101,97,100]then some (2,0)else if l=[115,101,110,100]then some (1,0)else if l=[116,119,105,99,101]then some (1,0)else if l=[118,97,114,105,110,116]then some (1,0)else if l=[119,114,105,116,101]then some (1,1)else none
theorem zuh:wantsD=.map [(.string [99,111,109,101],el 1 0),(.string [99,111,117,110,116],el 0 0),(.string [108,111,115,101],el 1 0),(.string [110,101,101,100],el 2 0),(.string [114,101,97,100],el 2 0),(.string [115,101,110,100],el 1 0),(.string [116,119,105,99,101],el 1 0),(.string [118,97,114,105,110,116],el 1 0),(.string [119,114,105,116,101],el 1 1)]:=by kernel_rfl
theorem iL(l:List UInt8):wantsD.atKey (.string l) WG=el ((qd l).getD (0,0)).1 ((qd l).getD (0,0)).2/\Maps.has wantsD (.string l)=(qd l).isSome:=by
 rw[zuh];unfold qd;by_cases b:l=[99,111,109,101];subst b;exact⟨rfl,rfl⟩;rw[if_neg b];by_cases c:l=[99,111,117,110,116];subst c;exact⟨rfl,rfl⟩;rw[if_neg c];by_cases d:l=[108,111,115,101];subst d;exact⟨rfl,rfl⟩;rw[if_neg d];by_cases f:l=[110,101,101,100];subst f;exact⟨rfl,rfl⟩;rw[if_neg f];by_cases g:l=[114,101,97,100];subst g;exact⟨rfl,rfl⟩;rw[if_neg g];by_cases h:l=[115,101,110,100];subst h;exact⟨rfl,rfl⟩
 rw[if_neg h];by_cases i:l=[116,119,105,99,101];subst i;exact⟨rfl,rfl⟩;rw[if_neg i];by_cases j:l=[118,97,114,105,110,116];subst j;exact⟨rfl,rfl⟩;rw[if_neg j];by_cases m:l=[119,114,105,116,101];subst m;exact⟨rfl,rfl⟩;rw[if_neg m];have a:∀k:List UInt8,l≠k->(Lit.string k).sameKey (.string l)=false:=λk n=>by
  simp[Lit.sameKey];exact λe=>n e.symm
 simp[DataW.atKey,Maps.has,List.find?,a _ b,a _ c,a _ d,a _ f,a _ g,a _ h,a _ i,a _ j,a _ m,WG]
end Rn
end Go.Proofs.YtdokgalidhmbbaaGreatDoor
namespace Go.Proofs.YtdokgalidhmbbaaGreatDoor
namespace Rn
open Go.RowKit
structure Bu(w:World)(S b:Nat)(v:Value)(l:List UInt8):Prop where
 hb:S<=b
 lies:w.heap[b]? =some (.cells #[.pointer none,v] 39 (0,0))\/w.heap[b]? =some (.cells #[.pointer (some ⟨b,0,none⟩),v] 39 (0,0))
 row:w.ownsRow S 5 1 v l.length (Lib.byteCells l)
 ne:v.ownBlock≠some b
def xm(b:Nat)(v:Value)(k:Nat):Prop:=k=b\/v.ownBlock=some k
variable {w:World}{S b:Nat}{v:Value}{l:List UInt8}
theorem Bu.lt(h:Bu w S b v l):b<w.heap.size:=by
 rcases h.lies with h|h<;>exact(Array.getElem?_eq_some_iff.1 h).1
theorem Vl:(Tryz.prog.info? 39).map (λj=>j.size)=some 2:=by kernel_rfl
theorem Z5:(Tryz.prog.info? 5).map (λi=>(i.zero,i.size,i.bytes))=some (some (.int .u8 0),1,1):=by kernel_rfl
theorem zc4(b:Nat)(w:World)(c:w.cell? ⟨b,0,none⟩=some (.pointer (some ⟨b,0,none⟩))):
  Cs 34 #[.pointer (some ⟨b,0,none⟩)] w (.tuple #[]):=by
 obtain⟨j,a,d⟩:=Option.map_eq_some_iff.1 Vl;go_enter Tryz.func34,Tryz.ntmps34
 go_wp2;rw[Lib.run_neq_ptr_same w _ Tryz.underlying36 a];go_wp2;go_end0
 exact⟨rfl,rfl⟩
theorem zns(b:Nat)(w:World)(d:w.shape? b=some (39,2)):(Go.convert 36 113 (.pointer (some ⟨b,0,none⟩))).run Tryz.prog w=.ok (.pointer (some ⟨b,0,none⟩)) w:=by
 obtain⟨j,a,c⟩:=Option.map_eq_some_iff.1 Vl;simp[Go.convert,run_underlying Tryz.underlying36,run_underlying Tryz.underlying113,Conv.unsafePointer,Conv.seenAt,viewAt,cellsIn,d,sizeOf,typeInfo,a,c]
theorem znr(b:Nat)(w:World)(e:w.shape? b=some (39,2)):(Go.convert 113 36 (.pointer (some ⟨b,0,none⟩))).run Tryz.prog w=.ok (.pointer (some ⟨b,0,none⟩)) w:=by
 obtain⟨j,a,c⟩:=Option.map_eq_some_iff.1 Vl;have d:liesAt Tryz.prog Tryz.prog.depth 39 (2/Tryz.prog.cellsOf 39) 0 39 1=true:=by kernel_rfl
 simp[Go.convert,run_underlying Tryz.underlying36,run_underlying Tryz.underlying113,Conv.unsafePointer,Conv.seenAt,viewAt,variablesAt,d,e,sizeOf,typeInfo,a,c]
theorem zc0(b:Nat)(w:World)(c:w.cell? ⟨b,0,none⟩=some (.pointer none))(a:w.shape? b=some (39,2))(d:w.frozen? ⟨b,0,none⟩=false):
  Calls Tryz.prog 34 #[.pointer (some ⟨b,0,none⟩)] w λe E=>e=.returned (.tuple #[])/\E=w.setCell ⟨b,0,none⟩ (.pointer (some ⟨b,0,none⟩)):=by
 go_enter Tryz.func34,Tryz.ntmps34
 go_wp2;rw[zns b w a];simp only[Result.andThen];rw[Oper.upon_value];go_wp2;rw[run_callFunc_extern Tryz.func49 (by kernel_rfl) (by kernel_rfl) (by kernel_rfl) (e:=Extern.AbiNoEscape.same) (by kernel_rfl)];rw[Lib.run_noEscape];simp only[Result.andThen];rw[Oper.upon_value];go_wp2;rw[znr b w a];simp only[Result.andThen];rw[Oper.upon_value];go_wp2;go_end0
 exact⟨rfl,rfl⟩
theorem ZF(h:Bu w S b v l):
  Calls Tryz.prog 34 #[.pointer (some ⟨b,0,none⟩)] w λe E=>e=.returned (.tuple #[])/\E.heap[b]? =some (.cells #[.pointer (some ⟨b,0,none⟩),v] 39 (0,0))/\E.ownsRow S 5 1 v l.length (Lib.byteCells l)/\Off (xm b v) w E:=by
 rcases h.lies with hb|hb;refine (zc0 b w (by rw[Lib.cell_of_heap hb];rfl) (by simp[World.shape?,hb]) (Lib.frozen_of_heap hb 0)).mono ?_;rintro e E ⟨rfl,rfl⟩;refine⟨rfl,by simp[World.setCell,Array.getElem?_modify,hb],?_,(Off.refl _ w).setCell (.inl rfl) _⟩;exact h.row.kept (row:=some b) ⟨rfl,rfl,rfl,by simp[World.setCell],λk _ a=>Below.heap_setCell _ _ _ _ (λe=>a (by simp[e]))⟩ (Or.inr h.ne);refine (zc4 b w (by rw[Lib.cell_of_heap hb];rfl)).mono ?_;rintro e E ⟨rfl,rfl⟩;exact⟨rfl,hb,h.row,Off.refl _ _⟩
theorem Wn(l m:List UInt8):Lib.byteCells (l++m)=Lib.byteCells l++Lib.byteCells m:=List.map_append
theorem Bu.put{a:World}{v':Value}(g:S<=b)(c:a.heap[b]? =some (.cells #[.pointer (some ⟨b,0,none⟩),v] 39 (0,0)))(f:a.ownsRow S 5 1 v' l.length (Lib.byteCells l)):Bu (a.setCell ⟨b,1,none⟩ v') S b v' l:=by
 have d:=Lib.ownBlock_ne f c (by decide);refine⟨g,.inr (by simp[World.setCell,Array.getElem?_modify,c]),?_,d⟩;exact f.kept (row:=some b) ⟨rfl,rfl,rfl,by simp[World.setCell],λk _ h=>Below.heap_setCell _ _ _ _ (λe=>h (by simp[e]))⟩ (Or.inr d)
theorem zb1(h:Bu w S b v l)(s:ByteArray)(I:l.length+s.size<=140737488355328)(H:S<=w.heap.size):
  Calls Tryz.prog 13 #[.pointer (some ⟨b,0,none⟩),.string s] w λe E=>e=.returned (.tuple #[.int .i64 s.size,.nilIface])/\∃j,Bu E S b j (l++s.data.toList)/\Off (xm b v) w E:=by
 obtain⟨V,x,P,Q,U⟩:=info_parts Z5;have J:=h.lt;have u:=h.hb;have B:=h.ne;have t:=ZF h;clear h;go_enter Tryz.func13,Tryz.ntmps13
 go_wp2_with (go_at_call 34;refine t.mono ?_);rintro e m ⟨rfl,c,F,q⟩;have o:m.cell? ⟨b,0,none⟩=some (.pointer (some ⟨b,0,none⟩)):=by rw[Lib.cell_of_heap c];rfl
 have z:m.cell? ⟨b,1,none⟩=some v:=by rw[Lib.cell_of_heap c];rfl
 go_wp2_with (at_builtin;refine Lib.wpList_append_own_string _ rfl _ _ 37 9 rfl S 5 V Tryz.underlying37 Tryz.underlying9 x P Q U _ _ _ rfl F s rfl ?c3 ?c4 ?c5 ?_);case c3=>unfold maxLen;omega
 case c4=>omega
 case c5=>have:=q.size;omega
 intro j d hown' p _;have y:b<m.heap.size:=(Array.getElem?_eq_some_iff.1 c).1;have a:d.heap[b]? =some (.cells #[.pointer (some ⟨b,0,none⟩),v] 39 (0,0)):=by
  rw[p.block b y (λe=>B e.symm)];exact c
 have C:d.cell? ⟨b,0,none⟩=some (.pointer (some ⟨b,0,none⟩)):=by rw[Lib.cell_of_heap a];rfl
 have D:d.cell? ⟨b,1,none⟩=some v:=by rw[Lib.cell_of_heap a];rfl
 have G:d.frozen? ⟨b,1,none⟩=false:=Lib.frozen_of_heap a 1;obtain⟨n,r,f,rfl⟩:∃n r f,j=.slice n r f:=by
  rcases hown'.2 with⟨i,_⟩|⟨g,f,A,i,_⟩;exact ⟨_,_,_,i⟩;exact ⟨_,_,_,i⟩
 go_wp2;go_ret2
 refine⟨rfl,_,Bu.put (l:=l++s.data.toList) u a ?_,(q.trans (Off.of_grown p (λk e=>.inr e))).setCell (.inl rfl) _⟩;rw[Wn,List.length_append];exact hown'
theorem zbp(h:Bu w S b v l)(c:UInt8)(J:l.length+1<=140737488355328)(I:S<=w.heap.size):
  Calls Tryz.prog 16 #[.pointer (some ⟨b,0,none⟩),.int .u8 c.toNat] w λe E=>e=.returned .nilIface/\∃p,Bu E S b p (l++[c])/\Off (xm b v) w E:=by
 obtain⟨z,B,U,V,o⟩:=info_parts Z5;have K:=h.lt;have y:=h.hb;have P:=h.ne;have x:=ZF h;clear h;go_enter Tryz.func16,Tryz.ntmps16
 go_wp2_with (go_at_call 34;refine x.mono ?_);rintro e a ⟨rfl,f,Q,s⟩;have A:a.cell? ⟨b,0,none⟩=some (.pointer (some ⟨b,0,none⟩)):=by rw[Lib.cell_of_heap f];rfl
 have c1:a.cell? ⟨b,1,none⟩=some v:=by rw[Lib.cell_of_heap f];rfl
 go_wp2_with (at_builtin;refine wpList_append_own _ rfl _ _ 37 rfl S 5 z (.int .u8 0) 1 1 Tryz.underlying37 B U V o rfl (by decide) _ _ _ rfl (Q.alloc _) ⟨a.heap.size,0,none⟩ 1 1 [.int .u8 c.toNat] rfl rfl ?c1 ?c2 ?c3 ?c4 ?c5 ?_);case c1=>
  intro j u hj
  match j,hj with
  |0,hj=>simp at hj;subst hj;simp[Addr.add]
 case c2=>intro u hu;simp at hu;subst hu;rfl
 case c3=>unfold maxLen;omega
 case c4=>omega
 case c5=>have:=s.size;simp;omega
 intro p i hown' r _;have F:b<a.heap.size:=(Array.getElem?_eq_some_iff.1 f).1;have d:i.heap[b]? =some (.cells #[.pointer (some ⟨b,0,none⟩),v] 39 (0,0)):=by
  rw[r.block b (by simp;omega) (λe=>P e.symm),Lib.alloc_old a _ b F];exact f
 have D:i.cell? ⟨b,0,none⟩=some (.pointer (some ⟨b,0,none⟩)):=by rw[Lib.cell_of_heap d];rfl
 have G:i.cell? ⟨b,1,none⟩=some v:=by rw[Lib.cell_of_heap d];rfl
 have H:i.frozen? ⟨b,1,none⟩=false:=Lib.frozen_of_heap d 1;obtain⟨q,t,m,rfl⟩:∃q t m,p=.slice q t m:=by
  rcases hown'.2 with⟨n,_⟩|⟨g,m,C,n,_⟩;exact ⟨_,_,_,n⟩;exact ⟨_,_,_,n⟩
 go_wp2;go_ret;refine⟨rfl,_,Bu.put (l:=l++[c]) y d ?_,((s.alloc _).trans (Off.of_grown r (λk e=>.inr e))).setCell (.inl rfl) _⟩;rw[Wn,List.length_append];exact hown'
theorem Bu.off{K:Nat->Prop}{E:World}(h:Bu w S b v l)(c:Off K w E)(hK:∀k,xm b v k->¬K k):Bu E S b v l:=by
 have i:=c.block b h.lt (hK b (.inl rfl));refine⟨h.hb,by rw[i];exact h.lies,?_,h.ne⟩;refine⟨h.row.1,h.row.2.imp id ?_⟩;rintro⟨g,d,e,rfl,f,a,j⟩;exact⟨g,d,e,rfl,f,(c.block g (Array.getElem?_eq_some_iff.1 a).1 (hK g (.inr rfl))).trans a,j⟩
end Rn
end Go.Proofs.YtdokgalidhmbbaaGreatDoor
