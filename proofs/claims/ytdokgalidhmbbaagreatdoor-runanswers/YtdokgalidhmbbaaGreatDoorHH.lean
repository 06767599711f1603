/- What the law RunAnswers needs. -/
import Derived.Test.YtdokgalidhmbbaaGreatDoorHR
import Derived.Shelf.SlicesQ.IndexFunc
import Derived.Shelf.SlGeneric
import Derived.Ground.SlgfProg
import Derived.Laws.AppendOwn
import Derived.Laws.AppendOwnNone
import Derived.Shelf.Spec.SlicesGrow
import Derived.Shelf.SlSortCmp.WholeK
import Derived.Shelf.SlSortCmp.NoneTotal
import Derived.Ground.SlsfProg
import Derived.Ground.Names8Prog
import Derived.Laws.OwnMore
import Derived.Deep.AppendLies
import Derived.Laws.StructEq
set_option linter.unusedVariables false
set_option linter.unusedSimpArgs false
set_option maxRecDepth 100000
set_option maxHeartbeats 8000000
namespace Go.Proofs
open Go.Shelf
def Tryz.lh_ren:Go.Shelf.Ren:=⟨fun|8=>181|6=>210|n=>n,fun|22=>88|23=>143|25=>265|4=>4|3=>3|0=>0|n=>n,fun|n=>n⟩
theorem Tryz.lh:Go.Proofs.SlLaysH0.n8 Tryz.prog Tryz.lh_ren:={
 mixed:=by kernel_rfl
 f6:=⟨Tryz.f210.name,by decide,Tryz.func210.trans (congrArg some (by kernel_rfl))⟩
 f8:=⟨Tryz.f181.name,by decide,Tryz.func181.trans (congrArg some (by kernel_rfl))⟩
 t0:=Tryz.underlying0
 a0:=Tryz.isAgg0
 z0:=Tryz.sizeOf0
 v0:=Tryz.zeroValue0
 t3:=Tryz.underlying3
 a3:=Tryz.isAgg3
 z3:=Tryz.sizeOf3
 v3:=Tryz.zeroValue3
 t4:=Tryz.underlying4
 a4:=Tryz.isAgg4
 z4:=Tryz.sizeOf4
 v4:=Tryz.zeroValue4
 t22:=Tryz.underlying88
 a22:=Tryz.isAgg88
 z22:=Tryz.sizeOf88
 v22:=Tryz.zeroValue88
 t25:=Tryz.underlying265
 a25:=Tryz.isAgg265
 z25:=Tryz.sizeOf265
 v25:=Tryz.zeroValue265}
end Go.Proofs
namespace Go.Proofs.YtdokgalidhmbbaaGreatDoor
open Go.RowKit Go.Lib Go.Sort Go.Shelf
theorem zho(b a n:Int)(B:Nat)(W:World)(c:W.cell? ⟨B,0,none⟩=some (.int .i64 n)):
  Cl 182 #[.agg #[.int .i64 b,.int .i64 a],.pointer (some ⟨B,0,none⟩)] W (.bool (kW (b,a) n)):=by
 have g:B<W.heap.size:=by
  by_cases h:B<W.heap.size;exact h;exfalso;simp[World.cell?,Array.getElem?_eq_none (show W.heap.size<=B by omega)]at c
 have i:(W.alloc (.cells #[.int .i64 b,.int .i64 a] 143)).cell? ⟨B,0,none⟩=some (.int .i64 n):=(Below.cell (((Below.refl W.heap.size W).alloc (Nat.le_refl _) _)) (by exact g)).trans c;by_cases d:b<=n
 .by_cases f:n<=a
  .go_enter Tryz.func182,Tryz.ntmps182
   go_wp2;go_ret;exact⟨by simp[kW,d,f],(Below.refl _ _).alloc (Nat.le_refl _) _⟩
  go_enter Tryz.func182,Tryz.ntmps182
  go_wp2;go_ret;exact⟨by rw[show kW (b,a) n=false by simp[kW];omega];rfl,(Below.refl _ _).alloc (Nat.le_refl _) _⟩
 go_enter Tryz.func182,Tryz.ntmps182
 go_wp2;go_ret;exact⟨by rw[show kW (b,a) n=false by simp[kW];omega];rfl,(Below.refl _ _).alloc (Nat.le_refl _) _⟩
theorem zhr(b f c:Nat)(J:List R)(n:Int)(w:World)(B:J.length<=9223372036854775807)(u:b<w.heap.size)(l:Cells w b f J):
  Cl 159 #[.slice (some ⟨b,f,none⟩) J.length c,.int .i64 n] w (.bool (xD J n)):=by
 have s:∀g w,(callFunc 182 g).run Tryz.prog w=.ok (.enter 182 g) w:=enters_of Tryz.func182 (by kernel_rfl) rfl;have a:Below w.heap.size w (w.alloc (.cells #[.int .i64 n] 3)):=(Below.refl _ _).alloc (Nat.le_refl _) _;have m:=l.below u a
 have hcon:=AnyQ.slices_ContainsFunc Tryz.lh 2 Tryz.isAgg143 Tryz.sizeOf143 encR (λ_=>rfl) (λr=>kW r n) 182 #[.pointer (some ⟨w.heap.size,0,none⟩)] s b f J.length c J (w.alloc (.cells #[.int .i64 n] 3))
  (λW r d=>(zho r.1 r.2 n w.heap.size W ((d.cell (p:=⟨w.heap.size,0,none⟩) (by simp)).trans (by simp))).mono λ_ _ ⟨y,t⟩=>⟨y,d.trans (t.mono d.size)⟩)
  (Nat.le_refl _) (by omega) (by simp;omega) (λj q i v hv=>by
   have h:=m j q
   have e:J[j]! =at' J j:=by simp[at',q]
   rw[e]at hv
   match i,hv with
   |0,hv=>simp[encR]at hv;subst hv;exact h.1
   |1,hv=>simp[encR]at hv;subst hv;exact h.2
   |i+2,hv=>simp[encR]at hv)
 change Calls Tryz.prog 181 _ _ _ at hcon;rw[List.take_length]at hcon;have k:(J.any λr=>kW r n)=xD J n:=rfl;rw[k]at hcon;clear l m k;generalize xD J n=P at hcon |-;generalize J.length=F at*;go_enter Tryz.func159,Tryz.ntmps159
 go_wp2_with (go_at_call 181;refine hcon.mono ?_;rintro e E ⟨rfl,x⟩);go_ret;exact⟨rfl,a.trans (x.mono a.size)⟩
theorem zhq(a:Option Addr)(c:Nat)(n:Int)(w:World):
  Cl 159 #[.slice a 0 c,.int .i64 n] w (.bool false):=by
 go_enter Tryz.func159,Tryz.ntmps159
 go_wp2;refine wp_loop_rounds 1 ?_;rw[rounds_succ];go_wp2;go_ret;exact⟨rfl,(Below.refl _ _).alloc (Nat.le_refl _) _⟩
theorem Yo(v:Value)(J:List R)(n:Int)(w:World)(h:Row w v J):
  Cl 159 #[v,.int .i64 n] w (.bool (xD J n)):=by
 obtain⟨a,c,rfl,g,j,h⟩:=h;rcases h with rfl|⟨b,i,rfl,d,f⟩;exact zhq a c n w;exact zhr b i c J n w g d f
end Go.Proofs.YtdokgalidhmbbaaGreatDoor
namespace Go.Proofs
open Go.Shelf
def Tryz.lg_ren:Go.Shelf.Ren:=⟨fun|4=>214|n=>n,fun|22=>88|25=>143|3=>3|4=>4|9=>9|20=>20|0=>0|2=>3|n=>n,fun|n=>n⟩
theorem Tryz.lg:Go.Proofs.Lays8.n4 Tryz.prog Tryz.lg_ren:={
 mixed:=by kernel_rfl
 f4:=⟨Tryz.f214.name,by decide,Tryz.func214.trans (congrArg some (by kernel_rfl))⟩
 t0:=Tryz.underlying0
 a0:=Tryz.isAgg0
 z0:=Tryz.sizeOf0
 v0:=Tryz.zeroValue0
 t3:=Tryz.underlying3
 a3:=Tryz.isAgg3
 z3:=Tryz.sizeOf3
 v3:=Tryz.zeroValue3
 t4:=Tryz.underlying4
 a4:=Tryz.isAgg4
 z4:=Tryz.sizeOf4
 v4:=Tryz.zeroValue4
 t9:=Tryz.underlying9
 a9:=Tryz.isAgg9
 z9:=Tryz.sizeOf9
 v9:=Tryz.zeroValue9
 t20:=Tryz.underlying20
 a20:=Tryz.isAgg20
 z20:=Tryz.sizeOf20
 v20:=Tryz.zeroValue20
 t22:=Tryz.underlying88
 a22:=Tryz.isAgg88
 z22:=Tryz.sizeOf88
 v22:=Tryz.zeroValue88}
def Tryz.ls_ren:Go.Shelf.Ren:=⟨fun|6=>188|15=>216|14=>215|28=>237|29=>196|20=>229|21=>230|22=>231|23=>232|24=>233|25=>234|26=>235|27=>236|46=>241|47=>242|48=>243|49=>244|50=>245|57=>247|n=>n,fun|22=>88|24=>143|25=>272|3=>3|39=>200|0=>0|53=>275|55=>250|4=>4|46=>310|45=>309|50=>55|5=>5|9=>9|66=>320|70=>324|76=>328|77=>329|n=>n,fun|n=>n⟩
theorem Tryz.ls:Go.Proofs.SlLaysF0.n6 Tryz.prog Tryz.ls_ren:={
 mixed:=by kernel_rfl
 f6:=⟨Tryz.f188.name,by decide,Tryz.func188.trans (congrArg some (by kernel_rfl))⟩
 f14:=⟨Tryz.f215.name,by decide,Tryz.func215.trans (congrArg some (by kernel_rfl))⟩
 f15:=Tryz.func216.trans (congrArg some (by kernel_rfl))
 f20:=⟨Tryz.f229.name,by decide,Tryz.func229.trans (congrArg some (by kernel_rfl))⟩
 f21:=⟨Tryz.f230.name,by decide,Tryz.func230.trans (congrArg some (by kernel_rfl))⟩
 f22:=⟨Tryz.f231.name,by decide,Tryz.func231.trans (congrArg some (by kernel_rfl))⟩
 f23:=⟨Tryz.f232.name,by decide,Tryz.func232.trans (congrArg some (by kernel_rfl))⟩
 f24:=⟨Tryz.f233.name,by decide,Tryz.func233.trans (congrArg some (by kernel_rfl))⟩
 f25:=⟨Tryz.f234.name,by decide,Tryz.func234.trans (congrArg some (by kernel_rfl))⟩
 f26:=⟨Tryz.f235.name,by decide,Tryz.func235.trans (congrArg some (by kernel_rfl))⟩
 f27:=⟨Tryz.f236.name,by decide,Tryz.func236.trans (congrArg some (by kernel_rfl))⟩
 f28:=Tryz.func237.trans (congrArg some (by kernel_rfl))
 f29:=Tryz.func196.trans (congrArg some (by kernel_rfl))
 f46:=⟨Tryz.f241.name,by decide,Tryz.func241.trans (congrArg some (by kernel_rfl))⟩
 f47:=Tryz.func242.trans (congrArg some (by kernel_rfl))
 f48:=Tryz.func243.trans (congrArg some (by kernel_rfl))
 f49:=⟨Tryz.f244.name,by decide,Tryz.func244.trans (congrArg some (by kernel_rfl))⟩
 f50:=⟨Tryz.f245.name,by decide,Tryz.func245.trans (congrArg some (by kernel_rfl))⟩
 f57:=⟨Tryz.f247.name,by decide,Tryz.func247.trans (congrArg some (by kernel_rfl))⟩
 t0:=Tryz.underlying0
 a0:=Tryz.isAgg0
 z0:=Tryz.sizeOf0
 v0:=Tryz.zeroValue0
 t3:=Tryz.underlying3
 a3:=Tryz.isAgg3
 z3:=Tryz.sizeOf3
 v3:=Tryz.zeroValue3
 t4:=Tryz.underlying4
 a4:=Tryz.isAgg4
 z4:=Tryz.sizeOf4
 v4:=Tryz.zeroValue4
 t5:=Tryz.underlying5
 a5:=Tryz.isAgg5
 z5:=Tryz.sizeOf5
 v5:=Tryz.zeroValue5
 t9:=Tryz.underlying9
 a9:=Tryz.isAgg9
 z9:=Tryz.sizeOf9
 v9:=Tryz.zeroValue9
 t22:=Tryz.underlying88
 a22:=Tryz.isAgg88
 z22:=Tryz.sizeOf88
 v22:=Tryz.zeroValue88
 t25:=Tryz.underlying272
 a25:=Tryz.isAgg272
 z25:=Tryz.sizeOf272
 v25:=Tryz.zeroValue272
 t39:=Tryz.underlying200
 a39:=Tryz.isAgg200
 z39:=Tryz.sizeOf200
 v39:=Tryz.zeroValue200
 t45:=Tryz.underlying309
 a45:=Tryz.isAgg309
 z45:=Tryz.sizeOf309
 v45:=Tryz.zeroValue309
 t46:=Tryz.underlying310
 a46:=Tryz.isAgg310
 z46:=Tryz.sizeOf310
 v46:=Tryz.zeroValue310
 t50:=Tryz.underlying55
 a50:=Tryz.isAgg55
 z50:=Tryz.sizeOf55
 v50:=Tryz.zeroValue55
 t53:=Tryz.underlying275
 a53:=Tryz.isAgg275
 z53:=Tryz.sizeOf275
 v53:=Tryz.zeroValue275
 t55:=Tryz.underlying250
 a55:=Tryz.isAgg250
 z55:=Tryz.sizeOf250
 v55:=Tryz.zeroValue250
 t66:=Tryz.underlying320
 a66:=Tryz.isAgg320
 z66:=Tryz.sizeOf320
 v66:=Tryz.zeroValue320
 t70:=Tryz.underlying324
 a70:=Tryz.isAgg324
 z70:=Tryz.sizeOf324
 v70:=Tryz.zeroValue324
 t76:=Tryz.underlying328
 a76:=Tryz.isAgg328
 z76:=Tryz.sizeOf328
 v76:=Tryz.zeroValue328
 t77:=Tryz.underlying329
 a77:=Tryz.isAgg329
 z77:=Tryz.sizeOf329
 v77:=Tryz.zeroValue329}
end Go.Proofs
namespace Go.Proofs.YtdokgalidhmbbaaGreatDoor
open Go.RowKit Go.Lib Go.Sort Go.Shelf
theorem zhj(w:World):Cs 214 #[.slice none 0 0,.int .i64 0] w (.slice none 0 0):=by
 have h:=Any8.slices_Grow_room Tryz.lg none 0 0 0 w (by omega) (by omega) (by omega) (by omega);change Calls Tryz.prog 214 _ _ _ at h;exact h
theorem zhk(n:Nat)(w:World)(m:0<n)(p:n<=1000000):Calls Tryz.prog 214 #[.slice none 0 0,.int .i64 n] w λe E=>∃v,e=.returned v/\E.ownsRow w.heap.size 143 2 v 0 (flat [])/\Below w.heap.size w E:=by
 obtain⟨k,g,i,q,j⟩:=info_parts wX;have h:=Any8.slices_Grow_grow Tryz.lg k _ g i (by omega) none 0 0 n [] w (by omega) (by omega) (by rw[j];omega) (by omega) (by simp) (λ_=>rfl) (λa d=>by cases d);change Calls Tryz.prog 214 _ _ _ at h;refine h.mono λe E ⟨f,b⟩=>⟨_,f,?_,?_⟩;rw [b];have l:=grownCap_ge w n 0 (Tryz.lg_ren.t 25);have c:=grownCap_le_maxLen w (0+n) 0 143 (by unfold maxLen;omega);exact World.ownsRow_made w.drew _ _ (Nat.le_refl _) c (by simp only[Array.size_append,size_zeroCells];simp[Value.cells];omega)
 rw [b];exact(Below.refl w.heap.size w).drew.alloc (Nat.le_refl _) _
theorem zhi(n:Nat)(w:World)(b:n<=1000000):Calls Tryz.prog 214 #[.slice none 0 0,.int .i64 n] w λe E=>∃v,e=.returned v/\E.ownsRow w.heap.size 143 2 v 0 (flat [])/\Below w.heap.size w E:=by
 by_cases a:n=0;subst a;exact(zhj w).mono λe E ⟨c,d⟩=>⟨_,c,World.ownsRow_nil _ _ _ _,d ▸ Below.refl _ _⟩;exact zhk n w (by omega) b
theorem zdb(S:Nat)(f g:Value)(K a:List R)(w:World)(d:S<w.heap.size)(ha:w.cell? ⟨S,0,none⟩=some f)(hb:w.cell? ⟨S,1,none⟩=some g)(i:Row w f K)(j:Row w g a)(A:K.length<=1000)(C:a.length<=1000):
  Calls Tryz.prog 187 #[.slice (some ⟨S,0,none⟩) 2 2] w λe E=>∃v,e=.returned v/\E.ownsRow w.heap.size 143 2 v (K.length+a.length) (flat (K++a))/\Below w.heap.size w E:=by
 have HA:=zC i;have HB:=zC j;obtain⟨P,U,rfl,D,t,B⟩:=i;obtain⟨Q,V,rfl,G,u,F⟩:=j;clear B F t u;have hg:=zhi (K.length+a.length) w (by omega);rw[Int.natCast_add]at hg;go_enter Tryz.func187,Tryz.ntmps187
 go_wp2_with fail;refine wp_loop_rounds 3 ?_;rw[rounds_succ];go_wp2_with fail;rw[rounds_succ];go_wp2_with fail;rw[rounds_succ];go_wp2_with fail;refine hg.mono ?_;rintro e H ⟨v,rfl,r,b⟩;have o:=(b.cell (p:=⟨S,0,none⟩) d).trans ha;have n:=(b.cell (p:=⟨S,1,none⟩) d).trans hb;clear ha hb;go_wp2_with fail;refine wp_loop_rounds 3 ?_;rw[rounds_succ];go_wp2_with (at_builtin;refine ZW rfl (.tmp 31) (.tmp 32) rfl w.heap.size v 0 (flat []) rfl r _ K rfl (HA.out.below b) (by omega) b.size ?_;intro x I s h)
 have c:=b.trans h;have z:=(h.cell (p:=⟨S,1,none⟩) d).trans n;rw[rounds_succ];go_wp2_with (at_builtin;refine ZW rfl (.tmp 31) (.tmp 32) rfl w.heap.size x _ _ rfl s _ a rfl (HB.out.below c) (by omega) c.size ?_;intro y J hown3 q);have m:=c.trans q;rw[rounds_succ];go_wp2_with fail;go_ret;refine⟨y,rfl,?_,m⟩;have k:0+K.length+a.length=K.length+a.length:=by omega
 have l:flat []++flat K++flat a=flat (K++a):=by rw[xL];rfl
 rw[k,l]at hown3;exact hown3
def ZG(x y:R):Int:=if y.2<x.2 then -1 else if x.2<y.2 then 1 else 0
theorem Xb(x y:R):ltOf ZG x y=decide (y.2<x.2):=by
 unfold ltOf ZG;by_cases a:y.2<x.2;simp [a];by_cases b:x.2<y.2<;>simp[a,b]
theorem swoF:SWO (ltOf ZG) where
 irrefl x:=by rw[Xb];simp
 trans x y z a b:=by rw[Xb]at*;simp at*;omega
 ntrans x y z a b:=by rw[Xb]at*;simp at*;omega
theorem zc8(x y:Int)(w:World):Cs 190 #[.int .i64 x,.int .i64 y] w (.int .i64 (if x<y then -1 else if y<x then 1 else 0)):=by
 by_cases a:x<y
 .rw [if_pos a];go_enter Tryz.func190,Tryz.ntmps190
  go_wp2;go_ret;exact⟨rfl,rfl⟩
 rw [if_neg a];by_cases b:y<x
 .rw [if_pos b];go_enter Tryz.func190,Tryz.ntmps190
  go_wp2;go_ret;exact⟨rfl,rfl⟩
 rw [if_neg b];go_enter Tryz.func190,Tryz.ntmps190
 go_wp2;go_ret;exact⟨rfl,rfl⟩
theorem zrt(x y:R)(W:World):Calls Tryz.prog 189 #[.agg #[.int .i64 x.1,.int .i64 x.2],.agg #[.int .i64 y.1,.int .i64 y.2]] W λe E=>e=.returned (.int .i64 (ZG x y))/\∃q b,E=grow (W.drewN q) b:=by
 have hcon:=λa=>zc8 y.2 x.2 a;have e:(if y.2<x.2 then(-1:Int)else if x.2<y.2 then 1 else 0)=ZG x y:=rfl;rw[e]at hcon;generalize ZG x y=r at hcon |-;clear e;go_enter Tryz.func189,Tryz.ntmps189
 go_wp2_with (go_at_call 190;refine(hcon _).mono ?_;rintro e E ⟨rfl,rfl⟩);go_ret;exact⟨rfl,0,_,by rw[alloc_eq_grow,alloc_eq_grow,grow_grow];rfl⟩
theorem heap_put{α:Type}[Inhabited α](b:α->List Value)(k:Nat)(w:World)(m a f:Nat)(d:Array α)(j:Nat)(c:j≠a):(putRowK b k (Sort.ahead w m) a f d).heap[j]? =w.heap[j]? :=by
 unfold putRowK putRow mapBlock;show(w.heap.modify a _)[j]? =_;rw[Array.getElem?_modify,if_neg (λe=>c e.symm)]
theorem Wi{α:Type}[Inhabited α]{B:Nat}(b:α->List Value)(k:Nat)(w:World)(m a c:Nat)(d:Array α)(f:Array Obj)(i:B<=a)(h:B<=w.heap.size):Below B w (sortWorldK b k w a c m d f):=by
 unfold sortWorldK;have e:(putRowK b k (Sort.ahead w m) a c d).heap.size=w.heap.size:=by unfold putRowK;rw[Go.Sort.size_putRow];rfl
 have g:Below B w (putRowK b k (Sort.ahead w m) a c d):=⟨rfl,rfl,rfl,Nat.le_of_eq e.symm,λj l=>heap_put b k w m a c d j (by omega)⟩;exact below_grow g (by rw[e];exact h) f
theorem zht{w:World}{T g n d:Nat}{J:List R}(h:w.ownsRow T 143 2 (.slice (some ⟨g,0,none⟩) n d) n (flat J)):HoldsK encR 2 w g 0 J.toArray:=by
 intro t ht;rw[size_flatK]at ht;have m:t<J.length*2:=by simpa using ht
 have c:=QB h (t/2) (by omega);rw[get_flatK _ _ _ _ ht];have e:J.toArray[t/2]! =at' J (t/2):=by simp[at',show t/2<J.length by omega]
 rw[e];rcases h.2 with⟨a,_⟩|⟨j,f,i,a,k,hg,l⟩;cases a;injection a with e1 _ _;injection e1 with e1;injection e1 with e1;subst e1;refine⟨?_,by simp[World.frozen?,hg]⟩;rcases(show t=t/2*2\/t=t/2*2+1 by omega)with q|q;have b:t%2=0:=by omega
 rw[b];show w.cell? ⟨g,0+t,none⟩=some (.int .i64 (at' J (t/2)).1);rw[<-c.1];congr 2;omega
 have b:t%2=1:=by omega
 rw[b];show w.cell? ⟨g,0+t,none⟩=some (.int .i64 (at' J (t/2)).2);rw[<-c.2];congr 2;omega
theorem zcq{w:World}{g:Nat}{d:Array R}(h:HoldsK encR 2 w g 0 d):Cells w g 0 d.toList:=by
 intro j k;have f:j<d.size:=by simpa using k
 have a:=(h.cell (i:=j) (c:=0) f (by omega)).1;have b:=(h.cell (i:=j) (c:=1) f (by omega)).1;have e:d[j]! =at' d.toList j:=by simp[at',f]
 rw[e]at a b;exact⟨a,b⟩
theorem YI:∀(l:List R),(∀i j,i<j->j<l.length->(at' l j).2<=(at' l i).2)->yV l
 |[],_=>trivial
 |r::f,h=>⟨λs d=>by
   obtain⟨j,c,e⟩:=List.getElem_of_mem d
   have:=h 0 (j+1) (by omega) (by simpa using c)
   simp[at',c]at this
   rw[e]at this
   exact this,YI f λi j a b=>by
   have:=h (i+1) (j+1) (by omega) (by simpa using b)
   simpa[at']using this⟩
theorem zrs(v:Value)(J:List R)(n B:Nat)(w:World)(hown:w.ownsRow B 143 2 v n (flat J))(L:J.length<=1000000)(V:B<=w.heap.size):
  Calls Tryz.prog 188 #[v,.func (.func 189) #[] #[]] w λe E=>e=.returned (.tuple #[])/\(∃s:List R,s.Perm J/\yV s/\Row E v s)/\Below B w E:=by
 have D:=Xo hown;rcases hown.2 with⟨rfl,I⟩|⟨g,r,H,rfl,z,K,M⟩;have h:=AnyF.slices_SortFunc_none Tryz.ls none 0 (.func (.func 189) #[] #[]) w;change Calls Tryz.prog 188 _ _ _ at h;have Q:J=[]:=List.eq_nil_of_length_eq_zero (by omega);subst Q;exact h.mono λe E ⟨k,f⟩=>⟨k,⟨[],.refl _,trivial,Row.nil _⟩,f ▸ Below.refl _ _⟩;have U:∀q w,(callFunc 189 q).run Tryz.prog w=.ok (.enter 189 q) w:=enters_of Tryz.func189 (by kernel_rfl) rfl;have t:=zht hown;have l:=(own_lt hown).2;have hcon:=AnyQ.slices_SortFunc Tryz.ls 2 Tryz.isAgg143 Tryz.sizeOf143 encR (λ_=>rfl) (λx v hv=>by simp[encR]at hv;rcases hv with rfl|rfl<;>rfl) ZG swoF 189 #[] g 0 r J.toArray w U (λ_ _ _ _ x y=>zrt x y _) t l (by simp;omega);change Calls Tryz.prog 188 _ _ _ at hcon
 have c:J.toArray.size=n:=by simpa using D
 rw[c]at hcon;refine hcon.mono λe E ⟨k,a,m,p,d,G,f⟩=>⟨k,⟨a.toList,?_,?_,?_⟩,?_⟩;have:=d.2.2;have b:a.size=n:=by rw[d.1];exact c
 have F:a.extract 0 n=a:=by rw[<-b];simp
 have P:J.toArray.extract 0 n=J.toArray:=by rw[<-c];simp
 rw[F,P]at this;exact this;refine YI _ λi j A C=>?_;have b:a.size=n:=by rw[d.1];exact c
 have u:j<a.size:=by simpa using C
 have:=G i j (Nat.zero_le _) A (by omega);rw[Xb]at this;simp[u,show i<a.size by omega]at this;simp[at',u,show i<a.size by omega];omega;have b:a.size=n:=by rw[d.1];exact c
 rw[f];have o:=holdsK_sortWorldK encR 2 w g 0 m J.toArray a p l t (by rw[b,c]);refine⟨some ⟨g,0,none⟩,r,by simp[b],by simp[b];omega,(λx=>by cases x),.inr ⟨g,0,rfl,?_,zcq o⟩⟩;exact Nat.lt_of_lt_of_le l (Wi (B:=0) encR 2 w m g 0 a p (by omega) (by omega)).size;rw [f];exact Wi encR 2 w m g 0 a p z V
def Part(s:List R)(k:Nat)(o:List R):Prop:=(k=0/\o=[])\/∃b a,o=b++[a]/\join s=b++xe a (s.drop k)
variable {s:List R}
theorem zmi(h:0<s.length):Part s 1 [at' s 0]:=by
 match s,h with
 |r::a,_=>exact .inr ⟨[],r,rfl,rfl⟩
variable {k:Nat}
theorem zmj{b:List R}{a:R}(h:join s=b++xe a (s.drop k))(c:k<s.length)(d:a.1<=(at' s k).2+1):Part s (k+1) (b++[(min a.1 (at' s k).1,a.2)]):=by
 refine .inr ⟨b,_,rfl,?_⟩;rw[h,drop_at c,xe,if_pos d]
theorem zml{b:List R}{a:R}(h:join s=b++xe a (s.drop k))(c:k<s.length)(d:¬a.1<=(at' s k).2+1):Part s (k+1) (b++[a]++[at' s k]):=by
 refine .inr ⟨b++[a],_,rfl,?_⟩;rw[h,drop_at c,xe,if_neg d,List.append_assoc];rfl
theorem zmh{o:List R}(h:Part s s.length o):o=join s:=by
 rcases h with⟨a,rfl⟩|⟨c,b,rfl,h⟩;rw [List.eq_nil_of_length_eq_zero a];rfl;rw [h,List.drop_length];rfl
theorem zqa{o:List R}(h:Part s k o):o.length<=s.length:=by
 rcases h with⟨_,rfl⟩|⟨d,b,rfl,h⟩;.simp
 have a:=join_length s;rw[h,List.length_append]at a;have:0<(xe b (s.drop k)).length:=by
  generalize s.drop k=l
  clear h a
  induction l generalizing b with
  |nil=>simp[xe]
  |cons r e c=>rw[xe];split;exact c _;simp
 simp only[List.length_append,List.length_cons,List.length_nil];omega
theorem zge(a:List R)(b:R)(x:Int):(flat (a++[b])).set (a.length*2) (.int .i64 x)=flat (a++[(x,b.2)]):=by
 rw[xL,xL,List.set_append,jT];simp[flat,encR]
theorem Ya(a:List R)(b:R):(flat (a++[b]))[a.length*2]? =some (.int .i64 b.1)/\(flat (a++[b]))[a.length*2+1]? =some (.int .i64 b.2):=by
 have h:=flat_get (a++[b]) a.length (by simp);have e:at' (a++[b]) a.length=b:=by simp[at']
 rw[e]at h;exact h
theorem zil(va vb:Value)(K y:List R)(w:World)(a5:Row w va K)(a6:Row w vb y)(hx:K.length<=1000)(hy:y.length<=1000)
  (gx:∀r,r∈K++y->0<=r.1/\r.1<=r.2/\r.2<=1073741823):
  Calls Tryz.prog 162 #[va,vb] w λe w'=>∃v J,e=.returned v/\w'.ownsRow w.heap.size 143 2 v J.length (flat J)/\jK J/\(∀n,Mem J n↔Mem K n\/Mem y n)/\J.length<=K.length+y.length/\Below w.heap.size w w':=by
 have HA:=zC a5;have HB:=zC a6;have I:=zC gx;clear gx;obtain⟨aa,ca,rfl,la,na,za⟩:=a5;obtain⟨ab,cb,rfl,lb,nb,zb⟩:=a6;clear za zb na nb;go_enter Tryz.func162,Tryz.ntmps162
 go_wp2_with fail;have E:=(Below.refl w.heap.size w).alloc (Nat.le_refl _) (.cells #[.slice aa K.length ca,.slice ab y.length cb] 88);refine(zdb w.heap.size (.slice aa K.length ca) (.slice ab y.length cb) K y _ (by simp) (by simp) (by simp) (HA.out.below E) (HB.out.below E) hx hy).mono ?_;rintro e w1 ⟨v1,rfl,hown1,a2⟩;have a4:=E.trans (a2.mono E.size);go_wp2_with fail;refine(zrs v1 (K++y) (K.length+y.length) w.heap.size w1 (jE hown1 (by simp)) (by simp;omega) a4.size).mono ?_
 rintro e t ⟨rfl,⟨s,H,hd,a7⟩,a3⟩;have W:=a4.trans a3;have U:Hid (s.Perm (K++y)/\yV s):=⟨H,hd⟩;have a8:s.length=K.length+y.length:=by rw[H.length_eq];simp
 have hG:Hid (∀j,j<s.length->0<=(at' s j).1/\(at' s j).1<=(at' s j).2/\(at' s j).2<=1073741823):=λj hj=>I.out _ (H.mem_iff.1 (at_mem hj));clear H hd;have HR:Hid (Row t v1 s):=a7;obtain⟨aS,cS,rfl,ls,ns,a9⟩:=a7;clear ns;have HZ:Hid (s=[]\/∃b Q,aS=some ⟨b,Q,none⟩/\b<t.heap.size/\Cells t b Q s):=a9;clear a9 hown1 a2 a3;have hlen:=zC a8;have ai:s.length<=2000:=by omega
 clear a8;generalize hL:s.length=P at*;have HL:Hid (s.length=P):=hL;clear hL;go_wp2_with fail;go_loopw [6,18] (λo i wr=>∃(k:Nat) (f:List R),k<=P/\i=.int .i64 k/\Hid (Part s k f)/\wr.ownsRow t.heap.size 143 2 o f.length (flat f)/\Below t.heap.size t wr) (λ_ i _=>P-(intOf i).toNat)
 case atStart=>exact⟨0,[],Nat.zero_le _,rfl,.inl ⟨rfl,rfl⟩,World.ownsRow_nil _ _ _ _,Below.refl _ _⟩
 case round=>
  obtain⟨k,f,hk,rfl,hP,hown,C⟩:=hrel;have hos:f.length<=2000:=by have:=zqa hP.out;have:=HL.out;omega
  by_cases ae:k<P
  .have g1:(k:Int)<(P:Int):=by omega
   have hkl:k<s.length:=by have:=HL.out;omega
   obtain⟨b,Q,rfl,hb,X⟩:∃b Q,aS=some ⟨b,Q,none⟩/\b<t.heap.size/\Cells t b Q s:=by
    rcases HZ.out with h|h;rw [h]at hkl;simp at hkl;exact h
   have c0:=(X.below hb C k hkl).1;have c1:=(X.below hb C k hkl).2;have bd:=hG.out k ae;clear X;have HK:=zC hkl;clear hkl;generalize hr:at' s k=r at c0 c1 bd;obtain⟨a,d⟩:=r;have HRr:Hid (at' s k=(a,d)):=hr;clear hr;simp only at c0 c1 bd;have ac:=C.size;have bel1:=(Below.refl wr.heap.size wr).alloc (Nat.le_refl _) (.cells #[.int .i64 a,.int .i64 d] 143);have own1:=hown.alloc (.cells #[.int .i64 a,.int .i64 d] 143)
   have hBr:=C.alloc ac (.cells #[.int .i64 a,.int .i64 d] 143);rcases hP.out with⟨h0,S⟩|⟨u,a1,S,hj⟩
   .subst h0;subst S;have hu:∃O c,u6=.slice O 0 c:=by
     rcases hown.2 with⟨e,_⟩|⟨g,a0,a1,e,_⟩;exact ⟨_,_,e⟩;exact ⟨_,_,e⟩
    obtain⟨O,c,rfl⟩:=hu;simp only[Nat.zero_mul,Nat.add_zero]at c0 c1;go_wp2_with fail;go_quiet (fail)
    have f0:((wr.alloc (.cells #[.int .i64 a,.int .i64 d] 143)).drewN nq).cell? ⟨wr.heap.size,0,none⟩=some (.int .i64 a):=by simp
    have f1:((wr.alloc (.cells #[.int .i64 a,.int .i64 d] 143)).drewN nq).cell? ⟨wr.heap.size,1,none⟩=some (.int .i64 d):=by simp
    have ownW:((wr.alloc (.cells #[.int .i64 a,.int .i64 d] 143)).drewN nq).ownsRow t.heap.size 143 2 (.slice O 0 c) 0 (flat []):=own1;have hBW:=below_drewN hBr nq;generalize(wr.alloc (.cells #[.int .i64 a,.int .i64 d] 143)).drewN nq=l at*;clear c0 c1 own1 hBr bel1 hown;go_wp2_with (at_builtin;refine ZW rfl (.tmp 47) (.tmp 49) rfl t.heap.size _ _ _ rfl (ownW.alloc _) _ [(a,d)] rfl (Q9 _ a d) (by simp only[List.length_append,List.length_cons,List.length_nil]at*;omega) (by simp;have:=hBW.size;omega) ?_;intro v3 w3 Z Y)
    have T:Below t.heap.size t w3:=(hBW.alloc hBW.size _).trans Y;exact⟨⟨1,[(a,d)],by omega,by go_num,(show Hid (Part s 1 [(a,d)])from(HRr.out ▸ zmi HK.out)),by simpa[flat]using Z,T⟩,by simp[intOf];omega⟩
   subst S;obtain⟨q,x⟩:=a1;have HJ:Hid (join s=u++xe (q,x) (s.drop k)):=hj;clear hj hP;obtain⟨g,a0,rfl,ad,G⟩:=hown.form (by simp);have hF:u.length+1<=2000:=by simp at hos;omega
   have cl0:=hown.cellAt (u.length*2) (by simp<;>omega);have cl1:=hown.cellAt (u.length*2+1) (by simp<;>omega);rw[(Ya u (q,x)).1]at cl0;rw[(Ya u (q,x)).2]at cl1;have aj:IntKind.i64.wrap (u.length:Int)=(u.length:Int):=by simp[IntKind.wrap,IntKind.bits,IntKind.signed];omega
   simp only[List.length_append,List.length_cons,List.length_nil]at hown own1 |-;generalize hm:u.length=m at*;have L:Hid (u.length=m):=hm;clear hm;have gm:(0:Int)<=(m:Int):=by omega
   have ah:(m:Int)<((m+1:Nat):Int):=by omega
   have HT:Hid (at' s k=(a,d)):=HRr;by_cases h4:q<=d+1
   .have N:Hid (Part s (k+1) (u++[(min q a,x)])):=by
     show _;have:=zmj HJ.out HK.out (by rw[HRr.out];exact h4);rw[HRr.out]at this;exact this
    go_wp2_with fail;have bel1:=(Below.refl wr.heap.size wr).alloc (Nat.le_refl _) (.cells #[.int .i64 a,.int .i64 d] 143);generalize F:wr.alloc (.cells #[.int .i64 a,.int .i64 d] 143)=l at*;have A:wr.heap.size<l.heap.size:=by rw[<-F];simp
    have V:∀n f,(grow (l.drewN n) f).cell? ⟨wr.heap.size,0,none⟩=some (.int .i64 a):=cell_grown A (by rw[<-F];simp);have B:∀n f,(grow (l.drewN n) f).cell? ⟨wr.heap.size,1,none⟩=some (.int .i64 d):=cell_grown A (by rw[<-F];simp);have e2:∀n f,(grow (l.drewN n) f).cell? ⟨g,m*2,none⟩=some (.int .i64 q):=cell_grown (by show g<_;omega) ((bel1.cell (by exact G)).trans cl0);have z:∀n f,(grow (l.drewN n) f).cell? ⟨g,m*2+1,none⟩=some (.int .i64 x):=cell_grown (by show g<_;omega) ((bel1.cell (by exact G)).trans cl1)
    clear F c0 c1 cl0 cl1 hown;have mx:=mixed;generalize D:m+1=n at*;have M:Hid (m+1=n):=D;clear D;go_quiet_grown (first|(go_at_call 180;refine Calls.grown_of (JR a d q x _ (by omega) bd.2.2)))
    have f0:=V nq osq;have f1:=B nq osq;have f2:=e2 nq osq;have f3:=z nq osq;have bg:=below_grow (below_drewN (Below.refl l.heap.size l) nq) (Nat.le_refl _) osq;have ownW:=own_below own1 bg;have hBW:Below t.heap.size t (grow (l.drewN nq) osq):=hBr.trans (bg.mono hBr.size);generalize grow (l.drewN nq) osq=W2 at*;clear V B e2 z own1 hBr bel1 bg;have fz:=ownW.frozenAt (m*2);go_wp2_with fail;go_region
    go_wp2_with fail;have af:=(ownW.stored (m*2) (.int .i64 (min q a))).1;have ag:((W2.setCell ⟨g,m*2,none⟩ (.int .i64 (min q a))).drew).ownsRow t.heap.size 143 2 (.slice (some ⟨g,0,none⟩) n a0) (u++[(min q a,x)]).length (flat (u++[(min q a,x)])):=by
     have B:(u++[(min q a,x)]).length=n:=by have:=L.out;have:=M.out;simp;omega
     have e2:=zge u (q,x) (min q a);rw[L.out]at e2;rw[B,<-e2];exact af
    exact⟨⟨k+1,u++[(min q a,x)],by omega,by go_num,N,ag,(hBW.setCell (p:=⟨g,m*2,none⟩) ad _).drew⟩,by simp[intOf];omega⟩
   have N:Hid (Part s (k+1) (u++[(q,x)]++[(a,d)])):=by
    show _;have:=zml HJ.out HK.out (by rw[HRr.out];exact h4);rw[HRr.out]at this;exact this
   go_wp2_with fail;have bel1:=(Below.refl wr.heap.size wr).alloc (Nat.le_refl _) (.cells #[.int .i64 a,.int .i64 d] 143);generalize F:wr.alloc (.cells #[.int .i64 a,.int .i64 d] 143)=l at*;have A:wr.heap.size<l.heap.size:=by rw[<-F];simp
   have V:∀n f,(grow (l.drewN n) f).cell? ⟨wr.heap.size,0,none⟩=some (.int .i64 a):=cell_grown A (by rw[<-F];simp);have B:∀n f,(grow (l.drewN n) f).cell? ⟨wr.heap.size,1,none⟩=some (.int .i64 d):=cell_grown A (by rw[<-F];simp);have e2:∀n f,(grow (l.drewN n) f).cell? ⟨g,m*2,none⟩=some (.int .i64 q):=cell_grown (by show g<_;omega) ((bel1.cell (by exact G)).trans cl0);have z:∀n f,(grow (l.drewN n) f).cell? ⟨g,m*2+1,none⟩=some (.int .i64 x):=cell_grown (by show g<_;omega) ((bel1.cell (by exact G)).trans cl1)
   clear F c0 c1 cl0 cl1 hown;have mx:=mixed;generalize D:m+1=n at*;have M:Hid (m+1=n):=D;clear D;go_quiet_grown (first|(go_at_call 180;refine Calls.grown_of (JR a d q x _ (by omega) bd.2.2)))
   have f0:=V nq osq;have f1:=B nq osq;have f2:=e2 nq osq;have f3:=z nq osq;have bg:=below_grow (below_drewN (Below.refl l.heap.size l) nq) (Nat.le_refl _) osq;have ownW:=own_below own1 bg;have hBW:Below t.heap.size t (grow (l.drewN nq) osq):=hBr.trans (bg.mono hBr.size);generalize grow (l.drewN nq) osq=W2 at*;clear V B e2 z own1 hBr bel1 bg;go_wp2_with (at_builtin;refine ZW rfl (.tmp 47) (.tmp 49) rfl t.heap.size _ _ _ rfl (ownW.alloc _) _ [(a,d)] rfl (Q9 _ a d) (by simp only[List.length_append,List.length_cons,List.length_nil]at*;omega) (by simp;have:=hBW.size;omega) ?_;intro v3 w3 Z Y)
   have T:Below t.heap.size t w3:=(hBW.alloc hBW.size _).trans Y;exact⟨⟨k+1,u++[(q,x)]++[(a,d)],by omega,by go_num,N,(by
    have e2:(u++[(q,x)]++[(a,d)]).length=n+ [(a,d)].length:=by have:=L.out;have:=M.out;simp;omega
    rw[e2,xL];exact Z),T⟩,by simp[intOf];omega⟩
  obtain rfl:k=P:=by omega
  have B:f=join s:=zmh (by rw[HL.out];exact hP.out);go_wp2_with fail;go_ret;refine⟨_,f,rfl,jE hown W.size,?_,?_,?_,?_⟩;rw [B];exact zik s (λr hr=>(I.out r (U.out.1.mem_iff.1 hr)).2.1) U.out.2;intro n;rw[B,zij s (λr hr=>(I.out r (U.out.1.mem_iff.1 hr)).2.1) U.out.2,zkc U.out.1,mem_append];have:=join_length s;rw[<-B]at this;have:=hlen.out;have:=HL.out;omega;exact W.trans (C.mono W.size)
theorem zhh{J:List R}(h:Good J):∀r,r∈J->0<=r.1/\r.1<=r.2/\r.2<=1073741823:=λr a=>⟨(h.2.1 r a).1,kG h.2.2 r a,(h.2.1 r a).2⟩
theorem WL(v:Value)(J:List R)(n:Int)(w:World)(h:Row w v J)(j:xC J=0)(p:qC n=true):
  Calls Tryz.prog 135 #[v,.int .i64 n] w λe E=>∃a,jK a/\(∀k,Mem a k↔Mem J k\/k=n)/\a.length<=J.length+1/\Below w.heap.size w E/\
   ((12<a.length/\e=.returned (.tuple #[.slice none 0 0,.bool false,zN 4]))\/(a.length<=12/\∃F,E.ownsRow w.heap.size 143 2 F a.length (flat a)/\e=.returned (.tuple #[F,.bool (!xD J n),.nilIface]))):=by
 have hc:=ZF v J w h;rw[j,XI]at hc;have m:Hid (Good J):=(x9 J).1 j;have HR:=zC h;have q:=(wC n).1 p;have L:J.length<=12:=m.out.1;obtain⟨H,c,rfl,M,z,C⟩:=h;clear C z j;go_enter Tryz.func135,Tryz.ntmps135
 go_wp2_with (first|(go_at_call 158;refine hc.mono ?_;rintro e S ⟨rfl,hb1⟩)|(go_at_call 157;refine(vO n _).mono ?_;rintro e T ⟨rfl,rfl⟩;rw[p]));have i:=hb1.alloc hb1.size (.cells #[.int .i64 n,.int .i64 n] 143);refine(zil _ _ J [(n,n)] _ (HR.out.below i) (Q9 _ n n) (by omega) (by simp) ?_).mono ?_;intro r hr;rcases List.mem_append.1 hr with hr|hr;exact zhh m.out r hr;simp at hr;subst hr;exact⟨q.1,Int.le_refl _,q.2⟩
 rintro e Q ⟨P,a,rfl,g,u,t,l,o⟩;have B:=vY g (by simp only[List.length_cons,List.length_nil]at l;omega);have HO3:Hid (Q.ownsRow w.heap.size 143 2 P a.length (flat a)):=jE g (by simp;have:=hb1.size;omega);clear g;have d:=i.trans (o.mono i.size);have HM:Hid (jK a/\(∀k,Mem a k↔Mem J k\/k=n)/\a.length<=J.length+1):=by
  refine⟨u,λk=>?_,by simpa using l⟩;rw[t k,K9];constructor;rintro (x|x);exact .inl x;exact .inr (by have:=x.1;have:=x.2;simp at*;omega);rintro (x|rfl);exact .inl x;exact .inr ⟨Int.le_refl _,Int.le_refl _⟩
 have N:a.length<=13:=by have:=HM.out.2.2;omega
 have G:Hid (Row Q P a):=B;clear u t l;obtain⟨I,K,rfl,O,A,D⟩:=B;clear D A;generalize y:a.length=f at*;have b:Hid (a.length=f):=y;clear y;by_cases V:12<f
 .have U:(12:Int)<(f:Int):=by omega
  go_wp2_with fail;go_ret3
  exact⟨a,HM.out.1,HM.out.2.1,b.out ▸ HM.out.2.2,d,.inl ⟨by rw[b.out];exact V,rfl⟩⟩
 have U:¬(12:Int)<(f:Int):=by omega
 go_wp2_with (go_at_call 159;refine(Yo _ J n _ (HR.out.below d)).mono ?_;rintro e W ⟨rfl,s⟩);go_ret3
 exact⟨a,HM.out.1,HM.out.2.1,b.out ▸ HM.out.2.2,d.trans (s.mono d.size),.inr ⟨by rw[b.out];omega,_,(by rw[b.out];exact own_below HO3.out s),rfl⟩⟩
theorem KQ(v:Value)(J:List R)(n:Int)(w:World)(h:Row w v J)(d:qC n=true)(b:xC J=0):
  Cl 133 #[v,.int .i64 n] w (.tuple #[.bool (xD J n),.nilIface]):=by
 have hc:=ZF v J w h;rw[b,XI]at hc;have HR:=zC h;obtain⟨j,c,rfl,k,g,i⟩:=h;clear i g b;go_enter Tryz.func133,Tryz.ntmps133
 go_wp2_with (first|(go_at_call 158;refine hc.mono ?_;rintro e l ⟨rfl,a⟩)|(go_at_call 157;refine(vO n _).mono ?_;rintro e m ⟨rfl,rfl⟩;rw[d]));refine(Yo _ J n _ (HR.out.below a)).mono ?_;rintro e p ⟨rfl,f⟩;go_wp2_with fail;go_ret2
 exact⟨rfl,a.trans (f.mono a.size)⟩
end Go.Proofs.YtdokgalidhmbbaaGreatDoor
