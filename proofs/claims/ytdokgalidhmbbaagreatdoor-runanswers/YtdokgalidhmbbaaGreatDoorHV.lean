/- What the law RunAnswers needs. -/
import Derived.Test.YtdokgalidhmbbaaGreatDoorHTK
import Derived.Test.YtdokgalidhmbbaaGreatDoorChecked
import Derived.WalkKit
import Derived.WalkSpells
import Derived.WalkLawsBesides
import Derived.LoopN
import Derived.Outline
import Derived.KernelRfl
import Derived.RangeFuncBox
import Derived.RangeFuncLeaves
import Derived.Shelf.Abstract
import Derived.OwnWalkIn
import Derived.TacticsInMore
import Derived.LoopNIn
import Derived.LoopIn
import Derived.RangeFuncNested
import Derived.Laws.BytesArg
import Derived.Deep.QuietTactic
import Derived.BigQuiet
import Derived.Laws.BitsAllLaws
import Derived.Lib.AppendStr
set_option linter.unusedVariables false
set_option linter.unusedSimpArgs false
set_option maxRecDepth 100000
set_option maxHeartbeats 8000000
namespace Go.Proofs.YtdokgalidhmbbaaGreatDoor.V
open Go.RowKit
structure Forms(w:World):Prop where
 c0:w.cell? ⟨3,0,none⟩=some (.int .i64 1)
 c1:w.cell? ⟨3,1,none⟩=some (.int .i64 64)
 c2:w.cell? ⟨3,2,none⟩=some (.int .i64 2)
 c3:w.cell? ⟨3,3,none⟩=some (.int .i64 16384)
 c4:w.cell? ⟨3,4,none⟩=some (.int .i64 4)
 c5:w.cell? ⟨3,5,none⟩=some (.int .i64 1073741824)
 pos:3<w.heap.size
theorem Forms.below{w E:World}(h:Forms w)(a:Below w.heap.size w E):Forms E:=
  ⟨(a.cell (p:=⟨3,0,none⟩) h.pos).trans h.c0,(a.cell (p:=⟨3,1,none⟩) h.pos).trans h.c1,(a.cell (p:=⟨3,2,none⟩) h.pos).trans h.c2,
   (a.cell (p:=⟨3,3,none⟩) h.pos).trans h.c3,(a.cell (p:=⟨3,4,none⟩) h.pos).trans h.c4,(a.cell (p:=⟨3,5,none⟩) h.pos).trans h.c5,Nat.lt_of_lt_of_le h.pos a.size⟩
theorem XV(w:World):(Instr.index 196 (.agg #[.int .i64 1,.int .i64 64,.int .i64 2,.int .i64 16384,.int .i64 4,.int .i64 1073741824]) (.int .i64 0)).run Tryz.prog w=.ok (.agg #[.int .i64 1,.int .i64 64]) w:=by kernel_rfl
theorem XW(w:World):(Instr.index 196 (.agg #[.int .i64 1,.int .i64 64,.int .i64 2,.int .i64 16384,.int .i64 4,.int .i64 1073741824]) (.int .i64 1)).run Tryz.prog w=.ok (.agg #[.int .i64 2,.int .i64 16384]) w:=by kernel_rfl
theorem XX(w:World):(Instr.index 196 (.agg #[.int .i64 1,.int .i64 64,.int .i64 2,.int .i64 16384,.int .i64 4,.int .i64 1073741824]) (.int .i64 2)).run Tryz.prog w=.ok (.agg #[.int .i64 4,.int .i64 1073741824]) w:=by kernel_rfl
theorem zby(n:Int)(w:World)(h:n<0):
  Cl 107 #[.int .i64 n] w (.tuple #[.int .i64 0,.iface 133 (.int .i64 1)]):=by
 go_enter Tryz.func107,Tryz.ntmps107
 go_wp2;go_ret2
 exact⟨rfl,Below.refl _ _⟩
theorem zbu(n:Int)(w:World)(a:Forms w)(i:0<=n)(j:n<64):
  Cl 107 #[.int .i64 n] w (.tuple #[.int .i64 0,.nilIface]):=by
 obtain⟨b,c,d,f,g,h,k⟩:=a;have l:=XV;have m:=XW;have p:=XX;go_enter Tryz.func107,Tryz.ntmps107
 go_wp2;refine wp_loop_rounds 4 ?_;rw[rounds_succ];go_wp2;go_ret2
 exact⟨rfl,((Below.refl _ _).alloc (Nat.le_refl _) _)⟩
theorem zbv(n:Int)(w:World)(a:Forms w)(i:64<=n)(j:n<16384):
  Cl 107 #[.int .i64 n] w (.tuple #[.int .i64 1,.nilIface]):=by
 obtain⟨b,c,d,f,g,h,k⟩:=a;have l:=XV;have m:=XW;have p:=XX;go_enter Tryz.func107,Tryz.ntmps107
 go_wp2;refine wp_loop_rounds 4 ?_;rw[rounds_succ];go_wp2;rw[rounds_succ];go_wp2;go_ret2
 exact⟨rfl,(((Below.refl _ _).alloc (Nat.le_refl _) _).alloc (by simp<;>omega) _)⟩
theorem zbw(n:Int)(w:World)(a:Forms w)(i:16384<=n)(j:n<1073741824):
  Cl 107 #[.int .i64 n] w (.tuple #[.int .i64 2,.nilIface]):=by
 obtain⟨b,c,d,f,g,h,k⟩:=a;have l:=XV;have m:=XW;have p:=XX;go_enter Tryz.func107,Tryz.ntmps107
 go_wp2;refine wp_loop_rounds 4 ?_;rw[rounds_succ];go_wp2;rw[rounds_succ];go_wp2;rw[rounds_succ];go_wp2;go_ret2
 exact⟨rfl,((((Below.refl _ _).alloc (Nat.le_refl _) _).alloc (by simp<;>omega) _).alloc (by simp<;>omega) _)⟩
theorem zbx(n:Int)(w:World)(a:Forms w)(i:1073741824<=n):
  Cl 107 #[.int .i64 n] w (.tuple #[.int .i64 0,.iface 133 (.int .i64 1)]):=by
 obtain⟨b,c,d,f,g,h,j⟩:=a;have k:=XV;have l:=XW;have m:=XX;go_enter Tryz.func107,Tryz.ntmps107
 go_wp2;refine wp_loop_rounds 4 ?_;rw[rounds_succ];go_wp2;rw[rounds_succ];go_wp2;rw[rounds_succ];go_wp2;rw[rounds_succ];go_wp2;go_ret2
 exact⟨rfl,((((Below.refl _ _).alloc (Nat.le_refl _) _).alloc (by simp<;>omega) _).alloc (by simp<;>omega) _)⟩
end Go.Proofs.YtdokgalidhmbbaaGreatDoor.V
namespace Go.Proofs.YtdokgalidhmbbaaGreatDoor.V
open Go.RowKit Go.Shelf
attribute [local go_sem] Oper.semAt_some
def xK(a k:Nat):List Nat:=(List.range k).map λt=>a-1-t
theorem zep(a k:Nat):xK a (k+1)=xK a k++[a-1-k]:=by simp[xK,List.range_succ]
theorem zeo(a k:Nat):(xK a k).length=k:=by simp[xK]
structure Row(len cap Bs b:Nat)(W:World):Prop where
 head:W.cell? ⟨Bs,0,none⟩=some (.slice (some ⟨b,0,none⟩) len cap)
 byte:∀j,j<len->∃v,W.cell? ⟨b,j,none⟩=some (.int .u8 v)
def KpRow(d c a b:Nat)(W e:World):Prop:=Row d c a b W->Row d c a b e
theorem zbf(F:Fence)(n:Nat)(u:F.fn 138)(U:F.round=none)(M:1<=n)(l f b a h:Nat)(K:a<=1000)(J m:List {p:Nat×Int // p.1<a}->World->Prop)
  (P:∀d x W,J d W->d.length<a->YieldAt F (n-1) Tryz.prog l #[.int .i64 (x.1.1:Int),.int .u8 x.1.2] W λe c=>
   (e=.returned (.bool true)/\J (d++[x]) c/\KpRow a h f b W c)\/(e=.returned (.bool false)/\m (d++[x]) c))
  (W:World) (q:Row a h f b W) (t:J [] W):
  CallsIn F n Tryz.prog 138 #[.func (.yield l) #[] #[],.pointer (some ⟨f,0,none⟩)] W λe c=>(∃v,e=.returned v)/\
   ((∃ys,ys.map (λx=>x.1.1)=xK a a/\J ys c)\/(∃d,True/\m d c)):=by
 refine callsIn_of_wp Tryz.func138 rfl u ?_ U;simp only[Tryz.ntmps138,List.size_toArray,List.length_cons,List.length_nil,Nat.reduceAdd,Nat.reduceSub,Array.replicate_succ,Array.replicate_zero,List.push_toArray,List.append_toArray,List.nil_append,List.cons_append];have G:=q.head;gi_wp2
 gi_loopw [3] (λi wr=>∃k:Nat,k<=a/\i=.int .i64 ((a:Int)-1-k)/\(∃ys,ys.map (λx=>x.1.1)=xK a k/\J ys wr)/\Row a h f b wr)
  (λi _=>(intOf i+1).toNat)
 case atStart=>exact⟨0,Nat.zero_le _,by simp,⟨[],rfl,t⟩,q⟩
 case round=>
  obtain⟨k,I,rfl,⟨ys,hys,hJs⟩,j⟩:=hrel;have O:ys.length=k:=by have:=congrArg List.length hys;simpa[zeo]using this
  by_cases L:k<a
  .obtain ⟨v,N⟩:=j.byte (a-1-k) (by omega);have H:=j.head;obtain⟨C,R,o,z,r,B⟩:=P ys ⟨(a-1-k,v),by show a-1-k<a;omega⟩ wr hJs (by omega);dsimp only at r;have s:((a-1-k:Nat):Int)=(a:Int)-1-k:=by omega
   have A:((a:Int)-1-k).toNat=a-1-k:=by omega
   rw[s]at r;have g:Hid (ys.map (λx=>x.1.1)=xK a k):=hys;clear hys;have D:(0:Int)<=(a:Int)-1-k:=by omega
   have E:(a:Int)-1-k<(a:Int):=by omega
   gi_wp2;refine B.mono ?_;rintro e V (⟨rfl,w,Q⟩|⟨rfl,y⟩)
   .gi_wp2
    go_roundw
    case rel=>exact⟨k+1,by omega,by simp;omega,⟨_,by rw[List.map_append,g.out,zep];rfl,w⟩,Q j⟩
    case measure=>simp[intOf];omega
   .gi_wp2
    refine bodyPost_ret (results_none rfl _ _ _) rfl ?_
    exact⟨⟨_,rfl⟩,.inr ⟨_,trivial,y⟩⟩
  obtain rfl:k=a:=by omega
  have g:Hid (ys.map (λx=>x.1.1)=xK k k):=hys;clear hys;gi_wp2;go_end0
  exact⟨⟨_,rfl⟩,.inl ⟨_,g.out,hJs⟩⟩
theorem WY(F:Fence)(n:Nat)(d:F.fn 108)(f:F.round=none)(a:Option Addr)(c b:Nat)(w:World):
  CallsIn F n Tryz.prog 108 #[.slice a c b] w λe E=>e=.returned (.func (.func 138) #[] #[.pointer (some ⟨w.heap.size,0,none⟩)])/\E=w.alloc (.cells #[.slice a c b] 37):=by
 refine callsIn_of_wp Tryz.func108 rfl d ?_ f;simp only[Tryz.ntmps108,List.size_toArray,List.length_cons,List.length_nil,Nat.reduceAdd,Nat.reduceSub,Array.replicate_succ,Array.replicate_zero,List.push_toArray,List.append_toArray,List.nil_append,List.cons_append];gi_wp2;go_ret;exact⟨rfl,rfl⟩
theorem WZ(F:Fence)(n:Nat)(k:F.fn 138)(y:F.round=none)(u:1<=n)(c b a d:Nat)(t:a<=1000)(w:World)(m:c<w.heap.size)(r:b<w.heap.size)(e:Row a d c b w):
  SeqStopsK F n Tryz.prog 138 #[.pointer (some ⟨c,0,none⟩)] (λx: {p:Nat×Int // p.1<a}=>#[Value.int .i64 (x.1.1:Int),Value.int .u8 x.1.2]) (KpRow a d c b)
   (λB=>B.map (λx=>x.1.1)=xK a a) (λ_=>True) a w:=λl J g W f _ _ q i=>
 zbf F n k y u l c b a d t J g q W
  ⟨(f.cell (p:=⟨c,0,none⟩) m).trans e.head,λj s=>by
   obtain⟨v,h⟩:=e.byte j s
   exact⟨v,(f.cell (p:=⟨b,j,none⟩) r).trans h⟩⟩ i
end Go.Proofs.YtdokgalidhmbbaaGreatDoor.V
namespace Go.Proofs.YtdokgalidhmbbaaGreatDoor.V
open Go.RowKit Go.Shelf
attribute [local go_sem] Oper.semAt_some
theorem mk1(w:World):(Instr.makeSlice 37 (.int .i64 1) (.int .i64 1)).run Tryz.prog w=.ok (.slice (some ⟨w.heap.size,0,none⟩) 1 1) (w.alloc (.cells #[.int .u8 0] 5)):=by kernel_rfl
theorem mk2(w:World):(Instr.makeSlice 37 (.int .i64 2) (.int .i64 2)).run Tryz.prog w=.ok (.slice (some ⟨w.heap.size,0,none⟩) 2 2) (w.alloc (.cells #[.int .u8 0,.int .u8 0] 5)):=by kernel_rfl
theorem mk4(w:World):(Instr.makeSlice 37 (.int .i64 4) (.int .i64 4)).run Tryz.prog w=.ok (.slice (some ⟨w.heap.size,0,none⟩) 4 4) (w.alloc (.cells #[.int .u8 0,.int .u8 0,.int .u8 0,.int .u8 0] 5)):=by kernel_rfl
def Byt(W:World)(B:Nat)(a:List Int):Prop:=W.heap[B]? =some (.cells (a.map (Value.int .u8)).toArray 5 (0,0))
variable {W:World}{B:Nat}{a:List Int}
theorem Byt.lt(h:Byt W B a):B<W.heap.size:=(Array.getElem?_eq_some_iff.1 h).1
theorem Byt.cell(h:Byt W B a)(j:Nat)(b:j<a.length):W.cell? ⟨B,j,none⟩=some (.int .u8 (a[j]?.getD 0)):=by
 simp[World.cell?,show W.heap[B]? =_ from h,b]
theorem Byt.frozen(h:Byt W B a)(j:Nat):W.frozen? ⟨B,j,none⟩=false:=by
 simp[World.frozen?,show W.heap[B]? =_ from h]
theorem Byt.kept{a:World}{row:Option Nat}{b:List Int}(h:Byt W B b)(c:W.grownBy a row)(d:some B≠row):Byt a B b:=(c.block B h.lt d).trans h
theorem Byt.alloc(h:Byt W B a)(o:Obj):Byt (W.alloc o) B a:=h.kept (World.grownBy_alloc W o none) (by simp)
theorem Byt.set(h:Byt W B a)(j:Nat)(v:Int):Byt (W.setCell ⟨B,j,none⟩ (.int .u8 v)) B (a.set j v):=by
 obtain⟨c,b⟩:=Array.getElem?_eq_some_iff.1 h;show(W.heap.modify B _)[B]? =_;rw[Array.getElem?_eq_getElem (by rw[Array.size_modify];exact c),Array.getElem_modify_self,b];simp[List.map_set]
theorem Byt.other{B':Nat}(h:Byt W B a)(b:B≠B')(u:Value):Byt (W.setCell ⟨B',0,none⟩ u) B a:=h.kept (grownBy_setCell' W B' u) (λe=>b (by cases e;rfl))
theorem Byt.own{β:Type}(B:Nat)(f:β->List Int):Own (λs W=>Byt W B (f s)):=λs X Y g a d e=>
 a.kept d (λb=>by obtain⟨o,ho,c⟩:=e B b.symm;rw[show X.heap[B]? =_ from a]at ho;cases ho;cases c)
theorem Boxed.otherRow{B' j:Nat}{t:TypeId}{v:Value}(h:Boxed W B t v)(a:B≠B')(u:Value):Boxed (W.setCell ⟨B',j,none⟩ u) B t v:=
 (Below.heap_setCell _ _ _ B a).trans h
def step(s:Int×List Int)(i:Nat):Int×List Int:=(s.1/256,s.2.set i (s.1%256))
def after(r:Int)(a:List Int)(b:List Nat):Int×List Int:=b.foldl step (r,a)
theorem WQ(r:Int)(a:List Int)(b:List Nat)(i:Nat):after r a (b++[i])=step (after r a b) i:=by simp[after]
theorem Qo(r:Int)(a:List Int)(b:List Nat):(after r a b).2.length=a.length:=by
 unfold after
 induction b generalizing r a with
 |nil=>rfl
 |cons i b c=>simpa[step]using c (r/256) (a.set i (r%256))
theorem WP(r:Int)(a:List Int)(b:List Nat)(c:0<=r)(d:r<4294967296):0<=(after r a b).1/\(after r a b).1<4294967296:=by
 unfold after
 induction b generalizing r a with
 |nil=>exact⟨c,d⟩
 |cons i b e=>exact e (r/256) (a.set i (r%256)) (by omega) (by omega)
theorem KpRow.put{w:World}{m g f b:Nat}(W:World)(l:Nat)(o a:Obj)(_:w.heap.size<=l)(h:W.heap[l]? =some o)(d:o.isCells=false)(_:o.isWalk=false):KpRow m g f b W (W.putObj l a):=λc=>
 ⟨cell_kept c.head (grownBy_putObj' W l a) (λr e=>by cases e;exact⟨o,h,d⟩),λj i=>by
  obtain⟨v,k⟩:=c.byte j i
  exact⟨v,cell_kept k (grownBy_putObj' W l a) (λr e=>by cases e;exact⟨o,h,d⟩)⟩⟩
def nums(n:Int):List Int:=if n<64 then[n]else if n<16384 then[64+n/256,n%256]else[128+n/16777216,n/65536%256,n/256%256,n%256]
theorem zk8(n:Int)(b:0<=n)(a:n<64):(after n [0] (xK 1 1)).2=nums n:=by
 simp[after,xK,step,List.range_succ,nums,a];omega
theorem Kn(n:Int)(c:64<=n)(a:n<16384):(after (n+16384) [0,0] (xK 2 2)).2=nums n:=by
 have b:¬n<64:=by omega
 simp[after,xK,step,List.range_succ,nums,a,b];omega
theorem zk9(n:Int)(c:16384<=n)(d:n<1073741824):(after (n+2147483648) [0,0,0,0] (xK 4 4)).2=nums n:=by
 have a:¬n<64:=by omega
 have b:¬n<16384:=by omega
 simp[after,xK,step,List.range_succ,nums,a,b];omega
theorem zn0(n:Int)(w:World)(h:n<0):
  Cl 81 #[.int .i64 n] w (.tuple #[.string {data:=#[]},.iface 133 (.int .i64 1)]):=by
 refine(callsIn_wide (n:=4)).1 ?_;have b:Fence.wide.fn 107:=trivial;refine callsIn_of_wp_marks Tryz.func81 rfl trivial ?_ rfl;simp only[Tryz.ntmps81,List.size_toArray,List.length_cons,List.length_nil,Nat.reduceAdd,Nat.reduceSub,Array.replicate_succ,Array.replicate_zero,List.push_toArray,List.append_toArray,List.nil_append,List.cons_append];gi_wp2_with (gi_at_call 107;refine(callsIn_wide.2 (zby _ _ h)).mono ?_;rintro e c ⟨rfl,a⟩)
 exact⟨_,results_tmp2 rfl _ _ _,rfl,a⟩
theorem znw(n:Int)(w:World)(a:Forms w)(h:1073741824<=n):
  Cl 81 #[.int .i64 n] w (.tuple #[.string {data:=#[]},.iface 133 (.int .i64 1)]):=by
 refine(callsIn_wide (n:=4)).1 ?_;have c:Fence.wide.fn 107:=trivial;refine callsIn_of_wp_marks Tryz.func81 rfl trivial ?_ rfl;simp only[Tryz.ntmps81,List.size_toArray,List.length_cons,List.length_nil,Nat.reduceAdd,Nat.reduceSub,Array.replicate_succ,Array.replicate_zero,List.push_toArray,List.append_toArray,List.nil_append,List.cons_append];gi_wp2_with (gi_at_call 107;refine(callsIn_wide.2 (zbx _ _ a h)).mono ?_;rintro e d ⟨rfl,b⟩)
 exact⟨_,results_tmp2 rfl _ _ _,rfl,b⟩
theorem VN(n:Int)(w:World)(L d:Nat)(F b:Int)(r:List Int)(H:Cl 107 #[.int .i64 n] w (.tuple #[.int .i64 (d:Int),.nilIface]))(ac:(d:Int)<3)(I:∀W,Below w.heap.size w W->W.cell? ⟨3,d*2,none⟩=some (.int .i64 (L:Int))/\W.cell? ⟨3,d*2+1,none⟩=some (.int .i64 F)/\3<W.heap.size)(a2:(d:Int)*F=b)(a8:0<=b)(a9:b<4294967296)(af:0<=n)(hr:n+b<4294967296)(t:L<=4)
  (hmk:∀W:World,(Instr.makeSlice 37 (.int .i64 (L:Int)) (.int .i64 (L:Int))).run Tryz.prog W=.ok (.slice (some ⟨W.heap.size,0,none⟩) L L) (W.alloc (.cells ((List.replicate L (0:Int)).map (Value.int .u8)).toArray 5))) (M:(after (n+b) (List.replicate L 0) (xK L L)).2=r):
  Cl 81 #[.int .i64 n] w (.tuple #[.string (strOfNums r),.nilIface]):=by
 refine(callsIn_wide (n:=4)).1 ?_;have a6:Fence.wide.fn 107:=trivial;have a7:Fence.wide.fn 108:=trivial;generalize G:((List.replicate L (0:Int)).map (Value.int .u8)).toArray=Z at hmk;have Y:Hid (((List.replicate L (0:Int)).map (Value.int .u8)).toArray=Z):=G;have X:=zC t;have B:Hid (((List.replicate L 0):List Int).length=L):=List.length_replicate ..;have ad:(0:Int)<=(d:Int):=by omega
 clear G t;refine callsIn_of_wp_marks Tryz.func81 rfl trivial ?_ rfl;simp only[Tryz.ntmps81,List.size_toArray,List.length_cons,List.length_nil,Nat.reduceAdd,Nat.reduceSub,Array.replicate_succ,Array.replicate_zero,List.push_toArray,List.append_toArray,List.nil_append,List.cons_append];gi_wp2_with (first|(gi_at_call 107;refine(callsIn_wide.2 H).mono ?_;rintro e a ⟨rfl,U⟩;obtain⟨c0,c1,hp⟩:=I a U)|(gi_at_call 108;refine(WY Fence.wide 3 trivial rfl _ _ _ _).mono ?_;rintro e E ⟨rfl,rfl⟩))
 clear hmk H I a2 c0 c1;obtain⟨m,q⟩:∃m,((((a.alloc (.cells #[.int .i64 (n+b)] 3)).alloc (.cells Z 5)).alloc (.cells #[(.slice (some ⟨a.heap.size+1,0,none⟩) L L)] 37)).alloc (.cells #[(.slice (some ⟨a.heap.size+1,0,none⟩) L L)] 37))=m:=⟨_,rfl⟩;have sz:m.heap.size=a.heap.size+4:=by rw[<-q];simp
 have bR:Boxed m a.heap.size 3 (.int .i64 (n+b)):=by rw[<-q];exact(((Boxed.new a 3 _).alloc _).alloc _).alloc _
 have A:Byt m (a.heap.size+1) (List.replicate L 0):=by
  rw[<-q];have h:Byt ((a.alloc (.cells #[.int .i64 (n+b)] 3)).alloc (.cells Z 5)) (a.heap.size+1) (List.replicate L 0):=by
   have:=World.alloc_heap_new (a.alloc (.cells #[.int .i64 (n+b)] 3)) (.cells Z 5);rw[World.size_alloc]at this;unfold Byt;rw[Y.out];exact this
  exact(h.alloc _).alloc _
 have bS:Boxed m (a.heap.size+1+1) 37 (.slice (some ⟨a.heap.size+1,0,none⟩) L L):=by
  rw[<-q];have h:=Boxed.new ((a.alloc (.cells #[.int .i64 (n+b)] 3)).alloc (.cells Z 5)) 37 (.slice (some ⟨a.heap.size+1,0,none⟩) L L);rw[World.size_alloc,World.size_alloc]at h;exact h.alloc _
 have C:Boxed m (a.heap.size+1+1+1) 37 (.slice (some ⟨a.heap.size+1,0,none⟩) L L):=by
  rw[<-q];have h:=Boxed.new (((a.alloc (.cells #[.int .i64 (n+b)] 3)).alloc (.cells Z 5)).alloc (.cells #[(.slice (some ⟨a.heap.size+1,0,none⟩) L L)] 37)) 37 (.slice (some ⟨a.heap.size+1,0,none⟩) L L);rw[World.size_alloc,World.size_alloc,World.size_alloc]at h;exact h
 have J:=U.size;have a1:Below w.heap.size w m:=by
  rw[<-q];exact((((U.alloc J _).alloc (by simp<;>omega) _).alloc (by simp<;>omega) _).alloc (by simp<;>omega) _)
 rw[q];clear q
 refine wpIn_rangeFunc_ownG rfl (by decide) (gf:=138) (lb:=#[.pointer (some ⟨a.heap.size+1+1+1,0,none⟩)]) rfl trivial (enters_of Tryz.func138 (by kernel_rfl) rfl)
  (WZ Fence.wide (4-1) trivial rfl (by decide) (a.heap.size+1+1+1) (a.heap.size+1) L L (by have:=X.out;omega) m (by omega) (by omega) ⟨C.cell,λj u=>⟨_,A.cell j (by rw[B.out];exact u)⟩⟩)
  (λh k hR=>k (h hR)) (KpRow.put (w:=m)) (Below.refl _ _) (λ_=>rfl)
  (λf W=>Boxed W a.heap.size 3 (.int .i64 (after (n+b) (List.replicate L 0) (f.map λx=>x.1.1)).1)/\Byt W (a.heap.size+1) (after (n+b) (List.replicate L 0) (f.map λx=>x.1.1)).2/\Boxed W (a.heap.size+1+1) 37 (.slice (some ⟨a.heap.size+1,0,none⟩) L L)/\Boxed W (a.heap.size+1+1+1) 37 (.slice (some ⟨a.heap.size+1,0,none⟩) L L)/\Below w.heap.size w W)
  (λ_ _ _=>False)
  (OwnFrom.and (Own.from (boxed_own _ _ _) _) (OwnFrom.and (Own.from (Byt.own _ _) _) (OwnFrom.and (Own.from (boxed_own _ _ _) _) (OwnFrom.and (Own.from (boxed_own _ _ _) _) (ownFrom_below (Nat.le_refl _) (by omega))))))
  (λ_ _ _ _ _ hs _ _=>hs)
  ⟨bR,A,bS,C,a1⟩
  (λx=>{tmps:=#[.int .i64 n,undef,.string {data:=#[]},.nilIface,.int .i64 (d:Int),.nilIface,.pointer (some ⟨a.heap.size,0,none⟩),.pointer (some ⟨a.heap.size+1+1,0,none⟩),.int .i64 (x.1.1:Int),.tuple #[.int .i64 (d:Int),.nilIface],.int .i64 n,.tuple #[.int .i64 (d:Int),.nilIface],.int .i64 (d:Int),.nilIface,.nilIface,.bool false,undef,.int .i64 n,.int .i64 (d:Int),.int .i64 (d:Int),.pointer (some ⟨3,d*2,none⟩),.pointer (some ⟨3,d*2+1,none⟩),.int .i64 F,.int .i64 b,.int .i64 (n+b),.int .i64 (d:Int),.pointer (some ⟨3,d*2,none⟩),.pointer (some ⟨3,d*2,none⟩),.int .i64 (L:Int),(.slice (some ⟨a.heap.size+1,0,none⟩) L L),(.slice (some ⟨a.heap.size+1,0,none⟩) L L),.func (.func 138) #[] #[.pointer (some ⟨a.heap.size+1+1+1,0,none⟩)],.int .i64 (x.1.1:Int),.int .u8 x.1.2,undef,undef,undef,undef,undef,undef,undef,undef,undef],defers:=[]}) ?assign ?body ?done ?stop
 case assign=>
  intro l x W K s;gi_wp2;exact s
 case body=>
  rintro l f ⟨⟨i,v⟩,z⟩ W ⟨kR,kB,y,R,Q⟩ _;have z:i<L:=z;have o:=(Qo (n+b) (List.replicate L 0) (f.map λx=>x.1.1)).trans B.out;have hbd:=WP (n+b) (List.replicate L 0) (f.map λx=>x.1.1) (by omega) (by omega);have T:=WQ (n+b) (List.replicate L 0) (f.map λx=>x.1.1) i;have kc:=kB.cell i (by rw[o];exact z);have kf:=kB.frozen i;have HS:Hid (after (n+b) (List.replicate L 0) (f.map (λx=>x.1.1)++[i])=step (after (n+b) (List.replicate L 0) (f.map λx=>x.1.1)) i):=T
  have HL:Hid ((after (n+b) (List.replicate L 0) (f.map λx=>x.1.1)).2.length=L):=o;clear T o;generalize after (n+b) (List.replicate L 0) (f.map λx=>x.1.1)=g at*;have ag:=kR.cell;have ah:=kR.frozen;have a5:=y.cell;obtain⟨aa,ab⟩:=hbd;have g1:((i:Nat):Int)<(L:Int):=by omega
  gi_wp2;have O:=(kB.set i (g.1%256)).other (B':=a.heap.size) (by omega) (.int .i64 (g.1/256));have a3:=(Boxed.otherRow (B':=a.heap.size+1) (j:=i) kR (by omega) (.int .u8 (g.1%256))).set (.int .i64 (g.1/256));have a4:=(Boxed.otherRow (B':=a.heap.size+1) (j:=i) y (by omega) (.int .u8 (g.1%256))).other (B':=a.heap.size) (by omega) (.int .i64 (g.1/256));have S:=(Boxed.otherRow (B':=a.heap.size+1) (j:=i) R (by omega) (.int .u8 (g.1%256))).other (B':=a.heap.size) (by omega) (.int .i64 (g.1/256))
  have a0:=(Q.setCell (p:=⟨a.heap.size+1,i,none⟩) (by show w.heap.size<=a.heap.size+1;omega) (.int .u8 (g.1%256))).setCell (p:=⟨a.heap.size,0,none⟩) J (.int .i64 (g.1/256));have t:(g.2.set i (g.1%256)).length=L:=by rw[List.length_set];exact HL.out
  refine⟨((KeepsOthers.setCell _ _ _).trans (KeepsOthers.setCell _ _ _)).from _,λ_=>⟨S.cell,λj u=>⟨_,O.cell j (by rw[t];exact u)⟩⟩,?_,?_,a4,S,a0⟩;rw [List.map_append];show Boxed _ _ _ (.int .i64 (after (n+b) (List.replicate L 0) (f.map (λx=>x.1.1)++[i])).1);rw[HS.out];exact a3;rw [List.map_append];show Byt _ _ (after (n+b) (List.replicate L 0) (f.map (λx=>x.1.1)++[i])).2;rw[HS.out];exact O
 case done=>
  rintro D ys W hD N ⟨kR,kB,y,R,Q⟩ s;rw[N,M]at kB;have V:r.length=L:=by rw[<-M,Qo,B.out]
  have ae:=run_convert_bytes_arg (P:=Tryz.prog) W 37 5 Tryz.underlying37 Tryz.underlying5 (a.heap.size+1) 0 L L r V (λj u=>by
   rw[Nat.zero_add,kB.cell j (by omega)];simp[List.getD]) 9 Tryz.underlying9
  have a5:=y.cell;have HL:=zC V;clear V N;gi_wp2;refine⟨by simp,.inl ⟨_,_,rfl,run_takeDeferred s,?_⟩⟩;exact⟨_,results_tmp2 rfl _ _ _,rfl,Q.trans (belowK_b (w:=w) (Nat.le_refl _) W D _ _ (by omega) s rfl rfl)⟩
 case stop=>
  rintro D c f W _ _ h _;exact h.elim
theorem znt(n:Int)(w:World)(a:Forms w)(c:0<=n)(d:n<64):
  Cl 81 #[.int .i64 n] w (.tuple #[.string (strOfNums (nums n)),.nilIface]):=
 VN n w 1 0 64 0 (nums n) (zbu n w a c d) (by decide) (λW b=>⟨(a.below b).c0,(a.below b).c1,(a.below b).pos⟩) rfl (by decide) (by decide) (by omega) (by omega) (by decide) mk1 (by rw[Int.add_zero];exact zk8 n c d)
theorem znu(n:Int)(w:World)(a:Forms w)(c:64<=n)(d:n<16384):
  Cl 81 #[.int .i64 n] w (.tuple #[.string (strOfNums (nums n)),.nilIface]):=
 VN n w 2 1 16384 16384 (nums n) (zbv n w a c d) (by decide) (λW b=>⟨(a.below b).c2,(a.below b).c3,(a.below b).pos⟩) rfl (by decide) (by decide) (by omega) (by omega) (by decide) mk2 (Kn n c d)
theorem znv(n:Int)(w:World)(a:Forms w)(c:16384<=n)(d:n<1073741824):
  Cl 81 #[.int .i64 n] w (.tuple #[.string (strOfNums (nums n)),.nilIface]):=
 VN n w 4 2 1073741824 2147483648 (nums n) (zbw n w a c d) (by decide) (λW b=>⟨(a.below b).c4,(a.below b).c5,(a.below b).pos⟩) rfl (by decide) (by decide) (by omega) (by omega) (by decide) mk4 (zk9 n c d)
end Go.Proofs.YtdokgalidhmbbaaGreatDoor.V
namespace Go.Proofs.YtdokgalidhmbbaaGreatDoor.V
open Go.RowKit
def zy(n:Int):Int:=if n<64 then 1 else if n<16384 then 2 else 4
theorem Xa(n:Int):1<=zy n/\zy n<=4:=by unfold zy;repeat' split<;>omega
def zH(n:Int):Bool:=decide (0<=n/\n<1073741824)
theorem zo{n:Int}(h:zH n=true):0<=n/\n<1073741824:=of_decide_eq_true h
theorem Zb{n:Int}(h:zH n=false):n<0\/1073741824<=n:=by
 have:¬(0<=n/\n<1073741824):=of_decide_eq_false h;omega
theorem Xq(n:Int)(w:World)(c:Forms w)(h:zH n=true):
  Cl 81 #[.int .i64 n] w (.tuple #[.string (strOfNums (nums n)),.nilIface]):=by
 obtain⟨d,f⟩:=zo h;by_cases a:n<64;exact znt n w c d a;by_cases b:n<16384;exact znu n w c (by omega) b;exact znv n w c (by omega) f
theorem zn1(n:Int)(w:World)(a:Forms w)(h:zH n=false):
  Cl 81 #[.int .i64 n] w (.tuple #[.string {data:=#[]},.iface 133 (.int .i64 1)]):=by
 rcases Zb h with h|h;exact zn0 n w h;exact znw n w a h
theorem zlp(A B:Nat)(c:A<1099511627776)(a:B<256):bits .or .i64 ((A*256:Nat):Int) (B:Int)=((A*256+B:Nat):Int):=by
 show IntKind.i64.wrap ((BitVec.ofInt 64 ((A*256:Nat):Int) |||BitVec.ofInt 64 (B:Int)).toNat:Int)=_;rw[BitVec.toNat_or,ofInt_u64 (A*256) (by omega),ofInt_u64 B (by omega)];have h:=Nat.two_pow_add_eq_or_of_lt (i:=8) (b:=B) a A;rw[show A*256=2 ^ 8*A by omega,<-h,IntKind.wrap_i64];omega
theorem wJ(a b:Int)(c:0<=a)(e:a<1099511627776)(d:0<=b)(f:b<256):bits .or .i64 (a*256) b=a*256+b:=by
 obtain⟨A,rfl⟩:=Int.eq_ofNat_of_zero_le c;obtain⟨B,rfl⟩:=Int.eq_ofNat_of_zero_le d;have:=zlp A B (by omega) (by omega);simpa using this
theorem Q4(b:Int)(a:0<=b)(c:b<256):bits .or .i64 0 b=b:=by
 have:=wJ 0 b (by omega) (by omega) a c;simpa using this
theorem zhd(s:ByteArray)(w:World)(a:Forms w)(b:s.size<=maxLen)(h:s.size=0):
  Cl 228 #[.string s] w (.tuple #[.int .i64 0,.int .i64 0,.iface 133 (.int .i64 2)]):=by
 unfold maxLen at b;obtain⟨c,d,f,g,i,j,k⟩:=a;go_enter Tryz.func228,Tryz.ntmps228
 go_wp2;go_ret3
 exact⟨rfl,Below.refl _ _⟩
theorem zhc(s:ByteArray)(w:World)(a:Forms w)(b:s.size<=maxLen)(h:0<s.size)(k:(192:Int)<=(s[0].toNat:Int)):
  Cl 228 #[.string s] w (.tuple #[.int .i64 0,.int .i64 0,.iface 133 (.int .i64 2)]):=by
 unfold maxLen at b;obtain⟨c,d,f,g,i,j,m⟩:=a;have p:((s.size:Int)==0)=false:=beq_eq_false_iff_ne.2 (by omega);have l:(s[0].toNat:Int)<256:=by have:=s[0].toNat_lt;omega
 have n:(s[0].toNat:Int)/64=3:=by omega
 go_enter Tryz.func228,Tryz.ntmps228
 go_wp2;go_ret3
 exact⟨rfl,Below.refl _ _⟩
theorem zhb(s:ByteArray)(w:World)(a:Forms w)(b:s.size<=maxLen)(h:0<s.size)(k:s.size<2)(l:(64:Int)<=(s[0].toNat:Int))(m:(s[0].toNat:Int)<128):
  Cl 228 #[.string s] w (.tuple #[.int .i64 0,.int .i64 0,.iface 133 (.int .i64 2)]):=by
 unfold maxLen at b;obtain⟨c,d,f,g,i,j,n⟩:=a;have r:((s.size:Int)==0)=false:=beq_eq_false_iff_ne.2 (by omega);have p:(s[0].toNat:Int)/64=1:=by omega
 have q:(s.size:Int)<2:=by omega
 go_enter Tryz.func228,Tryz.ntmps228
 go_wp2;go_ret3
 exact⟨rfl,Below.refl _ _⟩
theorem KH(s:ByteArray)(w:World)(a:Forms w)(b:s.size<=maxLen)(h:0<s.size)(k:s.size<4)(l:(128:Int)<=(s[0].toNat:Int))(m:(s[0].toNat:Int)<192):
  Cl 228 #[.string s] w (.tuple #[.int .i64 0,.int .i64 0,.iface 133 (.int .i64 2)]):=by
 unfold maxLen at b;obtain⟨c,d,f,g,i,j,n⟩:=a;have r:((s.size:Int)==0)=false:=beq_eq_false_iff_ne.2 (by omega);have p:(s[0].toNat:Int)/64=2:=by omega
 have q:(s.size:Int)<4:=by omega
 go_enter Tryz.func228,Tryz.ntmps228
 go_wp2;go_ret3
 exact⟨rfl,Below.refl _ _⟩
theorem zg6(s:ByteArray)(w:World)(a:Forms w)(b:s.size<=maxLen)(h:0<s.size)(k:(s[0].toNat:Int)<64):
  Cl 228 #[.string s] w (.tuple #[.int .i64 (s[0].toNat:Int),.int .i64 1,.nilIface]):=by
 unfold maxLen at b;obtain⟨c,d,f,g,i,j,m⟩:=a;have q:((s.size:Int)==0)=false:=beq_eq_false_iff_ne.2 (by omega);have n:(s[0].toNat:Int)/64=0:=by omega
 have l:=Q4 (s[0].toNat:Int) (by omega) (by omega);have p:¬(s.size:Int)<1:=by omega
 go_enter Tryz.func228,Tryz.ntmps228
 go_wp2;refine wp_loop_rounds 2 ?_;rw[rounds_succ];go_wp2;rw[rounds_succ];go_wp2;go_quiet (fail)
 go_wp2;go_ret3
 exact⟨rfl,below_drewN (Below.refl _ _) _⟩
theorem zg7(s:ByteArray)(w:World)(a:Forms w)(b:s.size<=maxLen)(h:1<s.size)(l:(64:Int)<=(s[0].toNat:Int))(m:(s[0].toNat:Int)<128)(n:(64:Int)<=((s[0].toNat:Int)*(256:Int)+(s[1].toNat:Int)-(16384:Int))):
  Cl 228 #[.string s] w (.tuple #[.int .i64 ((s[0].toNat:Int)*(256:Int)+(s[1].toNat:Int)-(16384:Int)),.int .i64 2,.nilIface]):=by
 unfold maxLen at b;obtain⟨d,f,g,i,j,k,r⟩:=a;have v:((s.size:Int)==0)=false:=beq_eq_false_iff_ne.2 (by omega);have t:(s[0].toNat:Int)/64=1:=by omega
 have c:(s[1].toNat:Int)<256:=by have:=s[1].toNat_lt;omega
 have p:=Q4 (s[0].toNat:Int) (by omega) (by omega);have q:=wJ (s[0].toNat:Int) (s[1].toNat:Int) (by omega) (by omega) (by omega) c;have u:¬(s.size:Int)<2:=by omega
 go_enter Tryz.func228,Tryz.ntmps228
 go_wp2;refine wp_loop_rounds 3 ?_;rw[rounds_succ];go_wp2;rw[rounds_succ];go_wp2;rw[rounds_succ];go_wp2;go_quiet (fail)
 go_wp2;go_ret3
 exact⟨rfl,below_drewN (Below.refl _ _) _⟩
theorem zg8(s:ByteArray)(w:World)(a:Forms w)(b:s.size<=maxLen)(h:1<s.size)(l:(64:Int)<=(s[0].toNat:Int))(m:(s[0].toNat:Int)<128)(n:((s[0].toNat:Int)*(256:Int)+(s[1].toNat:Int)-(16384:Int))<64):
  Cl 228 #[.string s] w (.tuple #[.int .i64 0,.int .i64 0,.iface 133 (.int .i64 2)]):=by
 unfold maxLen at b;obtain⟨d,f,g,i,j,k,r⟩:=a;have v:((s.size:Int)==0)=false:=beq_eq_false_iff_ne.2 (by omega);have t:(s[0].toNat:Int)/64=1:=by omega
 have c:(s[1].toNat:Int)<256:=by have:=s[1].toNat_lt;omega
 have p:=Q4 (s[0].toNat:Int) (by omega) (by omega);have q:=wJ (s[0].toNat:Int) (s[1].toNat:Int) (by omega) (by omega) (by omega) c;have u:¬(s.size:Int)<2:=by omega
 go_enter Tryz.func228,Tryz.ntmps228
 go_wp2;refine wp_loop_rounds 3 ?_;rw[rounds_succ];go_wp2;rw[rounds_succ];go_wp2;rw[rounds_succ];go_wp2;go_ret3
 exact⟨rfl,Below.refl _ _⟩
theorem zg9(s:ByteArray)(w:World)(a:Forms w)(b:s.size<=maxLen)(h:3<s.size)(n:(128:Int)<=(s[0].toNat:Int))(p:(s[0].toNat:Int)<192)(q:(16384:Int)<=((((s[0].toNat:Int)*(256:Int)+(s[1].toNat:Int))*(256:Int)+(s[2].toNat:Int))*(256:Int)+(s[3].toNat:Int)-(2147483648:Int))):
  Cl 228 #[.string s] w (.tuple #[.int .i64 ((((s[0].toNat:Int)*(256:Int)+(s[1].toNat:Int))*(256:Int)+(s[2].toNat:Int))*(256:Int)+(s[3].toNat:Int)-(2147483648:Int)),.int .i64 4,.nilIface]):=by
 unfold maxLen at b;obtain⟨g,i,j,k,l,m,x⟩:=a;have F:((s.size:Int)==0)=false:=beq_eq_false_iff_ne.2 (by omega);have y:(s[0].toNat:Int)/64=2:=by omega
 have c:(s[1].toNat:Int)<256:=by have:=s[1].toNat_lt;omega
 have d:(s[2].toNat:Int)<256:=by have:=s[2].toNat_lt;omega
 have f:(s[3].toNat:Int)<256:=by have:=s[3].toNat_lt;omega
 have r:=Q4 (s[0].toNat:Int) (by omega) (by omega);have t:=wJ (s[0].toNat:Int) (s[1].toNat:Int) (by omega) (by omega) (by omega) c;have u:=wJ ((s[0].toNat:Int)*(256:Int)+(s[1].toNat:Int)) (s[2].toNat:Int) (by omega) (by omega) (by omega) d;have v:=wJ (((s[0].toNat:Int)*(256:Int)+(s[1].toNat:Int))*(256:Int)+(s[2].toNat:Int)) (s[3].toNat:Int) (by omega) (by omega) (by omega) f;have B:¬(s.size:Int)<4:=by omega
 go_enter Tryz.func228,Tryz.ntmps228
 go_wp2;refine wp_loop_rounds 5 ?_;rw[rounds_succ];go_wp2;rw[rounds_succ];go_wp2;rw[rounds_succ];go_wp2;rw[rounds_succ];go_wp2;rw[rounds_succ];go_wp2;go_quiet (fail)
 go_wp2;go_ret3
 exact⟨rfl,below_drewN (Below.refl _ _) _⟩
theorem zha(s:ByteArray)(w:World)(a:Forms w)(b:s.size<=maxLen)(h:3<s.size)(n:(128:Int)<=(s[0].toNat:Int))(p:(s[0].toNat:Int)<192)(q:((((s[0].toNat:Int)*(256:Int)+(s[1].toNat:Int))*(256:Int)+(s[2].toNat:Int))*(256:Int)+(s[3].toNat:Int)-(2147483648:Int))<16384):
  Cl 228 #[.string s] w (.tuple #[.int .i64 0,.int .i64 0,.iface 133 (.int .i64 2)]):=by
 unfold maxLen at b;obtain⟨g,i,j,k,l,m,x⟩:=a;have F:((s.size:Int)==0)=false:=beq_eq_false_iff_ne.2 (by omega);have y:(s[0].toNat:Int)/64=2:=by omega
 have c:(s[1].toNat:Int)<256:=by have:=s[1].toNat_lt;omega
 have d:(s[2].toNat:Int)<256:=by have:=s[2].toNat_lt;omega
 have f:(s[3].toNat:Int)<256:=by have:=s[3].toNat_lt;omega
 have r:=Q4 (s[0].toNat:Int) (by omega) (by omega);have t:=wJ (s[0].toNat:Int) (s[1].toNat:Int) (by omega) (by omega) (by omega) c;have u:=wJ ((s[0].toNat:Int)*(256:Int)+(s[1].toNat:Int)) (s[2].toNat:Int) (by omega) (by omega) (by omega) d;have v:=wJ (((s[0].toNat:Int)*(256:Int)+(s[1].toNat:Int))*(256:Int)+(s[2].toNat:Int)) (s[3].toNat:Int) (by omega) (by omega) (by omega) f;have B:¬(s.size:Int)<4:=by omega
 go_enter Tryz.func228,Tryz.ntmps228
 go_wp2;refine wp_loop_rounds 5 ?_;rw[rounds_succ];go_wp2;rw[rounds_succ];go_wp2;rw[rounds_succ];go_wp2;rw[rounds_succ];go_wp2;rw[rounds_succ];go_wp2;go_ret3
 exact⟨rfl,Below.refl _ _⟩
end Go.Proofs.YtdokgalidhmbbaaGreatDoor.V
namespace Go.Proofs.YtdokgalidhmbbaaGreatDoor.V
open Go.RowKit Go.Lib
theorem own_below{w E:World}{B e b n:Nat}{v:Value}{K:List Value}(h:w.ownsRow B e b v n K)(i:Below w.heap.size w E):E.ownsRow B e b v n K:=by
 refine⟨h.1,?_⟩;rcases h.2 with j|⟨g,c,d,rfl,f,a,k⟩;exact .inl j;exact .inr ⟨g,c,d,rfl,f,(i.block g (Array.getElem?_eq_some_iff.1 a).1).trans a,k⟩
theorem ZT(s:ByteArray):strOfNums (s.data.toList.map λb=>(b.toNat:Int))=s:=by
 obtain⟨⟨l⟩⟩:=s;simp[strOfNums,Function.comp_def]
theorem Ky{w:World}{B n:Nat}{v:Value}{s:ByteArray}(h:w.ownsRow B 5 1 v n (strCells s)):(convert 37 9 v).run Tryz.prog w=.ok (.string s) w:=by
 have hl:s.size=n:=by have:=h.1;rw[strCells_length]at this;omega
 rcases h.2 with⟨rfl,f⟩|⟨g,a,d,rfl,_⟩;rw [run_convert_bytes_nil w 37 5 Tryz.underlying37 Tryz.underlying5 0 0 9 Tryz.underlying9];obtain⟨⟨l⟩⟩:=s;have:l=[]:=List.eq_nil_of_length_eq_zero (by have:l.length=n:=hl;omega);subst this;rfl;rw [run_convert_bytes_arg w 37 5 Tryz.underlying37 Tryz.underlying5 g 0 n a (s.data.toList.map λb=>(b.toNat:Int)) (by simpa using hl) (λi e=>by
  have hc:=h.cells (g:=g) rfl i (.int .u8 (((s.data.toList.map λb=>(b.toNat:Int))[i]?).getD 0)) (by
   have c:i<s.data.size:=by have:s.data.size=n:=hl;omega
   simp[strCells,Array.getElem?_eq_getElem c])
  rw[Addr.add_lit]at hc;rw[hc];simp[List.getD]) 9 Tryz.underlying9,ZT]
def kE(J:List Int):ByteArray:=strOfNums (J.flatMap nums)
theorem Zg(n:Int):(nums n).length<=4:=by
 unfold nums;by_cases a:n<64;simp [a];by_cases b:n<16384;simp [a,b];simp [a,b]
theorem zay(J:List Int):(kE J).size<=4*J.length:=by
 unfold kE
 rw[strOfNums_size]
 induction J with
 |nil=>simp
 |cons z J a=>
  have:=Zg z;simp only[List.flatMap_cons,List.length_append,List.length_cons];omega
theorem gK(a b:List Int):strCells (strOfNums (a++b))=strCells (strOfNums a)++strCells (strOfNums b):=by simp[strCells,strOfNums]
theorem JK(J:List Int)(k:Nat)(h:k<J.length):J.take (k+1)=J.take k++[J[k]?.getD 0]:=by
 rw[List.take_succ_eq_append_getElem h];simp[h]
theorem WR(J:List Int)(k:Nat)(h:k<J.length):strCells (kE (J.take (k+1)))=strCells (kE (J.take k))++strCells (strOfNums (nums (J[k]?.getD 0))):=by
 rw[JK J k h];unfold kE;rw[List.flatMap_append,gK];simp
theorem zax(J:List Int)(k:Nat)(h:k<J.length):(kE (J.take (k+1))).size=(kE (J.take k)).size+(strOfNums (nums (J[k]?.getD 0))).size:=by
 rw[<-strCells_length,WR J k h,List.length_append,strCells_length,strCells_length]
theorem info5:(Tryz.prog.info? 5).map (λi=>(i.zero,i.size,i.bytes))=some (some (.int .u8 0),1,1):=by kernel_rfl
theorem zaz(a:Option Addr)(b:Nat)(w:World):
  Cl 225 #[.slice a 0 b] w (.tuple #[.string {data:=#[]},.nilIface]):=by
 have c:=run_convert_bytes_nil (P:=Tryz.prog) w 37 5 Tryz.underlying37 Tryz.underlying5 0 0 9 Tryz.underlying9;go_enter Tryz.func225,Tryz.ntmps225
 go_wp2_with fail;refine wp_loop_rounds 1 ?_;rw[rounds_succ];go_wp2_with fail;go_ret2
 exact⟨rfl,Below.refl _ _⟩
theorem WS(b m a F:Nat)(J:List Int)(w:World)(Q:Forms w)(v:J.length=a)(N:a<=40)(U:b<w.heap.size)
  (u:∀j,j<a->w.cell? ⟨b,m+j,none⟩=some (.int .i64 (J[j]?.getD 0))):
  Calls Tryz.prog 225 #[.slice (some ⟨b,m,none⟩) a F] w λe E=>
   ((J.all zH=true/\e=.returned (.tuple #[.string (kE J),.nilIface]))\/(J.all zH=false/\e=.returned (.tuple #[.string {data:=#[]},.iface 133 (.int .i64 1)])))/\Below w.heap.size w E:=by
 obtain⟨L,C,H,I,K⟩:=info_parts info5;have O:¬(40:Int)<(a:Int):=by omega
 have HL:=zC v;clear v;go_enter Tryz.func225,Tryz.ntmps225
 go_wp2_with fail;go_loopw [4,15] (λt i wr=>∃k:Nat,k<=a/\i=.int .i64 k/\wr.ownsRow w.heap.size 5 1 t (kE (J.take k)).size (strCells (kE (J.take k)))/\(J.take k).all zH=true/\Below w.heap.size w wr) (λ_ i _=>a-(intOf i).toNat)
 case atStart=>exact⟨0,Nat.zero_le _,rfl,World.ownsRow_nil _ _ _ _,rfl,Below.refl _ _⟩
 case round=>
  obtain⟨k,S,rfl,n,hall,c⟩:=hrel;by_cases D:k<a
  .have R:wr.cell? ⟨b,m+k,none⟩=some (.int .i64 (J[k]?.getD 0)):=(c.cell (p:=⟨b,m+k,none⟩) U).trans (u k D)
   have r:=Q.below c
   have M:(k:Int)<(a:Int):=by omega
   have f:k<J.length:=by have:=HL.out;omega
   have hm:Hid (J[k]?.getD 0∈J):=by
    show J[k]?.getD 0∈J;simp[f]
   have T:(kE (J.take k)).size<=160:=by
    have:=zay (J.take k);rw[List.length_take]at this;omega
   have W:(strOfNums (nums (J[k]?.getD 0))).size<=4:=by rw[strOfNums_size];exact Zg _
   have HC:Hid (strCells (kE (J.take (k+1)))=strCells (kE (J.take k))++strCells (strOfNums (nums (J[k]?.getD 0)))):=WR J k f
   have HN:Hid ((kE (J.take (k+1))).size=(kE (J.take k)).size+(strOfNums (nums (J[k]?.getD 0))).size):=zax J k f
   have HA:Hid (zH (J[k]?.getD 0)=true->(J.take (k+1)).all zH=true):=by
    show zH (J[k]?.getD 0)=true->(J.take (k+1)).all zH=true;intro d;rw[JK J k f,List.all_append,hall];simp[d]
   clear f hall u
   generalize J[k]?.getD 0=z at*
   cases d:zH z with
   |false=>
    go_wp2_with fail
    refine(zn1 _ _ r d).mono ?_
    rintro e x ⟨rfl,l⟩
    have g:=c.trans (l.mono c.size)
    go_wp2_with fail
    go_ret2
    refine⟨.inr ⟨?_,rfl⟩,g⟩
    cases h:J.all zH with
    |false=>rfl
    |true=>have:=List.all_eq_true.1 h _ hm.out;rw[d]at this;cases this
   |true=>
    go_wp2_with fail;refine(Xq _ _ r d).mono ?_;rintro e x ⟨rfl,l⟩;have g:=c.trans (l.mono c.size);have hown1:=own_below n l;have B:Hid ((J.take (k+1)).all zH=true):=HA.out d;clear d HA;have s:=g.size;generalize strOfNums (nums z)=Y at*;generalize kE (J.take k)=X at*;go_wp2_with (at_builtin;refine wpList_append_own_string _ rfl _ _ 37 9 rfl w.heap.size 5 L Tryz.underlying37 Tryz.underlying9 C H I K _ _ _ rfl hown1 _ rfl (by unfold maxLen;omega) (by omega) s ?_;intro Z y G o _)
    have A:x.grownBy y u4.ownBlock:=o;have P:Below w.heap.size w y:=g.grown A s (λj e=>(hown1.lt j e).1);exact⟨⟨k+1,by omega,by go_num,by rw[HN.out,HC.out];exact G,B.out,P⟩,by simp[intOf];omega⟩
  obtain rfl:k=a:=by omega
  have V:=Ky n;have q:J.take k=J:=List.take_of_length_le (by have:=HL.out;omega);rw[q]at V hall;clear n q;go_wp2_with fail;go_ret2
  exact⟨.inl ⟨hall,rfl⟩,c⟩
def ints(s:ByteArray):List Int:=s.data.toList.map λb=>(b.toNat:Int)
def zL(l:List Int):Option (Int×Int):=
 match l with
 |[]=>none
 |a::r=>
  if a<64 then some (a,1)
  else if a<128 then
   match r with
   |[]=>none
   |b::_=>if a*256+b-16384<64 then none else some (a*256+b-16384,2)
  else if a<192 then
   match r with
   |b::c::d::_=>if((a*256+b)*256+c)*256+d-2147483648<16384 then none else some (((a*256+b)*256+c)*256+d-2147483648,4)
   |_=>none
  else none
def yH:Option (Int×Int)->Value
 |none=>.tuple #[.int .i64 0,.int .i64 0,.iface 133 (.int .i64 2)]
 |some x=>.tuple #[.int .i64 x.1,.int .i64 x.2,.nilIface]
theorem Z0(s:ByteArray)(w:World)(k:Forms w)(hl:s.size<=maxLen):
  Cl 228 #[.string s] w (yH (zL (ints s))):=by
 obtain⟨⟨l⟩⟩:=s
 match l,hl with
 |[],hl=>exact zhd _ w k hl rfl
 |a::r,hl=>
  have g:0<(⟨⟨a::r⟩⟩:ByteArray).size:=Nat.succ_pos _;by_cases i:(a.toNat:Int)<64;have e:zL (ints ⟨⟨a::r⟩⟩)=some ((a.toNat:Int),1):=by simp[ints,zL,i]
  rw[e];exact(zg6 ⟨⟨a::r⟩⟩ w k hl g i).mono λ_ _ ⟨f,d⟩=>⟨f,d⟩;by_cases h:(a.toNat:Int)<128;match r,hl,g with
  |[],hl,g=>
   have e:zL (ints ⟨⟨[a]⟩⟩)=none:=by simp[ints,zL,i,h]
   rw[e];exact(zhb ⟨⟨[a]⟩⟩ w k hl g (Nat.lt_succ_self 1) (show(64:Int)<=(a.toNat:Int) by omega) h).mono λ_ _ ⟨f,d⟩=>⟨f,d⟩
  |b::r,hl,g=>
   have p:1<(⟨⟨a::b::r⟩⟩:ByteArray).size:=Nat.succ_lt_succ (Nat.succ_pos _);by_cases c:(a.toNat:Int)*256+(b.toNat:Int)-16384<64;have e:zL (ints ⟨⟨a::b::r⟩⟩)=none:=by simp[ints,zL,i,h,c]
   rw[e];exact(zg8 ⟨⟨a::b::r⟩⟩ w k hl p (show(64:Int)<=(a.toNat:Int) by omega) h c).mono λ_ _ ⟨f,d⟩=>⟨f,d⟩;have e:zL (ints ⟨⟨a::b::r⟩⟩)=some ((a.toNat:Int)*256+(b.toNat:Int)-16384,2):=by simp[ints,zL,i,h,c]
   rw[e];exact(zg7 ⟨⟨a::b::r⟩⟩ w k hl p (show(64:Int)<=(a.toNat:Int) by omega) h (show(64:Int)<=(a.toNat:Int)*256+(b.toNat:Int)-16384 by omega)).mono λ_ _ ⟨f,d⟩=>⟨f,d⟩
  by_cases m:(a.toNat:Int)<192;match r,hl,g with
  |b::j::n::r,hl,g=>
   have q:3<(⟨⟨a::b::j::n::r⟩⟩:ByteArray).size:=Nat.succ_lt_succ (Nat.succ_lt_succ (Nat.succ_lt_succ (Nat.succ_pos _)));by_cases c:(((a.toNat:Int)*256+(b.toNat:Int))*256+(j.toNat:Int))*256+(n.toNat:Int)-2147483648<16384;have e:zL (ints ⟨⟨a::b::j::n::r⟩⟩)=none:=by simp[ints,zL,i,h,m,c]
   rw[e];exact(zha ⟨⟨a::b::j::n::r⟩⟩ w k hl q (show(128:Int)<=(a.toNat:Int) by omega) m c).mono λ_ _ ⟨f,d⟩=>⟨f,d⟩;have e:zL (ints ⟨⟨a::b::j::n::r⟩⟩)=some ((((a.toNat:Int)*256+(b.toNat:Int))*256+(j.toNat:Int))*256+(n.toNat:Int)-2147483648,4):=by simp[ints,zL,i,h,m,c]
   rw[e];exact(zg9 ⟨⟨a::b::j::n::r⟩⟩ w k hl q (show(128:Int)<=(a.toNat:Int) by omega) m (show(16384:Int)<=(((a.toNat:Int)*256+(b.toNat:Int))*256+(j.toNat:Int))*256+(n.toNat:Int)-2147483648 by omega)).mono λ_ _ ⟨f,d⟩=>⟨f,d⟩
  |[],hl,g=>
   have e:zL (ints ⟨⟨[a]⟩⟩)=none:=by simp[ints,zL,i,h]
   rw[e];exact(KH ⟨⟨[a]⟩⟩ w k hl g (show 1<4 by decide) (show(128:Int)<=(a.toNat:Int) by omega) m).mono λ_ _ ⟨f,d⟩=>⟨f,d⟩
  |[b],hl,g=>
   have e:zL (ints ⟨⟨[a,b]⟩⟩)=none:=by simp[ints,zL,i,h]
   rw[e];exact(KH ⟨⟨[a,b]⟩⟩ w k hl g (show 2<4 by decide) (show(128:Int)<=(a.toNat:Int) by omega) m).mono λ_ _ ⟨f,d⟩=>⟨f,d⟩
  |[b,j],hl,g=>
   have e:zL (ints ⟨⟨[a,b,j]⟩⟩)=none:=by simp[ints,zL,i,h]
   rw[e];exact(KH ⟨⟨[a,b,j]⟩⟩ w k hl g (show 3<4 by decide) (show(128:Int)<=(a.toNat:Int) by omega) m).mono λ_ _ ⟨f,d⟩=>⟨f,d⟩
  have e:zL (ints ⟨⟨a::r⟩⟩)=none:=by simp[ints,zL,i,h,m]
  rw[e];exact(zhc ⟨⟨a::r⟩⟩ w k hl g (show(192:Int)<=(a.toNat:Int) by omega)).mono λ_ _ ⟨f,d⟩=>⟨f,d⟩
theorem zlh(n:Int)(h:zH n=true):∀z∈nums n,0<=z/\z<256:=by
 obtain⟨c,d⟩:=zo h;unfold nums;by_cases a:n<64;simp [a];omega;by_cases b:n<16384;simp [a,b];omega;simp [a,b];omega
theorem zg4(n:Int)(h:zH n=true)(g:List Int):zL (nums n++g)=some (n,zy n):=by
 obtain⟨i,j⟩:=zo h;unfold nums zy;by_cases a:n<64;simp [a,zL];by_cases b:n<16384;have c:¬64+n/256<64:=by omega
 have d:64+n/256<128:=by omega
 have e:(64+n/256)*256+n%256-16384=n:=by omega
 simp[a,b,zL,c,d,e];have c:¬128+n/16777216<64:=by omega
 have d:¬128+n/16777216<128:=by omega
 have e:128+n/16777216<192:=by omega
 have f:(((128+n/16777216)*256+n/65536%256)*256+n/256%256)*256+n%256-2147483648=n:=by omega
 simp[a,b,zL,c,d,e,f]
theorem Z6(l:List Int)(h:∀z∈l,0<=z/\z<256):ints (strOfNums l)=l:=by
 unfold ints strOfNums;simp only[List.map_map];conv=>rhs;rw[<-List.map_id l]
 apply List.map_congr_left;intro z a;have:=h z a;simp;omega
theorem wB(s t:ByteArray):ints (s++t)=ints s++ints t:=by
 simp[ints]
theorem wY(n:Int)(w:World):Calls Tryz.prog 66 #[.int .i64 n] w λe E=>e=.returned (.bool (zH n))/\w=E:=by
 cases h:zH n with
 |true=>
  obtain⟨a,c⟩:=zo h;have d:n<=1073741823:=by omega
  go_enter Tryz.func66,Tryz.ntmps66
  go_wp2;go_ret;exact⟨rfl,rfl⟩
 |false=>
  rcases Zb h with a|a
  .go_enter Tryz.func66,Tryz.ntmps66
   go_wp2;go_ret;exact⟨rfl,rfl⟩
  have c:¬n<=1073741823:=by omega
  have f:0<=n:=by omega
  go_enter Tryz.func66,Tryz.ntmps66
  go_wp2;go_ret;exact⟨congrArg (λb=>Ending.returned (.bool b)) (by simp<;>omega),rfl⟩
theorem wH(n:Int)(w:World):Calls Tryz.prog 44 #[.int .i64 n] w λe E=>e=.returned (.int .i64 (zy n))/\w=E:=by
 by_cases a:n<64
 .have e:zy n=1:=by simp[zy,a]
  rw[e];go_enter Tryz.func44,Tryz.ntmps44
  go_wp2;go_ret;exact⟨rfl,rfl⟩
 by_cases b:n<16384
 .have e:zy n=2:=by simp[zy,a,b]
  rw[e];go_enter Tryz.func44,Tryz.ntmps44
  go_wp2;go_ret;exact⟨rfl,rfl⟩
 have e:zy n=4:=by simp[zy,a,b]
 rw[e];go_enter Tryz.func44,Tryz.ntmps44
 go_wp2;go_ret;exact⟨rfl,rfl⟩
theorem vv(K:List Int)(w:World)(a:Array Value)(b:a=(K.map (Value.int .u8)).toArray):
  (convert 37 9 (.slice (some ⟨w.heap.size,0,none⟩) K.length K.length)).run Tryz.prog (w.alloc (.cells a 5))=.ok (.string (strOfNums K)) (w.alloc (.cells a 5)):=by
 subst b;refine run_convert_bytes_arg (w.alloc (.cells (K.map (Value.int .u8)).toArray 5)) 37 5 Tryz.underlying37 Tryz.underlying5 w.heap.size 0 K.length K.length K rfl (λi c=>?_) 9 Tryz.underlying9;have h:Byt (w.alloc (.cells (K.map (Value.int .u8)).toArray 5)) w.heap.size K:=World.alloc_heap_new w _;rw[Nat.zero_add,h.cell i c];simp[List.getD]
theorem ZC(n:Int)(w:World)(h:zH n=true):Cl 28 #[.int .i64 n] w (.string (strOfNums (nums n))):=by
 obtain⟨g,i⟩:=zo h;by_cases a:n<64
 .have e:nums n=[n]:=by simp[nums,a]
  have c:zy n=1:=by simp[zy,a]
  have d:=vv [n] w #[.int .u8 n] rfl;rw[e];simp only[List.length_cons,List.length_nil,Nat.reduceAdd]at d;go_enter Tryz.func28,Tryz.ntmps28
  go_wp2_with fail;refine(wH n _).mono ?_;rintro e f ⟨rfl,rfl⟩;rw[c];clear c;go_wp2_with fail;go_ret;exact⟨rfl,(Below.refl _ _).alloc (Nat.le_refl _) _⟩
 by_cases b:n<16384
 .have e:nums n=[64+n/256,n%256]:=by simp[nums,a,b]
  have c:zy n=2:=by simp[zy,a,b]
  have d:=vv [64+n/256,n%256] w #[.int .u8 (64+n/256),.int .u8 (n%256)] rfl;rw[e];simp only[List.length_cons,List.length_nil,Nat.reduceAdd]at d;go_enter Tryz.func28,Tryz.ntmps28
  go_wp2_with fail;refine(wH n _).mono ?_;rintro e f ⟨rfl,rfl⟩;rw[c];clear c;go_wp2_with fail;go_ret;exact⟨rfl,(Below.refl _ _).alloc (Nat.le_refl _) _⟩
 have e:nums n=[128+n/16777216,n/65536%256,n/256%256,n%256]:=by simp[nums,a,b]
 have c:zy n=4:=by simp[zy,a,b]
 have d:=vv [128+n/16777216,n/65536%256,n/256%256,n%256] w #[.int .u8 (128+n/16777216),.int .u8 (n/65536%256),.int .u8 (n/256%256),.int .u8 (n%256)] rfl;rw[e];simp only[List.length_cons,List.length_nil,Nat.reduceAdd]at d;go_enter Tryz.func28,Tryz.ntmps28
 go_wp2_with fail;refine(wH n _).mono ?_;rintro e f ⟨rfl,rfl⟩;rw[c];clear c;go_wp2_with fail;go_ret;exact⟨rfl,(Below.refl _ _).alloc (Nat.le_refl _) _⟩
def vV:Option (Int×Int)->Value
 |none=>.tuple #[.int .i64 0,.int .i64 0,.bool false]
 |some x=>.tuple #[.int .i64 x.1,.int .i64 x.2,.bool true]
theorem zpk(s:ByteArray)(w:World)(a:s.size<=maxLen)(h:0<s.size)(c:(192:Int)<=(s[0].toNat:Int)):
  Cl 116 #[.string s] w (.tuple #[.int .i64 0,.int .i64 0,.bool false]):=by
 unfold maxLen at a;have f:(s.toList== [])=false:=by
  rw[ByteArray.toList_eq]
  obtain⟨⟨l⟩⟩:=s
  cases l with
  |nil=>exact absurd h (by decide)
  |cons b r=>rfl
 have d:s.toList.isEmpty=false:=by
  rw[ByteArray.toList_eq]
  obtain⟨⟨l⟩⟩:=s
  cases l with
  |nil=>exact absurd h (by decide)
  |cons b r=>rfl
 go_enter Tryz.func116,Tryz.ntmps116
 go_wp2_with fail;go_ret3
 exact⟨rfl,Below.refl _ _⟩
theorem zpj(s:ByteArray)(w:World)(a:s.size<=maxLen)(h:0<s.size)(c:s.size<2)(d:(64:Int)<=(s[0].toNat:Int))(f:(s[0].toNat:Int)<128):
  Cl 116 #[.string s] w (.tuple #[.int .i64 0,.int .i64 0,.bool false]):=by
 unfold maxLen at a;have i:(s.toList== [])=false:=by
  rw[ByteArray.toList_eq]
  obtain⟨⟨l⟩⟩:=s
  cases l with
  |nil=>exact absurd h (by decide)
  |cons b r=>rfl
 have g:s.toList.isEmpty=false:=by
  rw[ByteArray.toList_eq]
  obtain⟨⟨l⟩⟩:=s
  cases l with
  |nil=>exact absurd h (by decide)
  |cons b r=>rfl
 have j:(s.size:Int)<2:=by omega
 go_enter Tryz.func116,Tryz.ntmps116
 go_wp2_with fail;go_ret3
 exact⟨rfl,Below.refl _ _⟩
theorem V4(s:ByteArray)(w:World)(a:s.size<=maxLen)(h:0<s.size)(c:s.size<4)(d:(128:Int)<=(s[0].toNat:Int))(f:(s[0].toNat:Int)<192):
  Cl 116 #[.string s] w (.tuple #[.int .i64 0,.int .i64 0,.bool false]):=by
 unfold maxLen at a;have i:(s.toList== [])=false:=by
  rw[ByteArray.toList_eq]
  obtain⟨⟨l⟩⟩:=s
  cases l with
  |nil=>exact absurd h (by decide)
  |cons b r=>rfl
 have g:s.toList.isEmpty=false:=by
  rw[ByteArray.toList_eq]
  obtain⟨⟨l⟩⟩:=s
  cases l with
  |nil=>exact absurd h (by decide)
  |cons b r=>rfl
 have j:(s.size:Int)<4:=by omega
 go_enter Tryz.func116,Tryz.ntmps116
 go_wp2_with fail;go_ret3
 exact⟨rfl,Below.refl _ _⟩
theorem zpe(s:ByteArray)(w:World)(c:s.size<=maxLen)(h:0<s.size)(d:(s[0].toNat:Int)<64):
  Cl 116 #[.string s] w (.tuple #[.int .i64 ((s[0].toNat:Int)%(64:Int)),.int .i64 1,.bool true]):=by
 unfold maxLen at c;have i:(s.toList== [])=false:=by
  rw[ByteArray.toList_eq]
  obtain⟨⟨l⟩⟩:=s
  cases l with
  |nil=>exact absurd h (by decide)
  |cons b r=>rfl
 have g:s.toList.isEmpty=false:=by
  rw[ByteArray.toList_eq]
  obtain⟨⟨l⟩⟩:=s
  cases l with
  |nil=>exact absurd h (by decide)
  |cons b r=>rfl
 have j:¬(s.size:Int)<1:=by omega
 go_enter Tryz.func116,Tryz.ntmps116
 go_wp2_with fail;refine wp_loop_rounds 1 ?_;rw[rounds_succ];go_wp2_with fail;refine(wH _ _).mono ?_;rintro e k ⟨rfl,rfl⟩;have f:(zy ((s[0].toNat:Int)%(64:Int)) !=1)=false:=by
  have a:(s[0].toNat:Int)%(64:Int)<64:=by omega
  simp[zy,a]
 go_wp2_with fail;go_ret3
 exact⟨rfl,Below.refl _ _⟩
theorem zpf(s:ByteArray)(w:World)(c:s.size<=maxLen)(d:1<s.size)(f:(64:Int)<=(s[0].toNat:Int))(g:(s[0].toNat:Int)<128)(j:(64:Int)<=((256:Int)*((s[0].toNat:Int)%(64:Int))+(s[1].toNat:Int))):
  Cl 116 #[.string s] w (.tuple #[.int .i64 ((256:Int)*((s[0].toNat:Int)%(64:Int))+(s[1].toNat:Int)),.int .i64 2,.bool true]):=by
 unfold maxLen at c;have h:0<s.size:=by omega
 have m:(s.toList== [])=false:=by
  rw[ByteArray.toList_eq]
  obtain⟨⟨l⟩⟩:=s
  cases l with
  |nil=>exact absurd h (by decide)
  |cons b r=>rfl
 have k:s.toList.isEmpty=false:=by
  rw[ByteArray.toList_eq]
  obtain⟨⟨l⟩⟩:=s
  cases l with
  |nil=>exact absurd h (by decide)
  |cons b r=>rfl
 have p:(s[1].toNat:Int)<256:=by have:=s[1].toNat_lt;omega
 have n:¬(s.size:Int)<2:=by omega
 go_enter Tryz.func116,Tryz.ntmps116
 go_wp2_with fail;refine wp_loop_rounds 2 ?_;rw[rounds_succ];go_wp2_with fail;rw[rounds_succ];go_wp2_with fail;refine(wH _ _).mono ?_;rintro e q ⟨rfl,rfl⟩;have i:(zy ((256:Int)*((s[0].toNat:Int)%(64:Int))+(s[1].toNat:Int)) !=2)=false:=by
  have a:¬((256:Int)*((s[0].toNat:Int)%(64:Int))+(s[1].toNat:Int))<64:=by omega
  have b:((256:Int)*((s[0].toNat:Int)%(64:Int))+(s[1].toNat:Int))<16384:=by omega
  simp[zy,a,b]
 go_wp2_with fail;go_ret3
 exact⟨rfl,Below.refl _ _⟩
theorem zpg(s:ByteArray)(w:World)(a:s.size<=maxLen)(d:1<s.size)(f:(64:Int)<=(s[0].toNat:Int))(g:(s[0].toNat:Int)<128)(c:((256:Int)*((s[0].toNat:Int)%(64:Int))+(s[1].toNat:Int))<64):
  Cl 116 #[.string s] w (.tuple #[.int .i64 0,.int .i64 0,.bool false]):=by
 unfold maxLen at a;have h:0<s.size:=by omega
 have k:(s.toList== [])=false:=by
  rw[ByteArray.toList_eq]
  obtain⟨⟨l⟩⟩:=s
  cases l with
  |nil=>exact absurd h (by decide)
  |cons b r=>rfl
 have j:s.toList.isEmpty=false:=by
  rw[ByteArray.toList_eq]
  obtain⟨⟨l⟩⟩:=s
  cases l with
  |nil=>exact absurd h (by decide)
  |cons b r=>rfl
 have n:(s[1].toNat:Int)<256:=by have:=s[1].toNat_lt;omega
 have m:¬(s.size:Int)<2:=by omega
 go_enter Tryz.func116,Tryz.ntmps116
 go_wp2_with fail;refine wp_loop_rounds 2 ?_;rw[rounds_succ];go_wp2_with fail;rw[rounds_succ];go_wp2_with fail;refine(wH _ _).mono ?_;rintro e p ⟨rfl,rfl⟩;have i:(zy ((256:Int)*((s[0].toNat:Int)%(64:Int))+(s[1].toNat:Int)) !=2)=true:=by simp[zy,c]
 go_wp2_with fail;go_ret3
 exact⟨rfl,Below.refl _ _⟩
theorem zph(s:ByteArray)(w:World)(d:s.size<=maxLen)(g:3<s.size)(i:(128:Int)<=(s[0].toNat:Int))(j:(s[0].toNat:Int)<192)(f:(16384:Int)<=((256:Int)*((256:Int)*((256:Int)*((s[0].toNat:Int)%(64:Int))+(s[1].toNat:Int))+(s[2].toNat:Int))+(s[3].toNat:Int))):
  Cl 116 #[.string s] w (.tuple #[.int .i64 ((256:Int)*((256:Int)*((256:Int)*((s[0].toNat:Int)%(64:Int))+(s[1].toNat:Int))+(s[2].toNat:Int))+(s[3].toNat:Int)),.int .i64 4,.bool true]):=by
 unfold maxLen at d;have h:0<s.size:=by omega
 have n:(s.toList== [])=false:=by
  rw[ByteArray.toList_eq]
  obtain⟨⟨l⟩⟩:=s
  cases l with
  |nil=>exact absurd h (by decide)
  |cons b r=>rfl
 have m:s.toList.isEmpty=false:=by
  rw[ByteArray.toList_eq]
  obtain⟨⟨l⟩⟩:=s
  cases l with
  |nil=>exact absurd h (by decide)
  |cons b r=>rfl
 have q:(s[1].toNat:Int)<256:=by have:=s[1].toNat_lt;omega
 have t:(s[2].toNat:Int)<256:=by have:=s[2].toNat_lt;omega
 have u:(s[3].toNat:Int)<256:=by have:=s[3].toNat_lt;omega
 have p:¬(s.size:Int)<4:=by omega
 have c:Hid ((zy ((256:Int)*((256:Int)*((256:Int)*((s[0].toNat:Int)%(64:Int))+(s[1].toNat:Int))+(s[2].toNat:Int))+(s[3].toNat:Int)) !=4)=false):=by
  show(zy ((256:Int)*((256:Int)*((256:Int)*((s[0].toNat:Int)%(64:Int))+(s[1].toNat:Int))+(s[2].toNat:Int))+(s[3].toNat:Int)) !=4)=false;have a:¬((256:Int)*((256:Int)*((256:Int)*((s[0].toNat:Int)%(64:Int))+(s[1].toNat:Int))+(s[2].toNat:Int))+(s[3].toNat:Int))<64:=by omega
  have b:¬((256:Int)*((256:Int)*((256:Int)*((s[0].toNat:Int)%(64:Int))+(s[1].toNat:Int))+(s[2].toNat:Int))+(s[3].toNat:Int))<16384:=by omega
  simp[zy,a,b]
 clear f;go_enter Tryz.func116,Tryz.ntmps116
 go_wp2_with fail;refine wp_loop_rounds 4 ?_;rw[rounds_succ];go_wp2_with fail;rw[rounds_succ];go_wp2_with fail;rw[rounds_succ];go_wp2_with fail;rw[rounds_succ];go_wp2_with fail;refine(wH _ _).mono ?_;rintro e v ⟨rfl,rfl⟩;have k:(zy ((256:Int)*((256:Int)*((256:Int)*((s[0].toNat:Int)%(64:Int))+(s[1].toNat:Int))+(s[2].toNat:Int))+(s[3].toNat:Int)) !=4)=false:=c.out;go_wp2_with fail;go_ret3
 exact⟨rfl,Below.refl _ _⟩
theorem zpi(s:ByteArray)(w:World)(f:s.size<=maxLen)(g:3<s.size)(i:(128:Int)<=(s[0].toNat:Int))(j:(s[0].toNat:Int)<192)(c:((256:Int)*((256:Int)*((256:Int)*((s[0].toNat:Int)%(64:Int))+(s[1].toNat:Int))+(s[2].toNat:Int))+(s[3].toNat:Int))<16384):
  Cl 116 #[.string s] w (.tuple #[.int .i64 0,.int .i64 0,.bool false]):=by
 unfold maxLen at f;have h:0<s.size:=by omega
 have n:(s.toList== [])=false:=by
  rw[ByteArray.toList_eq]
  obtain⟨⟨l⟩⟩:=s
  cases l with
  |nil=>exact absurd h (by decide)
  |cons b r=>rfl
 have m:s.toList.isEmpty=false:=by
  rw[ByteArray.toList_eq]
  obtain⟨⟨l⟩⟩:=s
  cases l with
  |nil=>exact absurd h (by decide)
  |cons b r=>rfl
 have q:(s[1].toNat:Int)<256:=by have:=s[1].toNat_lt;omega
 have t:(s[2].toNat:Int)<256:=by have:=s[2].toNat_lt;omega
 have u:(s[3].toNat:Int)<256:=by have:=s[3].toNat_lt;omega
 have p:¬(s.size:Int)<4:=by omega
 have d:Hid ((zy ((256:Int)*((256:Int)*((256:Int)*((s[0].toNat:Int)%(64:Int))+(s[1].toNat:Int))+(s[2].toNat:Int))+(s[3].toNat:Int)) !=4)=true):=by
  show(zy ((256:Int)*((256:Int)*((256:Int)*((s[0].toNat:Int)%(64:Int))+(s[1].toNat:Int))+(s[2].toNat:Int))+(s[3].toNat:Int)) !=4)=true;by_cases a:((256:Int)*((256:Int)*((256:Int)*((s[0].toNat:Int)%(64:Int))+(s[1].toNat:Int))+(s[2].toNat:Int))+(s[3].toNat:Int))<64;simp [zy,a];simp [zy,a,c]
 clear c;go_enter Tryz.func116,Tryz.ntmps116
 go_wp2_with fail;refine wp_loop_rounds 4 ?_;rw[rounds_succ];go_wp2_with fail;rw[rounds_succ];go_wp2_with fail;rw[rounds_succ];go_wp2_with fail;rw[rounds_succ];go_wp2_with fail;refine(wH _ _).mono ?_;rintro e v ⟨rfl,rfl⟩;have k:(zy ((256:Int)*((256:Int)*((256:Int)*((s[0].toNat:Int)%(64:Int))+(s[1].toNat:Int))+(s[2].toNat:Int))+(s[3].toNat:Int)) !=4)=true:=d.out;go_wp2_with fail;go_ret3
 exact⟨rfl,Below.refl _ _⟩
theorem zpm(s:ByteArray)(w:World)(h:s={data:=#[]}):
  Cl 116 #[.string s] w (.tuple #[.int .i64 0,.int .i64 0,.bool false]):=by
 subst h;go_enter Tryz.func116,Tryz.ntmps116
 go_wp2_with fail;go_ret3
 exact⟨rfl,Below.refl _ _⟩
theorem V3{a b:Int}{k:Int}{t:Bool}(h:a=b):Ending.returned (.tuple #[.int .i64 a,.int .i64 k,.bool t])=.returned (.tuple #[.int .i64 b,.int .i64 k,.bool t]):=by rw[h]
theorem ZP(s:ByteArray)(w:World)(hl:s.size<=maxLen):
  Cl 116 #[.string s] w (vV (zL (ints s))):=by
 obtain⟨⟨l⟩⟩:=s
 match l,hl with
 |[],hl=>exact zpm _ w rfl
 |a::r,hl=>
  have h:0<(⟨⟨a::r⟩⟩:ByteArray).size:=Nat.succ_pos _;by_cases j:(a.toNat:Int)<64;have e:zL (ints ⟨⟨a::r⟩⟩)=some ((a.toNat:Int),1):=by simp[ints,zL,j]
  rw[e];exact(zpe ⟨⟨a::r⟩⟩ w hl h j).mono λ_ _ ⟨f,d⟩=>⟨f.trans (V3 (show(a.toNat:Int)%(64:Int)=(a.toNat:Int) by omega)),d⟩;by_cases i:(a.toNat:Int)<128;match r,hl,h with
  |[],hl,h=>
   have e:zL (ints ⟨⟨[a]⟩⟩)=none:=by simp[ints,zL,j,i]
   rw[e];exact(zpj ⟨⟨[a]⟩⟩ w hl h (Nat.lt_succ_self 1) (show(64:Int)<=(a.toNat:Int) by omega) i).mono λ_ _ ⟨f,d⟩=>⟨f,d⟩
  |b::r,hl,h=>
   have n:1<(⟨⟨a::b::r⟩⟩:ByteArray).size:=Nat.succ_lt_succ (Nat.succ_pos _);by_cases c:(a.toNat:Int)*256+(b.toNat:Int)-16384<64;have e:zL (ints ⟨⟨a::b::r⟩⟩)=none:=by simp[ints,zL,j,i,c]
   rw[e];exact(zpg ⟨⟨a::b::r⟩⟩ w hl n (show(64:Int)<=(a.toNat:Int) by omega) i (show(256:Int)*((a.toNat:Int)%(64:Int))+(b.toNat:Int)<64 by omega)).mono λ_ _ ⟨f,d⟩=>⟨f,d⟩;have e:zL (ints ⟨⟨a::b::r⟩⟩)=some ((a.toNat:Int)*256+(b.toNat:Int)-16384,2):=by simp[ints,zL,j,i,c]
   rw[e];exact(zpf ⟨⟨a::b::r⟩⟩ w hl n (show(64:Int)<=(a.toNat:Int) by omega) i (show(64:Int)<=(256:Int)*((a.toNat:Int)%(64:Int))+(b.toNat:Int) by omega)).mono λ_ _ ⟨f,d⟩=>⟨f.trans (V3 (show(256:Int)*((a.toNat:Int)%(64:Int))+(b.toNat:Int)=(a.toNat:Int)*256+(b.toNat:Int)-16384 by omega)),d⟩
  by_cases m:(a.toNat:Int)<192;match r,hl,h with
  |b::g::k::r,hl,h=>
   have p:3<(⟨⟨a::b::g::k::r⟩⟩:ByteArray).size:=Nat.succ_lt_succ (Nat.succ_lt_succ (Nat.succ_lt_succ (Nat.succ_pos _)));by_cases c:(((a.toNat:Int)*256+(b.toNat:Int))*256+(g.toNat:Int))*256+(k.toNat:Int)-2147483648<16384;have e:zL (ints ⟨⟨a::b::g::k::r⟩⟩)=none:=by simp[ints,zL,j,i,m,c]
   rw[e];exact(zpi ⟨⟨a::b::g::k::r⟩⟩ w hl p (show(128:Int)<=(a.toNat:Int) by omega) m (show(256:Int)*((256:Int)*((256:Int)*((a.toNat:Int)%(64:Int))+(b.toNat:Int))+(g.toNat:Int))+(k.toNat:Int)<16384 by omega)).mono λ_ _ ⟨f,d⟩=>⟨f,d⟩;have e:zL (ints ⟨⟨a::b::g::k::r⟩⟩)=some ((((a.toNat:Int)*256+(b.toNat:Int))*256+(g.toNat:Int))*256+(k.toNat:Int)-2147483648,4):=by simp[ints,zL,j,i,m,c]
   rw[e];exact(zph ⟨⟨a::b::g::k::r⟩⟩ w hl p (show(128:Int)<=(a.toNat:Int) by omega) m (show(16384:Int)<=(256:Int)*((256:Int)*((256:Int)*((a.toNat:Int)%(64:Int))+(b.toNat:Int))+(g.toNat:Int))+(k.toNat:Int) by omega)).mono λ_ _ ⟨f,d⟩=>⟨f.trans (V3 (show(256:Int)*((256:Int)*((256:Int)*((a.toNat:Int)%(64:Int))+(b.toNat:Int))+(g.toNat:Int))+(k.toNat:Int)=(((a.toNat:Int)*256+(b.toNat:Int))*256+(g.toNat:Int))*256+(k.toNat:Int)-2147483648 by omega)),d⟩
  |[],hl,h=>
   have e:zL (ints ⟨⟨[a]⟩⟩)=none:=by simp[ints,zL,j,i]
   rw[e];exact(V4 ⟨⟨[a]⟩⟩ w hl h (show 1<4 by decide) (show(128:Int)<=(a.toNat:Int) by omega) m).mono λ_ _ ⟨f,d⟩=>⟨f,d⟩
  |[b],hl,h=>
   have e:zL (ints ⟨⟨[a,b]⟩⟩)=none:=by simp[ints,zL,j,i]
   rw[e];exact(V4 ⟨⟨[a,b]⟩⟩ w hl h (show 2<4 by decide) (show(128:Int)<=(a.toNat:Int) by omega) m).mono λ_ _ ⟨f,d⟩=>⟨f,d⟩
  |[b,g],hl,h=>
   have e:zL (ints ⟨⟨[a,b,g]⟩⟩)=none:=by simp[ints,zL,j,i]
   rw[e];exact(V4 ⟨⟨[a,b,g]⟩⟩ w hl h (show 3<4 by decide) (show(128:Int)<=(a.toNat:Int) by omega) m).mono λ_ _ ⟨f,d⟩=>⟨f,d⟩
  have e:zL (ints ⟨⟨a::r⟩⟩)=none:=by simp[ints,zL,j,i,m]
  rw[e];exact(zpk ⟨⟨a::r⟩⟩ w hl h (show(192:Int)<=(a.toNat:Int) by omega)).mono λ_ _ ⟨f,d⟩=>⟨f,d⟩
end Go.Proofs.YtdokgalidhmbbaaGreatDoor.V
