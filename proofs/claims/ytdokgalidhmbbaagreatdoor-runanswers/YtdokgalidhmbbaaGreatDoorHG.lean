/- What the law RunAnswers needs. -/
import Derived.Test.YtdokgalidhmbbaaGreatDoorHEA
import Derived.Deep.AppendLies
import Derived.Great.Walk
set_option linter.unusedVariables false
set_option linter.unusedSimpArgs false
set_option maxRecDepth 100000
set_option maxHeartbeats 8000000
namespace Go.Proofs.YtdokgalidhmbbaaGreatDoor
open Go.RowKit Go.Lib Go.Sort
variable {m a b:Nat}
theorem zit{G:List Ld}{x:Ld}(c:x.a=a)(d:x.b=b):jC (G++[x]) m a b=G++[⟨x.lo,m,a,b⟩]:=by
 unfold jC;rw[List.getLast?_concat];simp only[c,d,and_self,if_true,List.dropLast_concat]
theorem zir{G:List Ld}{x:Ld}(h:¬(x.a=a/\x.b=b)):jC (G++[x]) m a b=(G++[x])++[⟨m,m,a,b⟩]:=by
 unfold jC;rw[List.getLast?_concat];simp only[h,if_false]
def xE(a b:Nat)(i:Nat):Bool:=decide (a<=i/\i<b)
theorem X7(d c a b:Nat):jb ⟨d,c,a,b⟩=.int .i64 d:: .int .i64 c::zJ (xE a b):=rfl
theorem Yn{c d:Nat}(g:a<b\/(a=0/\b=0))(f:c<d\/(c=0/\d=0))(n:b<=60)(p:d<=60):((List.range 60).all λi=>xE a b i==xE c d i)=decide (a=c/\b=d):=by
 by_cases h:a=c/\b=d;rw [decide_eq_true h,List.all_eq_true];obtain⟨rfl,rfl⟩:=h;intro i _;simp;rw [decide_eq_false h,List.all_eq_false];have m:∃i,i<60/\xE a b i≠xE c d i:=by
  rcases g with g|⟨rfl,rfl⟩;rcases f with f|⟨rfl,rfl⟩;by_cases e:a=c;subst e;by_cases j:b<d;exact ⟨b,by omega,by unfold xE;rw[decide_eq_false (by omega),decide_eq_true (by omega)];decide⟩;exact ⟨d,by omega,by unfold xE;rw[decide_eq_true (by omega),decide_eq_false (by omega)];decide⟩;by_cases j:a<c;exact ⟨a,by omega,by unfold xE;rw[decide_eq_true (by omega),decide_eq_false (by omega)];decide⟩;exact ⟨c,by omega,by unfold xE;rw[decide_eq_false (by omega),decide_eq_true (by omega)];decide⟩
  exact ⟨a,by omega,by unfold xE;rw[decide_eq_true (by omega),decide_eq_false (by omega)];decide⟩;rcases f with f|⟨rfl,rfl⟩;exact ⟨c,by omega,by unfold xE;rw[decide_eq_false (by omega),decide_eq_true (by omega)];decide⟩;exact absurd ⟨rfl,rfl⟩ h
 obtain⟨i,k,l⟩:=m;exact⟨i,by simpa using k,by simpa using l⟩
theorem iX{c:Array Oper}{S:World->Prop}{b:Oper}{a:Act}{L:Array Value}{m:Int}{f:Nat->Bool}(g:Region.wanted b (yielded c a.tmps)=true)(x y:Operand)(e:b.op=.build 241 #[(0,x),(1,y)])(h:a.eval x=.agg #[.int .i64 m,.int .i64 m])(i:a.eval y=.agg (zJ f).toArray)
  (d:∀W:World,(Instr.build 241 #[(0,.agg #[.int .i64 m,.int .i64 m]),(1,.agg (zJ f).toArray)]).run Tryz.prog W=.ok (.agg L) W):YieldsIf Tryz.prog c S b (.agg L) a:=
 .inl ⟨g,λw _=>by
  unfold execOp
  simp only[e,List.map_toArray,List.map_cons,List.map_nil,h,i,Sem.run_bind,d,Result.andThen_ok,Sem.run_pure]⟩
theorem JH{b:Array Oper}{o:Oper}{a:Act}{w:World}{K:Act->World->Prop}{Q:Exit->Act->World->Prop}{E:Prop}{L:Array Value}(d:o.guard=none)(x:Operand)(e:o.op=.buildSlice 98 1 #[(0,x)])(g:a.eval x=.agg L)
  (c:∀W:World,(Instr.buildSlice 98 1 #[(0,.agg L)]).run Tryz.prog W=.ok (.slice (some ⟨W.heap.size,0,none⟩) 1 1) (W.alloc (.cells L 241))) (h:K (a.put o.dst (.slice (some ⟨w.heap.size,0,none⟩) 1 1)) (w.alloc (.cells L 241))):
  if Region.wanted o (yielded b a.tmps)=true then Oper.wp Tryz.prog o a w K Q else E:=by
 have f:Region.wanted o (yielded b a.tmps)=true:=by simp[Region.wanted,d]
 rw[if_pos f];unfold Oper.wp execOp;simp only[e,List.map_toArray,List.map_cons,List.map_nil,g,Sem.run_bind,c,Result.andThen_ok,Sem.run_pure];exact h
structure KeepPost(w w':World)(B eb:Nat)(vl vc:Value)(e:En)(vl':Value)(ls:List Ld):Prop where
 cl:∀i,i<251->w'.cell? ⟨eb,i,none⟩=some (zM e vl' vc i)
 fz:∀i,w'.frozen? ⟨eb,i,none⟩=false
 ld:w'.ownsRow B 241 62 vl' ls.length (qf ls)
 cm:w'.ownsRow B 143 2 vc e.cm.length (flat e.cm)
 ap:vl'.ownBlock≠some eb
 off:Off (qz eb vl vc) w w'
 own:∀k,vl'.ownBlock=some k->vl.ownBlock=some k\/w.heap.size<=k
theorem zft{e:En}{vl a A:Value}{i:Nat}(h:i≠124):zM e a A i=zM e vl A i:=by
 unfold zM;simp only[h,if_false]
theorem aK{w:World}{B n:Nat}{u v:Value}{K d:List Value}(h:w.ownsRow B 241 62 u n K)(c:w.ownsRow a 143 2 v m d):∀k,v.ownBlock=some k->u.ownBlock≠some k:=by
 intro k hk hu;rcases h.2 with⟨rfl,_⟩|⟨g,e,i,rfl,_,hg,_⟩;cases hu;rcases c.2 with⟨rfl,_⟩|⟨b,f,j,rfl,_,hg',_⟩;cases hk;obtain rfl:g=k:=by simpa[Value.ownBlock]using hu
 obtain rfl:b=g:=by simpa[Value.ownBlock]using hk
 rw[hg]at hg';cases hg'
theorem KS:(Tryz.prog.info? 241).map (λi=>(i.zero,i.size,i.bytes))=some (some (.agg (jb ⟨0,0,0,0⟩).toArray),62,80):=by kernel_rfl
theorem Wj(m:Int)(f:Nat->Bool)(W:World):(Instr.build 241 #[(0,.agg #[.int .i64 m,.int .i64 m]),(1,.agg (zJ f).toArray)]).run Tryz.prog W=.ok (.agg (.int .i64 m:: .int .i64 m::zJ f).toArray) W:=by kernel_rfl
theorem Wl(m:Int)(f:Nat->Bool)(W:World):(Instr.buildSlice 98 1 #[(0,.agg (.int .i64 m:: .int .i64 m::zJ f).toArray)]).run Tryz.prog W=.ok (.slice (some ⟨W.heap.size,0,none⟩) 1 1) (W.alloc (.cells (.int .i64 m:: .int .i64 m::zJ f).toArray 241)):=by kernel_rfl
theorem zfp{e:En}{ls:List Ld}{C A:Value}{i:Nat}(h:i≠122):zM {e with ls:=ls,m:=e.m+1} C A i=zM e C A i:=by
 unfold zM;simp only[h,if_false]
theorem iW{W:Array Oper}{S:World->Prop}{b:Oper}{a:Act}{f g:Nat->Bool}{r:Bool}(j:Region.wanted b (yielded W a.tmps)=true)(x y:Operand)(e:b.op=.binOp .eql 97 x y 97)(k:a.eval x=.agg (zJ f).toArray)(l:a.eval y=.agg (zJ g).toArray)
  (h:((List.range 60).all λi=>f i==g i)=r):YieldsIf Tryz.prog W S b (.bool r) a:=
 .inl ⟨j,λw _=>by
  have h1:=zfz f g w
  rw[h]at h1
  have d:Tryz.prog.eqGuardType Tryz.prog.depth 97=false:=by kernel_rfl
  have c:=run_eqGuard_agg (P:=Tryz.prog) w .eql 97 x y (zJ f).toArray (zJ g).toArray d
  unfold execOp
  simp only[e,k,l,Sem.run_bind,c,h1,Result.andThen_ok,Sem.run_pure]⟩
theorem results_none{a:Func}(h:a.results=#[])(b:Array Value)(w:World):(results a b).run Tryz.prog w=.ok (.tuple #[]) w:=by
 simp[results,h]
end Go.Proofs.YtdokgalidhmbbaaGreatDoor
namespace Go.Proofs.YtdokgalidhmbbaaGreatDoor
open Go.RowKit Go.Lib Go.Sort
open Sx (zP)
def xB(s:ByteArray):List Value:=s.data.toList.map λb=>.int .u8 (b.toNat:Int)
theorem wP(s:ByteArray):(xB s).length=s.size:=by simp[xB]
theorem zbr(s:ByteArray):∀v∈xB s,v.oneCell'=true:=by
 intro v a;obtain⟨b,_,rfl⟩:=List.mem_map.1 a;rfl
variable {i:Nat}
theorem zbq{s:ByteArray}(h:i<s.size):(xB s)[i]? =some (.int .u8 (zP s i)):=by
 have a:i<s.data.size:=h;unfold xB zP;rw[List.getElem?_map,Array.getElem?_toList,Array.getElem?_eq_getElem a];rfl
theorem fI(w:World)(n:TypeId)(b o a g:Nat)(s:ByteArray)(k:s.size<=a)(f:w.there b o s.size):
  (Builtin.copy_ #[37,9] n #[.slice (some ⟨b,o,none⟩) a g,.string s]).run Tryz.prog w=.ok (.int .i64 (s.size:Int)) (w.setCells b o (xB s)):=by
 have hst:=run_storeCells_cells (P:=Tryz.prog) b o (xB s) 0 w (λj d=>by rw[Nat.add_zero];exact(f j (by rwa[wP]at d)).1) (λj d=>by rw[Nat.add_zero];exact(f j (by rwa[wP]at d)).2) (zbr s);rw[Nat.add_zero]at hst;have l:Nat.min s.size a=s.size:=Nat.min_eq_left k;have m:List.take s.size (List.map (λb:UInt8=>Value.int IntKind.u8 (b.toNat:Int)) s.data.toList)=xB s:=by
  rw[List.take_of_length_le (by rw[List.length_map];exact Nat.le_refl _)];rfl
 have c:∃i,Tryz.prog.info? 5=some i/\i.size=1:=by
  have h:(Tryz.prog.info? 5).map (·.size)=some 1:=by kernel_rfl
  cases e:Tryz.prog.info? 5 with
  |none=>rw[e]at h;cases h
  |some i=>rw[e]at h;exact⟨i,rfl,by simpa using h⟩
 obtain⟨i,c,_⟩:=c;simp[Builtin.copy_,run_underlying Tryz.underlying37,Builtin.lenOf,Builtin.firstCells,sizeOf,typeInfo,c,l];rw[m,hst];simp[Result.andThen,goInt]
theorem zrw{W:Array Oper}{o:Oper}{a:Act}{w b:World}{K:Act->World->Prop}{Q:Exit->Act->World->Prop}{E:Prop}{u v r:Value}(c:o.guard=none)(x y:Operand)(d:o.op=.call {callee:=.builtin .copy,args:=#[x,y],argTypes:=#[37,9]})(g:a.eval x=u)(i:a.eval y=v)
  (e:(Builtin.copy_ #[37,9] o.type #[u,v]).run Tryz.prog w=.ok r b) (h:K (a.put o.dst r) b):
  if Region.wanted o (yielded W a.tmps)=true then Oper.wp Tryz.prog o a w K Q else E:=by
 have f:Region.wanted o (yielded W a.tmps)=true:=by simp[Region.wanted,c]
 rw[if_pos f];unfold Oper.wp execOp;simp only[d,resolve,invoke,builtin,Sem.run_bind,Sem.run_pure,Result.andThen_ok,List.map_toArray,List.map_cons,List.map_nil,g,i,e];exact h
theorem zfl{e:En}{d:ByteArray}{C A:Value}(h:60<i):zM {e with d:=d} C A i=zM e C A i:=by
 have a:¬i<60:=by omega
 have b:¬i=60:=by omega
 unfold zM;simp only[a,b,if_false]
theorem Qq(d:ByteArray)(i:Nat):zP d i=(V.ints d)[i]?.getD 0:=by
 unfold zP V.ints;rw[List.getElem?_map,Array.getElem?_toList];cases d.data[i]? <;>rfl
theorem bQ(b:Nat):∀(c:List Value) (o:Nat) (w:World),Off (λk=>k=b) w (w.setCells b o c)
 |[],_,w=>Off.refl _ _
 |v::c,o,w=>((Off.refl _ _).setCell (K:=λk=>k=b) (a:=⟨b,o,none⟩) rfl v).trans (bQ b c (o+1) _)
variable {a:ByteArray}
theorem zbl{b:ByteArray}(h:i<a.size):zP (a++b) i=zP a i:=by
 rw[Qq,Qq,V.wB,List.getElem?_append_left (by rw[zg];exact h)]
theorem zbm{b:ByteArray}(h:a.size<=i):zP (a++b) i=zP b (i-a.size):=by
 rw[Qq,Qq,V.wB,List.getElem?_append_right (by rw[zg];exact h),zg]
theorem Wh(h:a.size<=i):zP a i=0:=by
 have b:a.data.size<=i:=h;unfold zP;rw[Array.getElem?_eq_none b];rfl
end Go.Proofs.YtdokgalidhmbbaaGreatDoor
namespace Go.Proofs.YtdokgalidhmbbaaGreatDoor
open Go.RowKit Go.Lib Go.Sort
variable {w:World}{b o n i:Nat}{f:Nat->Value}
theorem jk(h:w.rangeAt b o (row n f))(a:i<n):w.cell? ⟨b,o+i,none⟩=some (f i):=h i _ (JB a)
theorem vZ(h:∀i,i<n->w.cell? ⟨b,o+i,none⟩=some (f i)):w.rangeAt b o (row n f):=λj v c=>by
 obtain⟨a,rfl⟩:=JC c
 exact h j a
variable {B a:Nat}{s:Sx.St}
theorem gG(b:Sx.Inv s)(h:w.rangeAt a 0 (row 121 (zY s)))(e:∀i,w.frozen? ⟨a,i,none⟩=false)(d:B<=a):Sx.Obj w B a s:=by
 have c:∀i,i<121->w.cell? ⟨a,i,none⟩=some (zY s i):=λi b=>by have:=jk h b;rwa[Nat.zero_add]at this
 exact⟨b,λi h=>by rw[c i (by omega),Qb h],λi h=>by rw[c _ (by omega),Qc h],by rw[c 120 (by omega),zrk],λi _=>e i,d⟩
theorem zoi(h:Sx.Obj w B b s):w.rangeAt b 0 (row 121 (zY s)):=vZ λj d=>by
 rw[Nat.zero_add]
 by_cases a:j<60
 .rw [Qb a];exact h.cb j a
 .by_cases c:j<120
  .have h3:=h.cc (j-60) (by omega)
   have h4:=Qc (s:=s) (i:=j-60) (by omega)
   rw[show 60+(j-60)=j by omega]at h3 h4
   rw[h3,h4]
  .obtain rfl:j=120:=by omega
   exact h.ct
variable {c:Cx.St}
theorem Jd(d:Cx.Inv c)(h:w.rangeAt a 0 (row 4 (zZ c)))(b:∀i,w.frozen? ⟨a,i,none⟩=false)(e:B<=a):Cx.Obj w B a c:=by
 have g:∀i,i<4->w.cell? ⟨a,i,none⟩=some (zZ c i):=λi d=>by have:=jk h d;rwa[Nat.zero_add]at this
 exact⟨d,⟨g 0 (by omega),g 1 (by omega),g 2 (by omega),g 3 (by omega),b 1,b 2,b 3,b 0⟩,e⟩
theorem Xr(h:Cx.Obj w B a c):w.rangeAt a 0 (row 4 (zZ c)):=vZ λj b=>by
 rw[Nat.zero_add]
 match j,b with
 |0,_=>exact h.four.c0
 |1,_=>exact h.four.c1
 |2,_=>exact h.four.c2
 |3,_=>exact h.four.c3
theorem QK(a n:Nat)(h:(Tryz.prog.underlying a).map (·.isRow)=some true)(c:(Tryz.prog.info? a).map (·.size)=some n)(f:Nat->Value):∃d,Tryz.prog.underlying a=some d/\d.isRow=true/\(Tryz.prog.info? a).map (·.size)=some (row n f).length:=by
 cases b:Tryz.prog.underlying a with
 |none=>rw[b]at h;cases h
 |some d=>
  rw[b]at h;exact⟨d,rfl,by simpa using h,by rw[qM];exact c⟩
theorem zu7(W:World):(zeroValue 102).run Tryz.prog W=.ok (.agg (row 4 (zZ ⟨0,0,0,0⟩)).toArray) W:=by kernel_rfl
theorem zvf(W:World):(zeroValue 100).run Tryz.prog W=.ok (.agg (row 121 (zY Sx.qE)).toArray) W:=by kernel_rfl
theorem ZI(W:World)(a:Array Value)(t:TypeId)(i:Nat):(W.alloc (.cells a t)).frozen? ⟨W.heap.size,i,none⟩=false:=by simp
theorem yw(w:World)(t:TypeId)(n:Nat)(f:Nat->Value):(w.alloc (.cells (row n f).toArray t)).there w.heap.size 0 n:=λj a=>by
 rw[Nat.zero_add]
 simp[row,a]
variable {Q:Exit->Act->World->Prop}
theorem vH{W:Array Oper}{e:List Oper}{c:Oper}{a:Act}{ty:TypeId}(l:c.guard=none)(x:Operand)(p:c.op=.load ty x)
  (b o:Nat) (r:a.eval x=.pointer (some ⟨b,o,none⟩)) (k:w.rangeAt b o (row n f)) (q:(Tryz.prog.underlying ty).map (·.isRow)=some true) (m:(Tryz.prog.info? ty).map (·.size)=some n) (h:wpList Tryz.prog W Q e (a.put c.dst (.agg (row n f).toArray)) w):wpList Tryz.prog W Q (c::e) a w:=by
 obtain⟨d,g,i,j⟩:=QK ty n q m f;exact wpList_load_mid l ty x p b o r (row n f) d k g i j h
theorem zp9{W:Array Oper}{e:List Oper}{c:Oper}{a:Act}{d:TypeId}(j:c.guard=none)(x y:Operand)(l:c.op=.store d x y)
  (b o:Nat) (p:a.eval x=.pointer (some ⟨b,o,none⟩)) (q:a.eval y=.agg (row n f).toArray) (m:w.there b o n) (k:(Tryz.prog.info? d).map (·.size)=some n) (g:∀i,(f i).oneCell'=true) (h:wpList Tryz.prog W Q e (a.put c.dst undef) (w.setCells b o (row n f))):wpList Tryz.prog W Q (c::e) a w:=
 wpList_store_mid j d x y l b o (row n f).toArray p q (by simpa[qM]using m) (by simpa[qM]using k) (row_one λi _=>g i) (by simpa using h)
theorem vI{d:Array Oper}{e:List Oper}{c:Oper}{a:Act}{W:World}{ty:TypeId}(k:c.guard=none)(x y:Operand)(m:c.op=.store ty x y)
  (b o:Nat) (q:a.eval x=.pointer (some ⟨b,o,none⟩)) (r:a.eval y=.agg (row n f).toArray) (p:w.there b o n) (l:(Tryz.prog.info? ty).map (·.size)=some n) (g:∀i,(f i).oneCell'=true) (j:Hid (W=w.setCells b o (row n f))) (h:wpList Tryz.prog d Q e (a.put c.dst undef) W):wpList Tryz.prog d Q (c::e) a w:=
 zp9 k x y m b o q r p l g (by rw[<-j.out];exact h)
variable {e:En}{C A:Value}
theorem zfr(h:i<125\/250<=i):zM {e with s:=s,c:=c} C A i=zM e C A i:=by
 have n:¬(¬i<60/\¬i=60/\¬i<121/\¬i=121/\¬i=122/\¬i=123/\¬i=124/\i<246):=by omega
 unfold zM;rcases h with h|h;by_cases a:i<60;simp only[a,if_true];by_cases b:i=60;subst b;rfl;by_cases d:i<121;simp only[a,b,d,if_true,if_false];have:i=121\/i=122\/i=123\/i=124:=by omega
 rcases this with rfl|rfl|rfl|rfl<;>rfl
 have a:¬i<60:=by omega
 have b:¬i=60:=by omega
 have d:¬i<121:=by omega
 have f:¬i=121:=by omega
 have g:¬i=122:=by omega
 have j:¬i=123:=by omega
 have k:¬i=124:=by omega
 have l:¬i<246:=by omega
 have m:¬i<250:=by omega
 simp only[a,b,d,f,g,j,k,l,m,if_false]
theorem wI(b:Nat):∀(c:List Value) (o:Nat) (w:World),Off (λk=>k=b) w (w.setCells b o c)
 |[],_,w=>Off.refl _ _
 |v::c,o,w=>((Off.refl _ _).setCell (K:=λk=>k=b) (a:=⟨b,o,none⟩) rfl v).trans (wI b c (o+1) _)
def TurnI(w E:World)(B o:Nat)(C A:Value)(e:En):Prop:=EO E B o C A e/\Off (λk=>k=o) w E
theorem TurnI.trans{c d:World}{a:En}(f:TurnI w c B o C A e)(b:TurnI c d B o C A a):TurnI w d B o C A a:=⟨b.1,f.2.trans b.2⟩
variable {E:World}
theorem TurnI.below(h:EO w B o C A e)(a:Below w.heap.size w E):TurnI w E B o C A e:=⟨h.below a,Off.of_below a⟩
theorem zfj(h:i<246\/250<=i):zM {e with c:=c} C A i=zM e C A i:=by
 unfold zM;rcases h with h|h;by_cases g:i<60;simp only[g,if_true];by_cases j:i=60;subst j;rfl;by_cases k:i<121;simp only[g,j,k,if_true,if_false];by_cases r:i<125;have:i=121\/i=122\/i=123\/i=124:=by omega
 rcases this with rfl|rfl|rfl|rfl<;>rfl
 have a:¬i=121:=by omega
 have b:¬i=122:=by omega
 have d:¬i=123:=by omega
 have f:¬i=124:=by omega
 simp only[g,j,k,a,b,d,f,h,if_true,if_false];have l:¬i<60:=by omega
 have m:¬i=60:=by omega
 have n:¬i<121:=by omega
 have a:¬i=121:=by omega
 have b:¬i=122:=by omega
 have d:¬i=123:=by omega
 have f:¬i=124:=by omega
 have p:¬i<246:=by omega
 have q:¬i<250:=by omega
 simp only[l,m,n,a,b,d,f,p,q,if_false]
theorem zfq(h:i<125\/246<=i):zM {e with s:=s} C A i=zM e C A i:=by
 unfold zM;rcases h with h|h;by_cases a:i<60;simp only[a,if_true];by_cases b:i=60;subst b;rfl;by_cases n:i<121;simp only[a,b,n,if_true,if_false];have:i=121\/i=122\/i=123\/i=124:=by omega
 rcases this with rfl|rfl|rfl|rfl<;>rfl
 have c:¬i<60:=by omega
 have d:¬i=60:=by omega
 have f:¬i<121:=by omega
 have g:¬i=121:=by omega
 have j:¬i=122:=by omega
 have k:¬i=123:=by omega
 have l:¬i=124:=by omega
 have m:¬i<246:=by omega
 simp only[c,d,f,g,j,k,l,m,if_false]
theorem EO.turnC(h:EO w B o C A e)(t:Cy.Turned w E o c):TurnI w E B o C A {e with c:=c}:=by
 refine⟨⟨⟨h.inv.d60,h.inv.t1,h.inv.l0,h.inv.l1,h.inv.m1,h.inv.k0,h.inv.k1,h.inv.ls,h.inv.s,t.obj.inv,h.inv.cm,h.inv.ll⟩,λi f=>?_,λi=>(t.fz i).trans (h.fz i),h.hs,t.off.row h.ld (λk b a=>by subst a;exact h.ap.1 b),t.off.row h.cm (λk b a=>by subst a;exact h.ap.2 b),h.ap⟩,t.off⟩;by_cases d:i<246\/250<=i;rw [t.rest i d,h.cl i f];exact congrArg some (zfj d).symm;obtain ⟨j,rfl⟩:∃j,i=246+j:=⟨i-246,by omega⟩
 rw[Jn (by omega)];have g:j<4:=by omega
 match j,g with
 |0,_=>exact t.obj.c0
 |1,_=>exact t.obj.c1
 |2,_=>exact t.obj.c2
 |3,_=>exact t.obj.c3
theorem EO.turnS(h:EO w B b C A e)(t:Sy.Turned w E b s):TurnI w E B b C A {e with s:=s}:=by
 obtain⟨o,f⟩:=t;refine⟨⟨⟨h.inv.d60,h.inv.t1,h.inv.l0,h.inv.l1,h.inv.m1,h.inv.k0,h.inv.k1,h.inv.ls,o.inv,h.inv.c,h.inv.cm,h.inv.ll⟩,λi l=>?_,λi=>(f.fz i).trans (h.fz i),h.hs,f.off.row h.ld (λk c a=>by subst a;exact h.ap.1 c),f.off.row h.cm (λk c a=>by subst a;exact h.ap.2 c),h.ap⟩,f.off⟩;by_cases g:i<125\/246<=i;rw [f.rest i (by omega),h.cl i l];exact congrArg some (zfq g).symm;obtain ⟨j,rfl⟩:∃j,i=125+j:=⟨i-125,by omega⟩;rw[QM (by omega)];by_cases d:j<60;rw [Qb d];exact o.cb j d;by_cases m:j<120;have h3:=o.cc (j-60) (by omega);have h4:=Qc (s:=s) (i:=j-60) (by omega);rw[show 185+(j-60)=125+j by omega]at h3;rw[show 60+(j-60)=j by omega]at h4;rw[h3,h4];obtain rfl:j=120:=by omega
 exact o.ct
def yP(e:En)(p:Int)(d:ByteArray):Int:=if Cx.qh e.c (p+d.size)≠0 then Cx.qh e.c (p+d.size)else Sx.xg e.s p d
def yu(e:En)(p:Int)(d:ByteArray):En:=if Cx.qh e.c (p+d.size)≠0 then e else{e with c:=Cx.zm e.c (p+d.size),s:=Sx.xY e.s p d}
theorem zry(e:En)(p:Int)(d:ByteArray):zn e (3,[p],d)=(yP e p d,yu e p d):=by
 unfold zn;rw[if_neg (show¬(3:Int)=2 by decide),if_neg (show¬(3:Int)=4 by decide),if_pos rfl];show(if Cx.qh e.c (p+d.size)≠0 then(Cx.qh e.c (p+d.size),e)else(Sx.xg e.s p d,{e with c:=Cx.zm e.c (p+d.size),s:=Sx.xY e.s p d}))=_;unfold yP yu;split<;>rfl
theorem zsc(h:EO w B o C A e)(p:Int)(d:ByteArray)(G:0<=p)(H:p<=1073741823)(D:d.size<=20):Calls Tryz.prog 161 #[.pointer (some ⟨o,0,none⟩),.agg #[.int .i64 p,.string d]] w λn E=>n=.returned (zN (yP e p d))/\TurnI w E B o C A (yu e p d):=by
 have v:=zC h;have hb0:Below w.heap.size w (w.alloc (.cells #[.int .i64 p,.string d] 146)):=(Below.refl _ _).alloc (Nat.le_refl _) _;obtain⟨q0,q1⟩:=Sx.ZB w p d;have I:w.heap.size<(w.alloc (.cells #[.int .i64 p,.string d] 146)).heap.size:=by simp
 have b:w.heap.size≠o:=by have:=h.lt;omega
 have u1:=Sx.wrap_small (p+(d.size:Int)) (by omega) (by omega);obtain⟨u,j⟩:∃u,p+(d.size:Int)=u:=⟨_,rfl⟩;have t:Hid (p+(d.size:Int)=u):=j;clear h;go_enter Tryz.func161,Tryz.ntmps161
 go_wp2_with fail;have HB0:=zC hb0;generalize w.alloc (.cells #[.int .i64 p,.string d] 146)=W at*;have F:W.drew.cell? ⟨w.heap.size,0,none⟩=some (.int .i64 p):=q0;have P:W.drew.cell? ⟨w.heap.size,1,none⟩=some (.string d):=q1;have r:Hid (EO W.drew B o C A e):=v.out.below (HB0.out.drew);have HCT:=Cy.vK r.out.cy u;rw[j]at u1;obtain⟨f,q⟩:∃f,Cx.qh e.c u=f:=⟨_,rfl⟩;have HFF:Hid (Cx.qh e.c u=f):=q;rw[q]at HCT
 clear q q0 q1 hb0;have J:IntKind.i64.wrap (p+(d.size:Int))=u:=by rw[j];exact u1
 clear j;go_region_held3 (λE=>E.cell? ⟨w.heap.size,0,none⟩=some (.int .i64 p)/\E.cell? ⟨w.heap.size,1,none⟩=some (.string d)) (go_keep) (first|(go_at_call 185;refine HCT.mono ?_;rintro n k ⟨rfl,g⟩;have V:=g.off.cell F b;have z:=g.off.cell P b))
 have m:Hid (TurnI w k B o C A {e with c:=Cx.zm e.c u}):=⟨(r.out.turnC g).1,(Off.of_below (HB0.out.drew)).trans g.off⟩;by_cases a:f=0
 .subst a;rw[jm];have l:Hid (EO k.drew B o C A {e with c:=Cx.zm e.c u}):=m.out.1.below ((Below.refl _ _).drew);have HPT:=Sy.znx l.out.sy l.out.lt p d (by omega);have Q:k.drew.cell? ⟨w.heap.size,0,none⟩=some (.int .i64 p):=V;have U:k.drew.cell? ⟨w.heap.size,1,none⟩=some (.string d):=z;have HPF:Hid (yP e p d=Sx.xg e.s p d/\yu e p d={e with c:=Cx.zm e.c u,s:=Sx.xY e.s p d}):=by
   unfold yP yu;rw[t.out,HFF.out];exact⟨rfl,rfl⟩
  clear HCT;generalize x:Sx.xg e.s p d=K at HPT HPF;clear x;go_wp2_with fail;go_region_held3 (λE=>E.cell? ⟨w.heap.size,0,none⟩=some (.int .i64 p)/\E.cell? ⟨w.heap.size,1,none⟩=some (.string d)) (go_keep) (first|(go_at_call 186;refine HPT.mono ?_;rintro n L ⟨rfl,i⟩;have M:=i.2.off.cell Q b;have N:=i.2.off.cell U b))
  all_goals go_wp2_with fail
  all_goals go_ret
  all_goals refine⟨by rw[HPF.out.1];rfl,?_⟩
  all_goals rw[HPF.out.2]
  all_goals exact⟨(l.out.turnS i).1,(m.out.2.trans (Off.of_below ((Below.refl _ _).drew))).trans i.2.off⟩
 have HPF:Hid (yP e p d=f/\yu e p d=e):=by
  unfold yP yu;rw[t.out,HFF.out,if_pos a,if_pos a];exact⟨rfl,rfl⟩
 have y:Cx.zm e.c u=e.c:=Cx.ZV (by rw[HFF.out];exact a);rw[qj a];go_wp2_with fail;go_ret;refine⟨by rw[HPF.out.1,qj a];rfl,?_⟩;rw[HPF.out.2];have:=m.out;rw[y]at this;exact this
theorem zfn{l:Int}(h:i≠121):zM {e with l:=l} C A i=zM e C A i:=by
 unfold zM;simp only[h,if_false]
variable {z:Int}
theorem EO.setL{l:Int}(h:EO w B b C A e)(hi:EInv {e with l:=l})(f:z=l):TurnI w (w.setCell ⟨b,121,none⟩ (.int .i64 z)) B b C A {e with l:=l}:=by
 subst f;have o:Off (λk=>k=b) w (w.setCell ⟨b,121,none⟩ (.int .i64 z)):=(Off.refl _ _).setCell (K:=λk=>k=b) (a:=⟨b,121,none⟩) rfl _;refine⟨⟨hi,λi hi=>?_,λi=>by simpa using h.fz i,h.hs,o.row h.ld (λk d e'=>by subst e';exact h.ap.1 d),o.row h.cm (λk d e'=>by subst e';exact h.ap.2 d),h.ap⟩,o⟩;by_cases c:i=121;subst c;exact World.cell?_setCell_same _ _ _ (h.cl 121 (by omega));rw [World.cell?_setCell_other _ _ _ _ (λe'=>by injection e' with _ e' _;exact c e'.symm),h.cl i hi];exact congrArg some (zfn c).symm
variable {u:Value}{M:List Int}{d:ByteArray}
theorem zs6(h:EO w B o C A e)(j:IRow w u M)(q:u.ownBlock≠some o){k:Int}(s:¬k=2)(v:¬k=4)(t:¬k=3):Calls Tryz.prog 134 #[.pointer (some ⟨o,0,none⟩),.agg #[.int .i64 k,u,.string d]] w λi E=>i=.returned (.iface 133 (.int .i64 3))/\TurnI w E B o C A e:=by
 have g:=zC h;obtain⟨a,c,rfl,m,l,r⟩:=j;have b:Below w.heap.size w (w.alloc (.cells #[.int .i64 k,.slice a M.length c,.string d] 141)):=(Below.refl _ _).alloc (Nat.le_refl _) _;have x:(w.alloc (.cells #[.int .i64 k,.slice a M.length c,.string d] 141)).cell? ⟨w.heap.size,0,none⟩=some (.int .i64 k):=by simp
 have y:(w.alloc (.cells #[.int .i64 k,.slice a M.length c,.string d] 141)).cell? ⟨w.heap.size,1,none⟩=some (.slice a M.length c):=by simp
 have F:(w.alloc (.cells #[.int .i64 k,.slice a M.length c,.string d] 141)).cell? ⟨w.heap.size,2,none⟩=some (.string d):=by simp
 have p:w.heap.size<(w.alloc (.cells #[.int .i64 k,.slice a M.length c,.string d] 141)).heap.size:=by simp
 have n:w.heap.size≠o:=by have:=h.lt;omega
 have f:=zC b;clear h b;go_enter Tryz.func134,Tryz.ntmps134
 go_wp2_with fail;go_ret;exact⟨rfl,TurnI.below g.out f.out⟩
theorem zs7(h:EO w B o C A e)(hR:IRow w u M)(hue:u.ownBlock≠some o)(P:M=[z])(U:0<=z)(V:z<=1073741823)(F:d.size<=20):Calls Tryz.prog 134 #[.pointer (some ⟨o,0,none⟩),.agg #[.int .i64 3,u,.string d]] w λl E=>l=.returned (zN (yP e z d))/\TurnI w E B o C A (yu e z d):=by
 subst P;have r:=zC h;obtain⟨f,c,rfl,K,J,Q⟩:=hR;have hb0:Below w.heap.size w (w.alloc (.cells #[.int .i64 3,.slice f [z].length c,.string d] 141)):=(Below.refl _ _).alloc (Nat.le_refl _) _;have q0:(w.alloc (.cells #[.int .i64 3,.slice f [z].length c,.string d] 141)).cell? ⟨w.heap.size,0,none⟩=some (.int .i64 3):=by simp
 have q1:(w.alloc (.cells #[.int .i64 3,.slice f [z].length c,.string d] 141)).cell? ⟨w.heap.size,1,none⟩=some (.slice f [z].length c):=by simp
 have q2:(w.alloc (.cells #[.int .i64 3,.slice f [z].length c,.string d] 141)).cell? ⟨w.heap.size,2,none⟩=some (.string d):=by simp
 have L:w.heap.size<(w.alloc (.cells #[.int .i64 3,.slice f [z].length c,.string d] 141)).heap.size:=by simp
 have m:w.heap.size≠o:=by have:=h.lt;omega
 have HB0:=zC hb0;obtain⟨b,a,rfl,x,v⟩:∃b a,f=some ⟨b,a,none⟩/\b<w.heap.size/\ICells w b a [z]:=by
  rcases Q with i|i;cases i;exact i
 have I:w.cell? ⟨b,a,none⟩=some (.int .i64 z):=by simpa using v 0 (by simp)
 obtain⟨n,j⟩:∃n,yP e z d=n:=⟨_,rfl⟩;rw[j];clear h hb0;go_enter Tryz.func134,Tryz.ntmps134
 go_wp2_with fail;have p0:=(HB0.out.cell (p:=⟨b,a,none⟩) x).trans I;have hlen: [z].length=1:=rfl;generalize w.alloc (.cells #[.int .i64 3,.slice (some ⟨b,a,none⟩) [z].length c,.string d] 141)=W at*;rw[hlen]at*;have N:W.drew.cell? ⟨w.heap.size,0,none⟩=some (.int .i64 3):=q0;have D:W.drew.cell? ⟨w.heap.size,1,none⟩=some (.slice (some ⟨b,a,none⟩) 1 c):=q1;have G:W.drew.cell? ⟨w.heap.size,2,none⟩=some (.string d):=q2
 have H:W.drew.cell? ⟨b,a,none⟩=some (.int .i64 z):=p0;have s:Hid (EO W.drew B o C A e):=r.out.below (HB0.out.drew);have HTP:=zsc s.out z d U V F;have q:Hid (Off (λk=>k=o) w W.drew):=Off.of_below (HB0.out.drew);have y:b≠o:=λt=>hue (by rw[<-t];rfl);rw[j]at HTP;clear j;go_region_held3 (λE=>E.cell? ⟨w.heap.size,1,none⟩=some (.slice (some ⟨b,a,none⟩) 1 c)/\E.cell? ⟨w.heap.size,2,none⟩=some (.string d)/\E.cell? ⟨b,a,none⟩=some (.int .i64 z)) (go_keep) (first|(go_at_call 161;refine HTP.mono ?_;rintro l O ⟨rfl,g⟩;have R:=g.2.cell D m;have S:=g.2.cell G m;have T:=g.2.cell H y))
 all_goals go_wp2_with fail
 all_goals go_ret
 all_goals exact⟨rfl,g.1,q.out.trans g.2⟩
theorem zs5(h:EO w B o C A e)(hR:IRow w u M)(J:u.ownBlock≠some o)(F:M=[z])(m:EInv {e with l:=max e.l z}):Calls Tryz.prog 134 #[.pointer (some ⟨o,0,none⟩),.agg #[.int .i64 4,u,.string d]] w λt E=>t=.returned .nilIface/\TurnI w E B o C A {e with l:=max e.l z}:=by
 subst F;have q:=zC h;obtain⟨a,c,rfl,G,D,Q⟩:=hR;have hb0:Below w.heap.size w (w.alloc (.cells #[.int .i64 4,.slice a [z].length c,.string d] 141)):=(Below.refl _ _).alloc (Nat.le_refl _) _;have L:(w.alloc (.cells #[.int .i64 4,.slice a [z].length c,.string d] 141)).cell? ⟨w.heap.size,0,none⟩=some (.int .i64 4):=by simp
 have N:(w.alloc (.cells #[.int .i64 4,.slice a [z].length c,.string d] 141)).cell? ⟨w.heap.size,1,none⟩=some (.slice a [z].length c):=by simp
 have O:(w.alloc (.cells #[.int .i64 4,.slice a [z].length c,.string d] 141)).cell? ⟨w.heap.size,2,none⟩=some (.string d):=by simp
 have I:w.heap.size<(w.alloc (.cells #[.int .i64 4,.slice a [z].length c,.string d] 141)).heap.size:=by simp
 have H:w.heap.size≠o:=by have:=h.lt;omega
 have HB0:=zC hb0;obtain⟨b,f,rfl,y,x⟩:∃b f,a=some ⟨b,f,none⟩/\b<w.heap.size/\ICells w b f [z]:=by
  rcases Q with i|i;cases i;exact i
 have U:w.cell? ⟨b,f,none⟩=some (.int .i64 z):=by simpa using x 0 (by simp)
 clear h hb0;go_enter Tryz.func134,Tryz.ntmps134
 go_wp2_with fail;have K:=(HB0.out.cell (p:=⟨b,f,none⟩) y).trans U;have hlen: [z].length=1:=rfl;generalize w.alloc (.cells #[.int .i64 4,.slice (some ⟨b,f,none⟩) [z].length c,.string d] 141)=W at*;rw[hlen]at*;have g:Hid (EO W B o C A e):=q.out.below HB0.out;have s:=g.out.cl 121 (by omega);have V:=g.out.fz 121;rw[zfo]at s;have n:=zC m;clear m;have r:Hid (∀v,v=max e.l z->TurnI w (W.setCell ⟨o,121,none⟩ (.int .i64 v)).drew B o C A {e with l:=max e.l z}):=by
  show∀v,_->_;intro v P;have j:=g.out.setL n.out P;have k:=TurnI.below j.1 ((Below.refl _ (W.setCell ⟨o,121,none⟩ (.int .i64 v))).drew);exact⟨k.1,((Off.of_below HB0.out).trans j.2).trans k.2⟩
 go_region
 all_goals go_wp2_with fail
 all_goals go_ret
 all_goals exact⟨rfl,r.out _ rfl⟩
def yx(M:List Int):Prop:=∀(w:World) (B o:Nat) (C A u:Value) (e:En),EO w B o C A e->IRow w u M->u.ownBlock≠some o->Calls Tryz.prog 160 #[.pointer (some ⟨o,0,none⟩),u] w λa E=>a=.returned (zN (zn e (2,M,nilB)).1)/\TurnI w E B o C A (zn e (2,M,nilB)).2
theorem zs4(h:EO w B o C A e)(n:IRow w u M)(hue:u.ownBlock≠some o)(m:yx M):Calls Tryz.prog 134 #[.pointer (some ⟨o,0,none⟩),.agg #[.int .i64 2,u,.string d]] w λg E=>g=.returned (zN (zn e (2,M,nilB)).1)/\TurnI w E B o C A (zn e (2,M,nilB)).2:=by
 have l:=zC h;obtain⟨a,c,rfl,q,p,r⟩:=n;have i:Below w.heap.size w (w.alloc (.cells #[.int .i64 2,.slice a M.length c,.string d] 141)):=(Below.refl _ _).alloc (Nat.le_refl _) _;have v:(w.alloc (.cells #[.int .i64 2,.slice a M.length c,.string d] 141)).cell? ⟨w.heap.size,0,none⟩=some (.int .i64 2):=by simp
 have x:(w.alloc (.cells #[.int .i64 2,.slice a M.length c,.string d] 141)).cell? ⟨w.heap.size,1,none⟩=some (.slice a M.length c):=by simp
 have y:(w.alloc (.cells #[.int .i64 2,.slice a M.length c,.string d] 141)).cell? ⟨w.heap.size,2,none⟩=some (.string d):=by simp
 have t:w.heap.size<(w.alloc (.cells #[.int .i64 2,.slice a M.length c,.string d] 141)).heap.size:=by simp
 have s:w.heap.size≠o:=by have:=h.lt;omega
 have b:=zC i;obtain⟨k,f⟩:∃k,(zn e (2,M,nilB)).1=k:=⟨_,rfl⟩;rw[f];clear h i;go_enter Tryz.func134,Tryz.ntmps134
 go_wp2_with fail;have HA:=m _ B o C A (.slice a M.length c) e (l.out.below b.out) (IRow.below ⟨a,c,rfl,q,p,r⟩ b.out) hue;rw[f]at HA;clear f;refine HA.mono ?_;rintro g F ⟨rfl,j⟩;go_wp2_with fail;go_ret;exact⟨rfl,j.1,(Off.of_below b.out).trans j.2⟩
theorem gV(h:EO w B o C A e)(f:F)(hf:fF f=0)(hR:IRow w u f.2.1)(a:u.ownBlock≠some o)(hA:f.1=2->yx f.2.1):Calls Tryz.prog 134 #[.pointer (some ⟨o,0,none⟩),.agg #[.int .i64 f.1,u,.string f.2.2]] w λm E=>m=.returned (zN (zn e f).1)/\TurnI w E B o C A (zn e f).2:=by
 have hi:=h.inv.stp hf;obtain⟨k,M,d⟩:=f;obtain⟨n,h2,h3,h4,j,p⟩:=kV hf;simp only at hR hA n h2 h3 h4 j p |-;by_cases b:k=2;subst b;have q:d=nilB:=by
  have:=h3 (by decide);apply ByteArray.ext;exact Array.eq_empty_of_size_eq_zero this
 subst q;exact zs4 h hR a (hA rfl);have hl:M.length=zk k:=by
  unfold zW at h2;rw[if_neg b]at h2;exact of_decide_eq_true h2
 by_cases i:k=4;subst i;obtain⟨z,rfl⟩:∃z,M=[z]:=List.length_eq_one_iff.1 hl;have c:zn e (4,[z],d)=(0,{e with l:=max e.l z}):=rfl;rw[c]at hi |-;exact zs5 h hR a rfl hi;by_cases g:k=3;subst g;obtain⟨z,rfl⟩:∃z,M=[z]:=List.length_eq_one_iff.1 hl;have r:=h4 z (by simp);rw[zry];exact zs7 h hR a rfl (by omega) (by omega) j;have c:zn e (k,M,d)=(3,e):=by
  unfold zn;rw[if_neg b,if_neg i,if_neg g]
 rw[c];exact zs6 h hR a b i g
end Go.Proofs.YtdokgalidhmbbaaGreatDoor
