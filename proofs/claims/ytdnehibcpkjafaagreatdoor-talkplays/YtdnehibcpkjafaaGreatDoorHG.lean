/- What TalkPlays needs. -/
import Derived.Test.YtdnehibcpkjafaaGreatDoorHE
import Derived.Deep.AppendLies
import Derived.Great.Walk
set_option linter.unusedVariables false
set_option linter.unusedSimpArgs false
set_option maxRecDepth 100000
set_option maxHeartbeats 8000000
namespace Go.Proofs.YtdnehibcpkjafaaGreatDoor
open Go.RowKit Go.Lib Go.Sort
theorem ztw {ls:List Ld} {x:Ld} {m a b:Nat} (h1:x.a=a) (h2:x.b=b):zd3 (ls++ [x]) m a b=ls++ [⟨x.lo,m,a,b⟩]:=by
 unfold zd3
 rw [List.getLast?_concat]
 simp only [h1,h2,and_self,if_true,List.dropLast_concat]
theorem zv4 {ls:List Ld} {x:Ld} {m a b:Nat} (h:¬(x.a=a∧x.b=b)):zd3 (ls++ [x]) m a b=(ls++ [x])++ [⟨m,m,a,b⟩]:=by
 unfold zd3
 rw [List.getLast?_concat]
 simp only [h,if_false]
def hadF (a b:Nat) (i:Nat):Bool:=decide (a≤i∧i<b)
theorem zgt (lo hi a b:Nat):lds1 ⟨lo,hi,a,b⟩= .int .i64 lo:: .int .i64 hi::brow (hadF a b):=rfl
theorem zq1 {a b c d:Nat} (h1:a<b∨(a=0∧b=0)) (h2:c<d∨(c=0∧d=0)) (hb:b≤60) (hd:d≤60):((List.range 60).all fun i=>hadF a b i==hadF c d i)=decide (a=c∧b=d):=by
 by_cases h:a=c∧b=d
 ·rw [decide_eq_true h,List.all_eq_true]
  obtain ⟨rfl,rfl⟩:=h
  intro i _
  simp
 ·rw [decide_eq_false h,List.all_eq_false]
  have key:∃i,i<60∧hadF a b i≠hadF c d i:=by
   rcases h1 with h1 | ⟨rfl,rfl⟩
   ·rcases h2 with h2 | ⟨rfl,rfl⟩
    ·by_cases e:a=c
     ·subst e
      by_cases e2:b<d
      ·exact ⟨b,by omega,by unfold hadF;rw [decide_eq_false (by omega),decide_eq_true (by omega)];decide⟩
      ·exact ⟨d,by omega,by unfold hadF;rw [decide_eq_true (by omega),decide_eq_false (by omega)];decide⟩
     ·by_cases e2:a<c
      ·exact ⟨a,by omega,by unfold hadF;rw [decide_eq_true (by omega),decide_eq_false (by omega)];decide⟩
      ·exact ⟨c,by omega,by unfold hadF;rw [decide_eq_false (by omega),decide_eq_true (by omega)];decide⟩
    ·exact ⟨a,by omega,by unfold hadF;rw [decide_eq_true (by omega),decide_eq_false (by omega)];decide⟩
   ·rcases h2 with h2 | ⟨rfl,rfl⟩
    ·exact ⟨c,by omega,by unfold hadF;rw [decide_eq_false (by omega),decide_eq_true (by omega)];decide⟩
    ·exact absurd ⟨rfl,rfl⟩ h
  obtain ⟨i,hi,hne⟩:=key
  exact ⟨i,by simpa using hi,by simpa using hne⟩
theorem zj3 {ops:Array Oper} {S:World→Prop} {op:Oper} {a:Act} {L:Array Value} {m:Int} {f:Nat→Bool} (hw:Region.wanted op (yielded ops a.tmps)=true) (x y:Operand) (ho:op.op= .build 143 #[(0,x),(1,y)]) (hx:a.eval x= .agg #[.int .i64 m,.int .i64 m]) (hy:a.eval y= .agg (brow f).toArray)
  (hb:∀W:World,(Instr.build 143 #[(0,.agg #[.int .i64 m,.int .i64 m]),(1,.agg (brow f).toArray)]).run Tryz.prog W= .ok (.agg L) W):YieldsIf Tryz.prog ops S op (.agg L) a:=
 .inl ⟨hw,fun w _=>by
  unfold execOp
  simp only [ho,List.map_toArray,List.map_cons,List.map_nil,hx,hy,Sem.run_bind,hb,Result.andThen_ok,Sem.run_pure]⟩
theorem zfq {ops:Array Oper} {o:Oper} {a:Act} {w:World} {K:Act→World→Prop} {Q:Exit→Act→World→Prop} {E:Prop} {L:Array Value} (hgd:o.guard=none) (x:Operand) (ho:o.op= .buildSlice 63 1 #[(0,x)]) (hx:a.eval x= .agg L)
  (hb:∀W:World,(Instr.buildSlice 63 1 #[(0,.agg L)]).run Tryz.prog W= .ok (.slice (some ⟨W.heap.size,0,none⟩) 1 1) (W.alloc (.cells L 143))) (h:K (a.put o.dst (.slice (some ⟨w.heap.size,0,none⟩) 1 1)) (w.alloc (.cells L 143))):
  if Region.wanted o (yielded ops a.tmps)=true then Oper.wp Tryz.prog o a w K Q else E:=by
 have hw:Region.wanted o (yielded ops a.tmps)=true:=by simp [Region.wanted,hgd]
 rw [if_pos hw]
 unfold Oper.wp execOp
 simp only [ho,List.map_toArray,List.map_cons,List.map_nil,hx,Sem.run_bind,hb,Result.andThen_ok,Sem.run_pure]
 exact h
structure KeepPost (w w':World) (B eb:Nat) (vl vc:Value) (e:En) (vl':Value) (ls:List Ld):Prop where
 cl:∀i,i<251→w'.cell? ⟨eb,i,none⟩=some (zaf e vl' vc i)
 fz:∀i,w'.frozen? ⟨eb,i,none⟩=false
 ld:w'.ownsRow B 143 62 vl' ls.length (lds ls)
 cm:w'.ownsRow B 129 2 vc e.cm.length (flat e.cm)
 ap:vl'.ownBlock≠some eb
 off:Off (OwnE eb vl vc) w w'
 own:∀k,vl'.ownBlock=some k→vl.ownBlock=some k∨w.heap.size≤k
theorem zBm {e:En} {vl vl' vc:Value} {i:Nat} (h:i≠124):zaf e vl' vc i=zaf e vl vc i:=by
 unfold zaf
 simp only [h,if_false]
theorem zjn {w:World} {B B' n m:Nat} {u v:Value} {xs ys:List Value} (h:w.ownsRow B 143 62 u n xs) (h':w.ownsRow B' 129 2 v m ys):∀k,v.ownBlock=some k→u.ownBlock≠some k:=by
 intro k hk hu
 rcases h.2 with ⟨rfl,_⟩ | ⟨g,cap,cur,rfl,_,hg,_⟩
 ·cases hu
 ·rcases h'.2 with ⟨rfl,_⟩ | ⟨g',cap',cur',rfl,_,hg',_⟩
  ·cases hk
  ·obtain rfl:g=k:=by simpa [Value.ownBlock] using hu
   obtain rfl:g'=g:=by simpa [Value.ownBlock] using hk
   rw [hg] at hg'
   cases hg'
theorem zF9:(Tryz.prog.info? 143).map (fun i=>(i.zero,i.size,i.bytes))=some (some (.agg (lds1 ⟨0,0,0,0⟩).toArray),62,80):=by kernel_rfl
theorem zlf (m:Int) (f:Nat→Bool) (W:World):(Instr.build 143 #[(0,.agg #[.int .i64 m,.int .i64 m]),(1,.agg (brow f).toArray)]).run Tryz.prog W= .ok (.agg (.int .i64 m:: .int .i64 m::brow f).toArray) W:=by kernel_rfl
theorem zi9 (m:Int) (f:Nat→Bool) (W:World):(Instr.buildSlice 63 1 #[(0,.agg (.int .i64 m:: .int .i64 m::brow f).toArray)]).run Tryz.prog W= .ok (.slice (some ⟨W.heap.size,0,none⟩) 1 1) (W.alloc (.cells (.int .i64 m:: .int .i64 m::brow f).toArray 143)):=by kernel_rfl
theorem zFm {e:En} {ls:List Ld} {vl vc:Value} {i:Nat} (h:i≠122):zaf {e with ls:=ls,m:=e.m+1} vl vc i=zaf e vl vc i:=by
 unfold zaf
 simp only [h,if_false]
theorem zld {ops:Array Oper} {S:World→Prop} {op:Oper} {a:Act} {f g:Nat→Bool} {r:Bool} (hw:Region.wanted op (yielded ops a.tmps)=true) (x y:Operand) (ho:op.op= .binOp .eql 62 x y 62) (hx:a.eval x= .agg (brow f).toArray) (hy:a.eval y= .agg (brow g).toArray)
  (hr:((List.range 60).all fun i=>f i==g i)=r):YieldsIf Tryz.prog ops S op (.bool r) a:=
 .inl ⟨hw,fun w _=>by
  have h1:=zDy f g w
  rw [hr] at h1
  have hm:Tryz.prog.eqGuardType Tryz.prog.depth 62=false:=by kernel_rfl
  have h2:=run_eqGuard_agg (P:=Tryz.prog) w .eql 62 x y (brow f).toArray (brow g).toArray hm
  unfold execOp
  simp only [ho,hx,hy,Sem.run_bind,h2,h1,Result.andThen_ok,Sem.run_pure]⟩
theorem results_none {fn:Func} (h:fn.results= #[]) (tmps:Array Value) (w:World):(results fn tmps).run Tryz.prog w= .ok (.tuple #[]) w:=by
 simp [results,h]
end Go.Proofs.YtdnehibcpkjafaaGreatDoor
