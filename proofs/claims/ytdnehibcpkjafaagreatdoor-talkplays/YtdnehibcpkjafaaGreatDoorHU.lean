/- What TalkPlays needs. -/
import Derived.Test.YtdnehibcpkjafaaGreatDoorHT
import Derived.Test.YtdnehibcpkjafaaGreatDoorHG
import Derived.Lib.SliceRun
set_option linter.unusedVariables false
set_option linter.unusedSimpArgs false
set_option maxRecDepth 100000
set_option maxHeartbeats 8000000
namespace Go.Proofs.YtdnehibcpkjafaaGreatDoor
open Go.RowKit Go.Lib Go.Sort
theorem zCj {v:Value} {cm:List R} {n:Int} {w:World} (h:Row w v cm) (hk:chk cm=0) (hN:isN n=true) (hl:12<(addL cm n).length):Calls Tryz.prog 56 #[v,.int .i64 n] w fun e w'=>e= .returned (.tuple #[.slice none 0 0,.bool false,errV 4])∧Below w.heap.size w w':=
 (zC4 v cm n w h hk hN).mono fun e w' ⟨zs',h1,h2,_,hb,hc⟩=>by
  have:=zv8 hk h1 h2
  subst this
  rcases hc with ⟨_,he⟩ | ⟨hx,_⟩
  ·exact ⟨he,hb⟩
  ·omega
theorem zCb {v:Value} {cm:List R} {n:Int} {w:World} (h:Row w v cm) (hk:chk cm=0) (hN:isN n=true) (hl:(addL cm n).length≤12):Calls Tryz.prog 56 #[v,.int .i64 n] w fun e w'=>∃v',e= .returned (.tuple #[v',.bool (!memB cm n),.nilIface])∧w'.ownsRow w.heap.size 129 2 v' (addL cm n).length (flat (addL cm n))∧Below w.heap.size w w':=
 (zC4 v cm n w h hk hN).mono fun e w' ⟨zs',h1,h2,_,hb,hc⟩=>by
  have:=zv8 hk h1 h2
  subst this
  rcases hc with ⟨hx,_⟩ | ⟨_,v',ho,he⟩
  ·omega
  ·exact ⟨v',he,ho,hb⟩
theorem zA8 {e:En} {cm:List R} {vl vc vc':Value} {i:Nat} (h:i<250):zaf {e with cm:=cm} vl vc' i=zaf e vl vc i:=by
 unfold zaf
 simp only [h,if_true]
theorem zop {w:World} {B sb:Nat} (h:Sx.Obj w B sb Sx.newS):w.rangeAt sb 0 (row 121 (zaw Sx.newS)):=fun j v hv=>by
 obtain ⟨hj,rfl⟩:=zmv hv
 rw [Nat.zero_add]
 by_cases h1:j<60
 ·rw [zkk h1];exact h.cb j h1
 ·by_cases h2:j<120
  ·have:=h.cc (j-60) (by omega)
   rw [show 60+(j-60)=j by omega] at this
   rw [this]
   have:=zkc (s:=Sx.newS) (i:=j-60) (by omega)
   rw [show 60+(j-60)=j by omega] at this
   rw [this]
  ·obtain rfl:j=120:=by omega
   exact h.ct
theorem zt8 (n:Int) (w:World):(Instr.build 70 #[(3,.int .i64 n),(5,.int .i64 (-1)),(7,.agg (row 121 (zaw Sx.newS)).toArray),(8,.agg #[.int .i64 n,.int .i64 n,.int .i64 0,.int .i64 0])]).run Tryz.prog w= .ok (.agg (row 251 (zaf (newE n) (.slice none 0 0) (.slice none 0 0))).toArray) w:=by kernel_rfl
theorem step_end {ops:Array Oper} {o:Oper} {a:Act} {w:World} {K:Act→World→Prop} {Q:Exit→Act→World→Prop} {E:Prop} {L:Array Value} {n:Int} {u v:Value} (hgd:o.guard=none) (x y z:Operand) (ho:o.op= .build 70 #[(3,x),(5,.const (.int .i64 (-1))),(7,y),(8,z)]) (hx:a.eval x= .int .i64 n) (hy:a.eval y=u) (hz:a.eval z=v)
  (hb:∀W:World,(Instr.build 70 #[(3,.int .i64 n),(5,.int .i64 (-1)),(7,u),(8,v)]).run Tryz.prog W= .ok (.agg L) W) (h:K (a.put o.dst (.agg L)) w):
  if Region.wanted o (yielded ops a.tmps)=true then Oper.wp Tryz.prog o a w K Q else E:=by
 have hw:Region.wanted o (yielded ops a.tmps)=true:=by simp [Region.wanted,hgd]
 have hc:a.eval (.const (.int .i64 (-1)))= .int .i64 (-1):=rfl
 rw [if_pos hw]
 unfold Oper.wp execOp
 simp only [ho,List.map_toArray,List.map_cons,List.map_nil,hx,hy,hz,hc,Sem.run_bind,hb,Result.andThen_ok,Sem.run_pure]
 exact h
theorem zqs:∃d,Tryz.prog.underlying 65=some d∧d.isRow=true∧(Tryz.prog.info? 65).map (·.size)=some (row 121 (zaw Sx.newS)).length:=by
 have h:(Tryz.prog.underlying 65).map (·.isRow)=some true:=by kernel_rfl
 cases hd:Tryz.prog.underlying 65 with
 | none=>rw [hd] at h;cases h
 | some d=>
  rw [hd] at h
  exact ⟨d,rfl,by simpa using h,by rw [zac];kernel_rfl⟩
theorem zw0 (n:Int) (w:World) (h:Cx.winB n=false):Calls Tryz.prog 23 #[.int .i64 n] w fun ex w'=>ex= .returned (.tuple #[.pointer none,.iface 78 (.int .i64 1)])∧w'=w:=by
 have HN:=Cx.zw0 n w h
 clear h
 go_enter Tryz.func23,Tryz.ntmps23
 go_wp2_with (go_at_call 41;refine HN.mono ?_;rintro ex w1 ⟨rfl,hw1⟩;obtain rfl:=hw1.symm)
 go_ret2
 exact ⟨rfl,rfl⟩
theorem zl2 (n:Int) (w:World) (h:Cx.winB n=true):Calls Tryz.prog 23 #[.int .i64 n] w fun ex w'=>∃eb,ex= .returned (.tuple #[.pointer (some ⟨eb,0,none⟩),.nilIface])∧EO w' w.heap.size eb (.slice none 0 0) (.slice none 0 0) (newE n)∧Below w.heap.size w w':=by
 have HN:=Cx.zl2 n w h
 have HWN:Hid (Cx.winB n=true):=h
 obtain ⟨SD,us,sd,is⟩:=zqs
 have HUS:Hid (Tryz.prog.underlying 65=some SD):=us
 have HSD:Hid (SD.isRow=true):=sd
 have HIS:Hid ((Tryz.prog.info? 65).map (·.size)=some (row 121 (zaw Sx.newS)).length):=is
 obtain ⟨L,hL⟩:∃L,(row 251 (zaf (newE n) (.slice none 0 0) (.slice none 0 0))).toArray=L:=⟨_,rfl⟩
 have HEC:Hid ((row 251 (zaf (newE n) (.slice none 0 0) (.slice none 0 0))).toArray=L):=hL
 have hbe:=fun W=>zt8 n W
 rw [hL] at hbe
 have HBE:Hid (∀W:World,(Instr.build 70 #[(3,.int .i64 n),(5,.int .i64 (-1)),(7,.agg (row 121 (zaw Sx.newS)).toArray),(8,.agg #[.int .i64 n,.int .i64 n,.int .i64 0,.int .i64 0])]).run Tryz.prog W= .ok (.agg L) W):=hbe
 clear h us sd is hL hbe
 go_enter Tryz.func23,Tryz.ntmps23
 go_wp2_with (go_at_call 41;refine HN.mono ?_;rintro ex w1 ⟨rfl,hC1,hb1⟩)
 have d0:w1.drew.cell? ⟨w.heap.size,0,none⟩=some (.int .i64 n):=hC1.four.c0
 have d1:w1.drew.cell? ⟨w.heap.size,1,none⟩=some (.int .i64 n):=hC1.four.c1
 have d2:w1.drew.cell? ⟨w.heap.size,2,none⟩=some (.int .i64 0):=hC1.four.c2
 have d3:w1.drew.cell? ⟨w.heap.size,3,none⟩=some (.int .i64 0):=hC1.four.c3
 have hcbd:w.heap.size<w1.drew.heap.size:=World.block_lt_of_cell? _ _ d0
 obtain ⟨cb,hcb⟩:∃cb,w.heap.size=cb:=⟨_,rfl⟩
 rw [hcb] at d0 d1 d2 d3 hcbd
 clear HN hC1
 rw [hcb]
 refine wp_region_noPanic ?_
 refine wp_region_held_drew (S:=fun w'=>w'.cell? ⟨cb,0,none⟩=some (.int .i64 n)∧w'.cell? ⟨cb,1,none⟩=some (.int .i64 n)∧w'.cell? ⟨cb,2,none⟩=some (.int .i64 0)∧w'.cell? ⟨cb,3,none⟩=some (.int .i64 0)) (by kernel_rfl) ⟨d0,d1,d2,d3⟩ (fun hHeld=> ?_)
 refine wpAnyH_take (i:=0) (oi:= ⟨some 14,.move (.tmp 0),3,"end.go:55",#[],none⟩) (v:=(.int .i64 n)) rfl (by kernel_rfl) (by kernel_rfl) (by kernel_rfl) (fun _ _ _ h=>h) (Or.inl ⟨by rfl,?_⟩) (by assumption) ?_
 ·intro wx hSw
  obtain ⟨s0,s1,s2,s3⟩:=hSw
  go_simp
 try simp only [Act.put,qzA,qzB,qzC]
 refine wpAnyH_take (i:=4) (oi:= ⟨some 18,.move (.tmp 4),91,"end.go:55",#[],none⟩) (v:=(.pointer (some ⟨cb,0,none⟩))) rfl (by kernel_rfl) (by kernel_rfl) (by kernel_rfl) (fun _ _ _ h=>h) (Or.inl ⟨by rfl,?_⟩) (by assumption) ?_
 ·intro wx hSw
  obtain ⟨s0,s1,s2,s3⟩:=hSw
  go_simp
 try simp only [Act.put,qzA,qzB,qzC]
 refine wpAnyH_take (i:=5) (oi:= ⟨some 19,.nilCheck (.tmp 18),0,"end.go:55",#[⟨4,.data⟩],none⟩) (v:=(.pointer (some ⟨cb,0,none⟩))) rfl (by kernel_rfl) (by kernel_rfl) (by kernel_rfl) (fun _ _ _ h=>h) (Or.inl ⟨by rfl,?_⟩) (by assumption) ?_
 ·intro wx hSw
  obtain ⟨s0,s1,s2,s3⟩:=hSw
  go_simp
 try simp only [Act.put,qzA,qzB,qzC]
 refine wpAnyH_take (i:=6) (oi:= ⟨some 20,.load 67 (.tmp 19),67,"end.go:55",#[⟨5,.data⟩],none⟩) (v:=(.agg #[.int .i64 n,.int .i64 n,.int .i64 0,.int .i64 0])) rfl (by kernel_rfl) (by kernel_rfl) (by kernel_rfl) (fun _ _ _ h=>h) (Or.inl ⟨by rfl,?_⟩) (by assumption) ?_
 ·intro wx hSw
  obtain ⟨s0,s1,s2,s3⟩:=hSw
  go_simp
 try simp only [Act.put,qzA,qzB,qzC]
 refine wpAnyH_ready (rs:= [1]) (by kernel_rfl) (by simp) ?_
 refine AllReadyH.cons (o:= ⟨some 15,.call {callee:=.value (.func 42),args:= #[],argTypes:= #[]},94,"end.go:55",#[],none⟩) rfl (fun K hK=> ?_) AllReadyH.nil
 go_simp
 refine (Sx.zgs _).mono ?_
 rintro ex w2 ⟨rfl,hO2,hb2⟩
 have e0:=(hb2.cell (p:=⟨cb,0,none⟩) hcbd).trans hHeld.1
 have e1:=(hb2.cell (p:=⟨cb,1,none⟩) hcbd).trans hHeld.2.1
 have e2:=(hb2.cell (p:=⟨cb,2,none⟩) hcbd).trans hHeld.2.2.1
 have e3:=(hb2.cell (p:=⟨cb,3,none⟩) hcbd).trans hHeld.2.2.2
 refine hK.out _ _ ⟨e0,e1,e2,e3⟩ (fun hHeld=> ?_)
 clear hK K
 try simp only [Act.put,qzA,qzB,qzC]
 refine wpAnyH_take (i:=2) (oi:= ⟨some 16,.nilCheck (.tmp 15),0,"end.go:55",#[⟨1,.data⟩],none⟩) (v:=(.pointer (some ⟨w1.drew.heap.size,0,none⟩))) rfl (by kernel_rfl) (by kernel_rfl) (by kernel_rfl) (fun _ _ _ h=>h) (Or.inl ⟨by rfl,?_⟩) (by assumption) ?_
 ·intro wx hSw
  obtain ⟨s0,s1,s2,s3⟩:=hSw
  go_simp
 try simp only [Act.put,qzA,qzB,qzC]
 refine wpAnyH_ready (rs:= [3]) (by kernel_rfl) (by simp) ?_
 refine AllReadyH.cons (o:= ⟨some 17,.load 65 (.tmp 16),65,"end.go:55",#[⟨2,.data⟩],none⟩) rfl (fun K hK=> ?_) AllReadyH.nil
 rw [if_pos (by rfl)]
 refine wp_load_mid 65 (.tmp 16) rfl w1.drew.heap.size 0 rfl (row 121 (zaw Sx.newS)) SD (zop hO2) HUS.out HSD.out HIS.out ?_
 refine hK.out _ _ hHeld (fun hHeld=> ?_)
 clear hK K
 try simp only [Act.put,qzA,qzB,qzC]
 refine wpAnyH_ready (rs:= [7]) (by kernel_rfl) (by simp) ?_
 refine AllReadyH.cons (o:= ⟨some 21,.build 70 #[(3,.tmp 14),(5,.const (Value.int IntKind.i64 (-1))),(7,.tmp 17),(8,.tmp 20)],70,"end.go:55",#[⟨0,.data⟩,⟨3,.data⟩,⟨6,.data⟩],none⟩) rfl (fun K hK=> ?_) AllReadyH.nil
 refine step_end rfl (.tmp 14) (.tmp 17) (.tmp 20) rfl (by rfl) (by rfl) (by rfl) HBE.out ?_
 refine hK.out _ _ hHeld (fun hHeld=> ?_)
 clear hK K
 try simp only [Act.put,qzA,qzB,qzC]
 refine wpAnyH_ready (rs:= [8]) (by kernel_rfl) (by simp) ?_
 refine AllReadyH.cons (o:= ⟨some 22,.box 70 (.tmp 21),74,"end.go:55",#[⟨7,.data⟩],none⟩) rfl (fun K hK=> ?_) AllReadyH.nil
 go_simp
 refine hK.out _ _ ⟨(World.cell?_alloc_lt _ _ _ (World.block_lt_of_cell? _ _ e0)).trans e0,(World.cell?_alloc_lt _ _ _ (World.block_lt_of_cell? _ _ e1)).trans e1,(World.cell?_alloc_lt _ _ _ (World.block_lt_of_cell? _ _ e2)).trans e2,(World.cell?_alloc_lt _ _ _ (World.block_lt_of_cell? _ _ e3)).trans e3⟩ (fun hHeld=> ?_)
 clear hK K
 try simp only [Act.put,qzA,qzB,qzC]
 refine wpAnyH_take (i:=9) (oi:= ⟨some 2,.assign (.tmp 22),74,"end.go:55",#[⟨8,.data⟩,⟨1,.chain⟩,⟨0,.phase⟩,⟨1,.phase⟩,⟨2,.phase⟩,⟨3,.phase⟩,⟨4,.phase⟩,⟨5,.phase⟩,⟨6,.phase⟩,⟨7,.phase⟩,⟨8,.phase⟩],none⟩) (v:=(.pointer (some ⟨w2.heap.size,0,none⟩))) rfl (by kernel_rfl) (by kernel_rfl) (by kernel_rfl) (fun _ _ _ h=>h) (Or.inl ⟨by rfl,?_⟩) (by assumption) ?_
 ·intro wx hSw
  obtain ⟨s0,s1,s2,s3⟩:=hSw
  go_simp
 try simp only [Act.put,qzA,qzB,qzC]
 refine wpAnyH_take (i:=10) (oi:= ⟨some 3,.assign (.const Value.nilIface),26,"end.go:55",#[⟨9,.chain⟩,⟨0,.phase⟩,⟨1,.phase⟩,⟨2,.phase⟩,⟨3,.phase⟩,⟨4,.phase⟩,⟨5,.phase⟩,⟨6,.phase⟩,⟨7,.phase⟩,⟨8,.phase⟩,⟨9,.phase⟩],none⟩) (v:= .nilIface) rfl (by kernel_rfl) (by kernel_rfl) (by kernel_rfl) (fun _ _ _ h=>h) (Or.inl ⟨by rfl,?_⟩) (by assumption) ?_
 ·intro wx hSw
  obtain ⟨s0,s1,s2,s3⟩:=hSw
  go_simp
 try simp only [Act.put,qzA,qzB,qzC]
 refine wpAnyH_done (by kernel_rfl) (NoPanic.normal ?_) _
 go_wp2_with fail
 go_ret2
 refine ⟨w2.heap.size,rfl,?_,?_⟩
 ·have hle:w.heap.size≤w2.heap.size:=Nat.le_trans hb1.size hb2.size
  have:=EO.new HWN.out w2 hle
  rw [HEC.out] at this
  exact this
 ·have h12:Below w.heap.size w w2:=hb1.trans (⟨hb2.os,hb2.tape,hb2.output,hb2.size,fun k hk=>hb2.block k (Nat.lt_of_lt_of_le hk hb1.size)⟩)
  exact h12.alloc h12.size _
def Duo (w0 wr:World) (xb yb:Nat) (ex ey:En):Prop:=
 ∃xl xc yl yc,EO wr w0.heap.size xb xl xc ex∧EO wr w0.heap.size yb yl yc ey∧(∀k,OwnE xb xl xc k→¬OwnE yb yl yc k)∧Below w0.heap.size w0 wr
section
variable {w0 wr wx : World} {xb yb : Nat} {ex ey : En}
end
end Go.Proofs.YtdnehibcpkjafaaGreatDoor
namespace Go.Proofs.YtdnehibcpkjafaaGreatDoor
open Go.RowKit Go.Lib Go.Sort
theorem zv7 {e:En} {b:ByteArray} {n:Int} {fs:List F} (h1:opF b (zai e)=0) (h2:rdP b (zai e)=some (n,fs)):zbf e b=come e n fs:=by
 unfold zbf
 rw [if_neg (by simpa using h1),h2]
end Go.Proofs.YtdnehibcpkjafaaGreatDoor
