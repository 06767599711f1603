/- What TalkPlays needs. -/
import Derived.Test.YtdnehibcpkjafaaGreatDoorHUB
set_option linter.unusedVariables false
set_option linter.unusedSimpArgs false
set_option maxRecDepth 100000
set_option maxHeartbeats 8000000
namespace Go.Proofs.YtdnehibcpkjafaaGreatDoor
open Go.RowKit Go.Lib Go.Sort
def zeroE:En:=⟨nilB,0,0,0,0,[],Sx.newS,⟨0,0,0,0⟩,[]⟩
def nilV:Tv:=⟨(.slice none 0 0),(.slice none 0 0),(.slice none 0 0),(.slice none 0 0),(.slice none 0 0)⟩
def newK (n:Int) (k:Nat):Tt:=⟨if 0<k then newE n else zeroE,if 1<k then newE n else zeroE,[]⟩
theorem zvu:Tryz.zeroCells73.setIfInBounds 502 (.slice none 0 0)=(row 503 (tcel ⟨zeroE,zeroE,[]⟩ nilV)).toArray:=by kernel_rfl
theorem zij {op:Oper} {a:Act} {w:World} {K:Act→World→Prop} {Q:Exit→Act→World→Prop} {n:Nat} {f:Nat→Value} {ty:TypeId} (x:Operand) (ho:op.op= .load ty x) (b o:Nat) (hx:a.eval x= .pointer (some ⟨b,o,none⟩)) (hc:w.rangeAt b o (row n f)) (hu:(Tryz.prog.underlying ty).map (·.isRow)=some true) (hi:(Tryz.prog.info? ty).map (·.size)=some n) (h:K (a.put op.dst (.agg (row n f).toArray)) w):op.wp Tryz.prog a w K Q:=by
 obtain ⟨d,h1,h2,h3⟩:=zhd ty n hu hi f
 exact wp_load_mid ty x ho b o hx (row n f) d hc h1 h2 h3 h
theorem zg6 {op:Oper} {a:Act} {w W:World} {K:Act→World→Prop} {Q:Exit→Act→World→Prop} {n:Nat} {f:Nat→Value} {ty:TypeId} (x y:Operand) (ho:op.op= .store ty x y) (b o:Nat) (hx:a.eval x= .pointer (some ⟨b,o,none⟩)) (hy:a.eval y= .agg (row n f).toArray) (ht:w.there b o n) (hi:(Tryz.prog.info? ty).map (·.size)=some n) (h1:∀i,(f i).oneCell'=true) (hW:Hid (W=w.setCells b o (row n f))) (h:K (a.put op.dst undef) W):op.wp Tryz.prog a w K Q:=
 wp_store_mid ty x y ho b o (row n f).toArray hx hy (by simpa [zac] using ht) (by simpa [zac] using hi) (row_one fun i _=>h1 i) (by
  have e:w.setCells b o (row n f).toArray.toList=W:=by rw [hW.out]
  rw [e];exact h)
theorem below_setCells {B b:Nat} (hb:B≤b) {w:World}:∀(vs:List Value) (o:Nat) (w':World),Below B w w'→Below B w (w'.setCells b o vs)
 | [],_,_,h=>h
 | v::vs,o,w',h=>below_setCells hb vs (o+1) (w'.setCell ⟨b,o,none⟩ v) (h.setCell (p:=⟨b,o,none⟩) hb v)
structure TNew (w:World) (B tb:Nat) (n:Int) (k:Nat):Prop where
 cl:∀i,i<503→w.cell? ⟨tb,i,none⟩=some (tcel (newK n k) nilV i)
 fz:∀i,w.frozen? ⟨tb,i,none⟩=false
 hs:B≤tb
theorem TNew.lt {w:World} {B tb:Nat} {n:Int} {k:Nat} (h:TNew w B tb n k):tb<w.heap.size:=World.block_lt_of_cell? w _ (h.cl 60 (by omega))
theorem TNew.all {w:World} {B tb:Nat} {n:Int} (hn:Cx.winB n=true) (h:TNew w B tb n 2):TO w B tb nilV (newT n):=
 ⟨EInv.new hn,EInv.new hn,Lk.Inv.start,h.cl,h.fz,h.hs,World.ownsRow_nil _ _ _ _,World.ownsRow_nil _ _ _ _,World.ownsRow_nil _ _ _ _,World.ownsRow_nil _ _ _ _,World.ownsRow_nil _ _ _ _,by simp [nilV,Value.ownBlock],fun k hk=>by simp [nilV,Value.ownBlock],fun k hk=>by simp [nilV,Value.ownBlock]⟩
theorem TNew.start (w:World) {B:Nat} (hB:B≤w.heap.size) (n:Int):TNew (w.alloc (.cells (row 503 (tcel ⟨zeroE,zeroE,[]⟩ nilV)).toArray 73)) B w.heap.size n 0:=
 ⟨fun i hi=>by simp [row,hi];rfl,fun i=>by simp,hB⟩
theorem TNew.step0 {w wr w1:World} {tb eb:Nat} {n:Int} (h:TNew wr w.heap.size tb n 0) (hb:Below w.heap.size w wr) (ho:EO w1 wr.heap.size eb (.slice none 0 0) (.slice none 0 0) (newE n)) (hb1:Below wr.heap.size wr w1):
  ∃W,Hid (W=w1.drew.setCells tb 0 (row 251 (zaf (newE n) (.slice none 0 0) (.slice none 0 0))))∧w1.drew.there tb 0 251∧w1.drew.rangeAt eb 0 (row 251 (zaf (newE n) (.slice none 0 0) (.slice none 0 0)))∧W.rangeAt eb 0 (row 251 (zaf (newE n) (.slice none 0 0) (.slice none 0 0)))∧TNew W w.heap.size tb n 1∧Hid (Below w.heap.size w W):=by
 have h1:∀i,i<503→w1.drew.cell? ⟨tb,i,none⟩=some (tcel (newK n 0) nilV i):=fun i hi=>(hb1.cell (p:=⟨tb,i,none⟩) h.lt).trans (h.cl i hi)
 have f1:∀i,w1.drew.frozen? ⟨tb,i,none⟩=false:=fun i=>(World.frozen?_of_block (hb1.block tb h.lt)).trans (h.fz i)
 have hne:eb≠tb:=by have:=ho.hs;have:=h.lt;omega
 have hth:w1.drew.there tb 0 251:=fun j hj=>⟨by rw [h1 _ (by omega)];rfl,f1 _⟩
 have hrd:w1.drew.rangeAt eb 0 (row 251 (zaf (newE n) (.slice none 0 0) (.slice none 0 0))):=zb2 fun i hi=>by rw [Nat.zero_add];exact ho.cl i hi
 have hBw:Below w.heap.size w w1.drew:=(hb.trans (hb1.mono hb.size)).drew
 have hBW:Below w.heap.size w (w1.drew.setCells tb 0 (row 251 (zaf (newE n) (.slice none 0 0) (.slice none 0 0)))):=below_setCells (by exact h.hs) _ _ _ hBw
 refine ⟨_,rfl,hth,hrd,World.rangeAt_setCells_apart hrd _ _ _ (.inl hne),⟨fun i hi=> ?_,fun i=>by rw [World.frozen?_setCells];exact f1 i,h.hs⟩,hBW⟩
 by_cases g:0≤i∧i<251
 ·obtain ⟨j,hj⟩:∃j,i=0+j:=⟨i-0,by omega⟩
  have:=zbp (World.rangeAt_setCells_same w1.drew tb 0 (row 251 (zaf (newE n) (.slice none 0 0) (.slice none 0 0))) (by rw [zac];exact hth)) (i:=j) (by omega)
  rw [hj,this]
  refine congrArg some ?_
  rw [Nat.zero_add,zva (by omega)];rfl
 ·rw [World.cell?_setCells_out tb _ 0 _ _ (fun _ _=>by rw [zac];show i<0∨0+251≤i;omega),h1 i hi]
  refine congrArg some ?_
  unfold tcel
  simp only [if_neg (show¬i<251 by omega)];rfl
theorem TNew.step1 {w wr w1:World} {tb eb:Nat} {n:Int} (h:TNew wr w.heap.size tb n 1) (hb:Below w.heap.size w wr) (ho:EO w1 wr.heap.size eb (.slice none 0 0) (.slice none 0 0) (newE n)) (hb1:Below wr.heap.size wr w1):
  ∃W,Hid (W=w1.drew.setCells tb 251 (row 251 (zaf (newE n) (.slice none 0 0) (.slice none 0 0))))∧w1.drew.there tb 251 251∧w1.drew.rangeAt eb 0 (row 251 (zaf (newE n) (.slice none 0 0) (.slice none 0 0)))∧W.rangeAt eb 0 (row 251 (zaf (newE n) (.slice none 0 0) (.slice none 0 0)))∧TNew W w.heap.size tb n 2∧Hid (Below w.heap.size w W):=by
 have h1:∀i,i<503→w1.drew.cell? ⟨tb,i,none⟩=some (tcel (newK n 1) nilV i):=fun i hi=>(hb1.cell (p:=⟨tb,i,none⟩) h.lt).trans (h.cl i hi)
 have f1:∀i,w1.drew.frozen? ⟨tb,i,none⟩=false:=fun i=>(World.frozen?_of_block (hb1.block tb h.lt)).trans (h.fz i)
 have hne:eb≠tb:=by have:=ho.hs;have:=h.lt;omega
 have hth:w1.drew.there tb 251 251:=fun j hj=>⟨by rw [h1 _ (by omega)];rfl,f1 _⟩
 have hrd:w1.drew.rangeAt eb 0 (row 251 (zaf (newE n) (.slice none 0 0) (.slice none 0 0))):=zb2 fun i hi=>by rw [Nat.zero_add];exact ho.cl i hi
 have hBw:Below w.heap.size w w1.drew:=(hb.trans (hb1.mono hb.size)).drew
 have hBW:Below w.heap.size w (w1.drew.setCells tb 251 (row 251 (zaf (newE n) (.slice none 0 0) (.slice none 0 0)))):=below_setCells (by exact h.hs) _ _ _ hBw
 refine ⟨_,rfl,hth,hrd,World.rangeAt_setCells_apart hrd _ _ _ (.inl hne),⟨fun i hi=> ?_,fun i=>by rw [World.frozen?_setCells];exact f1 i,h.hs⟩,hBW⟩
 by_cases g:251≤i∧i<502
 ·obtain ⟨j,hj⟩:∃j,i=251+j:=⟨i-251,by omega⟩
  have:=zbp (World.rangeAt_setCells_same w1.drew tb 251 (row 251 (zaf (newE n) (.slice none 0 0) (.slice none 0 0))) (by rw [zac];exact hth)) (i:=j) (by omega)
  rw [hj,this]
  refine congrArg some ?_
  rw [zwz (by omega) (by omega),show 251+j-251=j by omega];rfl
 ·rw [World.cell?_setCells_out tb _ 251 _ _ (fun _ _=>by rw [zac];show i<251∨251+251≤i;omega),h1 i hi]
  refine congrArg some ?_
  unfold tcel
  by_cases g1:i<251
  ·rw [if_pos g1,if_pos g1];rfl
  ·rw [if_neg g1,if_neg g1,if_neg (by omega),if_neg (by omega)]
theorem zEr (n:Int) (w:World) (hn:Cx.winB n=false):Calls Tryz.prog 6 #[.int .i64 n] w fun ex w'=>ex= .returned (.tuple #[.pointer none,.iface 78 (.int .i64 1)])∧Below w.heap.size w w':=by
 have HB:Hid (Below w.heap.size w ((w.alloc (.cells #[.slice none 0 0] 57)).alloc (.cells (Tryz.zeroCells73.setIfInBounds 502 (.slice none 0 0)) 73))):=((Below.refl _ _).alloc (Nat.le_refl _) _).alloc (by simp) _
 have HN:Hid (Cx.winB n=false):=hn
 clear hn
 go_enter Tryz.func6,Tryz.ntmps6
 go_wp2_with (go_at_call 22;refine (Lk.zgs w).mono ?_;rintro ex w1 ⟨rfl,hw1⟩;subst hw1)
 go_loopg [13] 2 (fun gk s13 wr=>gk=2∧s13= .int .i64 0∧Hid (Below w.heap.size w wr))
 case atStart=>exact ⟨rfl,rfl,HB⟩
 case round=>
  obtain ⟨rfl,rfl,HB2⟩:=hrel
  clear HB
  go_wp2_with (go_at_call 23;refine (zw0 n wr HN.out).mono ?_;rintro ex w1 ⟨rfl,hw1⟩;obtain rfl:=hw1.symm)
  go_ret2
  exact ⟨rfl,HB2.out⟩
theorem zBw (n:Int) (w:World) (hn:Cx.winB n=true):Calls Tryz.prog 6 #[.int .i64 n] w fun ex w'=>∃tb,ex= .returned (.tuple #[.pointer (some ⟨tb,0,none⟩),.nilIface])∧TO w' w.heap.size tb nilV (newT n)∧Below w.heap.size w w':=by
 have hst:TNew ((w.alloc (.cells #[.slice none 0 0] 57)).alloc (.cells (row 503 (tcel ⟨zeroE,zeroE,[]⟩ nilV)).toArray 73)) w.heap.size (w.alloc (.cells #[.slice none 0 0] 57)).heap.size n 0:=TNew.start _ (by simp) n
 rw [World.size_alloc,←zvu] at hst
 have HST:Hid (TNew ((w.alloc (.cells #[.slice none 0 0] 57)).alloc (.cells (Tryz.zeroCells73.setIfInBounds 502 (.slice none 0 0)) 73)) w.heap.size (w.heap.size+1) n 0):=hst
 have HB0:Hid (Below w.heap.size w ((w.alloc (.cells #[.slice none 0 0] 57)).alloc (.cells (Tryz.zeroCells73.setIfInBounds 502 (.slice none 0 0)) 73))):=((Below.refl _ _).alloc (Nat.le_refl _) _).alloc (by simp) _
 have HN:Hid (Cx.winB n=true):=hn
 have HON:Hid (∀i,(zaf (newE n) (.slice none 0 0) (.slice none 0 0) i).oneCell'=true):=fun i=>zg4 rfl rfl i
 clear hn hst
 go_enter Tryz.func6,Tryz.ntmps6
 go_wp2_with (go_at_call 22;refine (Lk.zgs w).mono ?_;rintro ex w1 ⟨rfl,hw1⟩;subst hw1)
 generalize (w.alloc (.cells #[.slice none 0 0] 57)).alloc (.cells (Tryz.zeroCells73.setIfInBounds 502 (.slice none 0 0)) 73)=W0 at HST HB0 ⊢
 generalize w.heap.size+1=tb at HST ⊢
 go_loopg [13] 2 (fun gk s13 wr=>∃k:Nat,gk+k=2∧s13= .int .i64 (k:Int)∧TNew wr w.heap.size tb n k∧Hid (Below w.heap.size w wr))
 case atStart=>exact ⟨0,rfl,rfl,HST.out,HB0⟩
 case round=>
  obtain ⟨k,hk,rfl,hT,HB⟩:=hrel
  clear HST HB0
  obtain rfl | rfl | rfl:k=0∨k=1∨k=2:=by omega
  ·have g:(((0:Nat):Int))<2:=by omega
   go_wp2_with (go_at_call 23;refine (zl2 n wr HN.out).mono ?_;rintro ex w1 ⟨eb,rfl,ho1,hb1⟩)
   obtain ⟨W,HW,hth,hrd,hkp,hT2,hB2⟩:=TNew.step0 hT HB.out ho1 hb1
   go_wp2_with fail
   refine wp_region_noPanic ?_
   refine wp_region_held_drew (S:=fun X=>X.rangeAt eb 0 (row 251 (zaf (newE n) (.slice none 0 0) (.slice none 0 0)))) (by kernel_rfl) hrd (fun hHeld=> ?_)
   refine wpAnyH_take (i:=0) (oi:= ⟨some 24,.move (.tmp 4),24,"talk.go:26",#[],none⟩) (v:=(.pointer (some ⟨tb,0,none⟩))) rfl (by kernel_rfl) (by kernel_rfl) (by kernel_rfl) (fun _ _ _ h=>h) (Or.inl ⟨by rfl,?_⟩) (by assumption) ?_
   ·intro wx hSw
    clear hSw
    go_simp
   try simp only [Act.put,qzA,qzB,qzC]
   refine wpAnyH_take (i:=1) (oi:= ⟨some 25,.move (.tmp 5),3,"talk.go:26",#[],none⟩) (v:=(.int .i64 0)) rfl (by kernel_rfl) (by kernel_rfl) (by kernel_rfl) (fun _ _ _ h=>h) (Or.inl ⟨by rfl,?_⟩) (by assumption) ?_
   ·intro wx hSw
    clear hSw
    go_simp
   try simp only [Act.put,qzA,qzB,qzC]
   refine wpAnyH_take (i:=2) (oi:= ⟨some 26,.move (.tmp 6),74,"talk.go:26",#[],none⟩) (v:=(.pointer (some ⟨eb,0,none⟩))) rfl (by kernel_rfl) (by kernel_rfl) (by kernel_rfl) (fun _ _ _ h=>h) (Or.inl ⟨by rfl,?_⟩) (by assumption) ?_
   ·intro wx hSw
    clear hSw
    go_simp
   try simp only [Act.put,qzA,qzB,qzC]
   refine wpAnyH_take (i:=3) (oi:= ⟨some 27,.nilCheck (.tmp 26),0,"talk.go:26",#[⟨2,.data⟩],none⟩) (v:=(.pointer (some ⟨eb,0,none⟩))) rfl (by kernel_rfl) (by kernel_rfl) (by kernel_rfl) (fun _ _ _ h=>h) (Or.inl ⟨by rfl,?_⟩) (by assumption) ?_
   ·intro wx hSw
    clear hSw
    go_simp
   try simp only [Act.put,qzA,qzB,qzC]
   refine wpAnyH_take (i:=5) (oi:= ⟨some 29,.nilCheck (.tmp 24),0,"talk.go:26",#[⟨0,.data⟩],none⟩) (v:=(.pointer (some ⟨tb,0,none⟩))) rfl (by kernel_rfl) (by kernel_rfl) (by kernel_rfl) (fun _ _ _ h=>h) (Or.inl ⟨by rfl,?_⟩) (by assumption) ?_
   ·intro wx hSw
    clear hSw
    go_simp
   try simp only [Act.put,qzA,qzB,qzC]
   refine wpAnyH_take (i:=6) (oi:= ⟨some 30,.fieldAddr 73 (.tmp 29) 0,0,"talk.go:26",#[⟨5,.data⟩],none⟩) (v:=(.pointer (some ⟨tb,0,none⟩))) rfl (by kernel_rfl) (by kernel_rfl) (by kernel_rfl) (fun _ _ _ h=>h) (Or.inl ⟨by rfl,?_⟩) (by assumption) ?_
   ·intro wx hSw
    clear hSw
    go_simp
   try simp only [Act.put,qzA,qzB,qzC]
   refine wpAnyH_ready (rs:= [4]) (by kernel_rfl) (by simp) ?_
   refine AllReadyH.cons (o:= ⟨some 28,.load 70 (.tmp 27),70,"talk.go:26",#[⟨3,.data⟩],none⟩) rfl (fun K hK=> ?_) AllReadyH.nil
   rw [if_pos (by rfl)]
   refine zij (n:=251) (f:=zaf (newE n) (.slice none 0 0) (.slice none 0 0)) (ty:=70) (.tmp 27) rfl eb 0 rfl hHeld (by kernel_rfl) (by kernel_rfl) ?_
   refine hK.out _ _ hHeld (fun hHeld=> ?_)
   clear hK K
   try simp only [Act.put,qzA,qzB,qzC]
   refine wpAnyH_take (i:=7) (oi:= ⟨some 31,.indexAddr 71 (.tmp 30) (.tmp 25),0,"talk.go:26",#[⟨6,.data⟩,⟨1,.data⟩,⟨0,.phase⟩,⟨1,.phase⟩,⟨2,.phase⟩,⟨3,.phase⟩,⟨4,.phase⟩],none⟩) (v:=(.pointer (some ⟨tb,0,none⟩))) rfl (by kernel_rfl) (by kernel_rfl) (by kernel_rfl) (fun _ _ _ h=>h) (Or.inl ⟨by rfl,?_⟩) (by assumption) ?_
   ·intro wx hSw
    clear hSw
    go_simp
   try simp only [Act.put,qzA,qzB,qzC]
   refine wpAnyH_ready (rs:= [8]) (by kernel_rfl) (by simp) ?_
   refine AllReadyH.cons (o:= ⟨none,.store 70 (.tmp 31) (.tmp 28),0,"talk.go:26",#[⟨7,.data⟩,⟨4,.data⟩,⟨0,.phase⟩,⟨1,.phase⟩,⟨2,.phase⟩,⟨3,.phase⟩,⟨4,.phase⟩],none⟩) rfl (fun K hK=> ?_) AllReadyH.nil
   rw [if_pos (by rfl)]
   refine zg6 (n:=251) (f:=zaf (newE n) (.slice none 0 0) (.slice none 0 0)) (ty:=70) (.tmp 31) (.tmp 28) rfl tb 0 rfl rfl hth (by kernel_rfl) HON.out HW ?_
   refine hK.out _ _ hkp (fun hHeld=> ?_)
   clear hK K hHeld
   try simp only [Act.put,qzA,qzB,qzC]
   refine wpAnyH_done (by kernel_rfl) (NoPanic.normal ?_) _
   go_wp2_with fail
   go_roundg 1
   case measure=>omega
   case rel=>exact ⟨1,by omega,rfl,hT2,hB2⟩
  ·have g:(((1:Nat):Int))<2:=by omega
   go_wp2_with (go_at_call 23;refine (zl2 n wr HN.out).mono ?_;rintro ex w1 ⟨eb,rfl,ho1,hb1⟩)
   obtain ⟨W,HW,hth,hrd,hkp,hT2,hB2⟩:=TNew.step1 hT HB.out ho1 hb1
   go_wp2_with fail
   refine wp_region_noPanic ?_
   refine wp_region_held_drew (S:=fun X=>X.rangeAt eb 0 (row 251 (zaf (newE n) (.slice none 0 0) (.slice none 0 0)))) (by kernel_rfl) hrd (fun hHeld=> ?_)
   refine wpAnyH_take (i:=0) (oi:= ⟨some 24,.move (.tmp 4),24,"talk.go:26",#[],none⟩) (v:=(.pointer (some ⟨tb,0,none⟩))) rfl (by kernel_rfl) (by kernel_rfl) (by kernel_rfl) (fun _ _ _ h=>h) (Or.inl ⟨by rfl,?_⟩) (by assumption) ?_
   ·intro wx hSw
    clear hSw
    go_simp
   try simp only [Act.put,qzA,qzB,qzC]
   refine wpAnyH_take (i:=1) (oi:= ⟨some 25,.move (.tmp 5),3,"talk.go:26",#[],none⟩) (v:=(.int .i64 1)) rfl (by kernel_rfl) (by kernel_rfl) (by kernel_rfl) (fun _ _ _ h=>h) (Or.inl ⟨by rfl,?_⟩) (by assumption) ?_
   ·intro wx hSw
    clear hSw
    go_simp
   try simp only [Act.put,qzA,qzB,qzC]
   refine wpAnyH_take (i:=2) (oi:= ⟨some 26,.move (.tmp 6),74,"talk.go:26",#[],none⟩) (v:=(.pointer (some ⟨eb,0,none⟩))) rfl (by kernel_rfl) (by kernel_rfl) (by kernel_rfl) (fun _ _ _ h=>h) (Or.inl ⟨by rfl,?_⟩) (by assumption) ?_
   ·intro wx hSw
    clear hSw
    go_simp
   try simp only [Act.put,qzA,qzB,qzC]
   refine wpAnyH_take (i:=3) (oi:= ⟨some 27,.nilCheck (.tmp 26),0,"talk.go:26",#[⟨2,.data⟩],none⟩) (v:=(.pointer (some ⟨eb,0,none⟩))) rfl (by kernel_rfl) (by kernel_rfl) (by kernel_rfl) (fun _ _ _ h=>h) (Or.inl ⟨by rfl,?_⟩) (by assumption) ?_
   ·intro wx hSw
    clear hSw
    go_simp
   try simp only [Act.put,qzA,qzB,qzC]
   refine wpAnyH_take (i:=5) (oi:= ⟨some 29,.nilCheck (.tmp 24),0,"talk.go:26",#[⟨0,.data⟩],none⟩) (v:=(.pointer (some ⟨tb,0,none⟩))) rfl (by kernel_rfl) (by kernel_rfl) (by kernel_rfl) (fun _ _ _ h=>h) (Or.inl ⟨by rfl,?_⟩) (by assumption) ?_
   ·intro wx hSw
    clear hSw
    go_simp
   try simp only [Act.put,qzA,qzB,qzC]
   refine wpAnyH_take (i:=6) (oi:= ⟨some 30,.fieldAddr 73 (.tmp 29) 0,0,"talk.go:26",#[⟨5,.data⟩],none⟩) (v:=(.pointer (some ⟨tb,0,none⟩))) rfl (by kernel_rfl) (by kernel_rfl) (by kernel_rfl) (fun _ _ _ h=>h) (Or.inl ⟨by rfl,?_⟩) (by assumption) ?_
   ·intro wx hSw
    clear hSw
    go_simp
   try simp only [Act.put,qzA,qzB,qzC]
   refine wpAnyH_ready (rs:= [4]) (by kernel_rfl) (by simp) ?_
   refine AllReadyH.cons (o:= ⟨some 28,.load 70 (.tmp 27),70,"talk.go:26",#[⟨3,.data⟩],none⟩) rfl (fun K hK=> ?_) AllReadyH.nil
   rw [if_pos (by rfl)]
   refine zij (n:=251) (f:=zaf (newE n) (.slice none 0 0) (.slice none 0 0)) (ty:=70) (.tmp 27) rfl eb 0 rfl hHeld (by kernel_rfl) (by kernel_rfl) ?_
   refine hK.out _ _ hHeld (fun hHeld=> ?_)
   clear hK K
   try simp only [Act.put,qzA,qzB,qzC]
   refine wpAnyH_take (i:=7) (oi:= ⟨some 31,.indexAddr 71 (.tmp 30) (.tmp 25),0,"talk.go:26",#[⟨6,.data⟩,⟨1,.data⟩,⟨0,.phase⟩,⟨1,.phase⟩,⟨2,.phase⟩,⟨3,.phase⟩,⟨4,.phase⟩],none⟩) (v:=(.pointer (some ⟨tb,251,none⟩))) rfl (by kernel_rfl) (by kernel_rfl) (by kernel_rfl) (fun _ _ _ h=>h) (Or.inl ⟨by rfl,?_⟩) (by assumption) ?_
   ·intro wx hSw
    clear hSw
    go_simp
   try simp only [Act.put,qzA,qzB,qzC]
   refine wpAnyH_ready (rs:= [8]) (by kernel_rfl) (by simp) ?_
   refine AllReadyH.cons (o:= ⟨none,.store 70 (.tmp 31) (.tmp 28),0,"talk.go:26",#[⟨7,.data⟩,⟨4,.data⟩,⟨0,.phase⟩,⟨1,.phase⟩,⟨2,.phase⟩,⟨3,.phase⟩,⟨4,.phase⟩],none⟩) rfl (fun K hK=> ?_) AllReadyH.nil
   rw [if_pos (by rfl)]
   refine zg6 (n:=251) (f:=zaf (newE n) (.slice none 0 0) (.slice none 0 0)) (ty:=70) (.tmp 31) (.tmp 28) rfl tb 251 rfl rfl hth (by kernel_rfl) HON.out HW ?_
   refine hK.out _ _ hkp (fun hHeld=> ?_)
   clear hK K hHeld
   try simp only [Act.put,qzA,qzB,qzC]
   refine wpAnyH_done (by kernel_rfl) (NoPanic.normal ?_) _
   go_wp2_with fail
   go_roundg 0
   case measure=>omega
   case rel=>exact ⟨2,by omega,rfl,hT2,hB2⟩
  ·have g:¬(((2:Nat):Int))<2:=by omega
   go_wp2_with fail
   go_ret2
   exact ⟨tb,rfl,TNew.all HN.out hT,HB.out⟩
end Go.Proofs.YtdnehibcpkjafaaGreatDoor
