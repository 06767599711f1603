/- What TalkPlays needs. -/
import Derived.Test.YtdnehibcpkjafaaGreatDoorHDA
import Derived.Test.YtdnehibcpkjafaaGreatDoorHDV
set_option linter.unusedVariables false
set_option linter.unusedSimpArgs false
set_option maxRecDepth 100000
set_option maxHeartbeats 8000000
namespace Go.Proofs.YtdnehibcpkjafaaGreatDoor
open Go.RowKit Go.Lib Go.Sort
theorem zl4 {w:World} {B e size n:Nat} {v:Value} {xs:List Value} (h:w.ownsRow B e size v n xs) (h0:0<n):∃g cap,v= .slice (some ⟨g,0,none⟩) n cap:=by
 rcases h.2 with ⟨_,e⟩ | ⟨g,cap,cur,e,_⟩
 ·omega
 ·exact ⟨g,cap,e⟩
theorem zzb {l:List Pc} {j:Nat} {p:Pc} (h:l[j]? =some p):(zbi l)[j*2]? =some (.int .i64 (p.1:Int))∧(zbi l)[j*2+1]? =some (.string p.2):=by
 obtain ⟨hj,rfl⟩:=List.getElem?_eq_some_iff.1 h
 exact zc5 l j hj
def zen (t i:Nat):Value:= .bool (decide (i<t))
structure TBox (w:World) (T t:Nat):Prop where
 cl:∀i,i<60→w.cell? ⟨T,i,none⟩=some (zen t i)
 fz:∀i,w.frozen? ⟨T,i,none⟩=false
section
variable {w w' : World} {T t : Nat}
theorem TBox.lt (h:TBox w T t):T<w.heap.size:=World.block_lt_of_cell? w _ (h.cl 0 (by omega))
theorem TBox.off {K:Nat→Prop} (h:TBox w T t) (ho:Off K w w') (hK:¬K T):TBox w' T t:=⟨fun i hi=>ho.cell (h.cl i hi) hK,fun i=>(ho.frozen (p:=⟨T,i,none⟩) h.lt hK).trans (h.fz i)⟩
theorem TBox.below (h:TBox w T t) (hb:Below w.heap.size w w'):TBox w' T t:=h.off (Off.of_below (K:=fun _=>False) hb) id
theorem TBox.range (h:TBox w T t):w.rangeAt T 0 (row 60 (zen t)):=zb2 fun i hi=>by rw [Nat.zero_add];exact h.cl i hi
theorem TBox.mark {p:Nat} (h:TBox w T t) (hp:p≤t) (h6:p<60):TBox (w.setCell ⟨T,p,none⟩ (.bool true)) T (max t (p+1)):=by
 refine ⟨fun i hi=> ?_,fun i=>by simpa using h.fz i⟩
 by_cases e:i=p
 ·subst e
  rw [World.cell?_setCell_same _ _ _ (h.cl i hi)]
  simp only [zen]
  congr 2
  exact (decide_eq_true (by omega)).symm
 ·rw [World.cell?_setCell_other _ _ _ _ (fun e2=>by injection e2 with _ e2 _;exact e e2.symm),h.cl i hi]
  simp only [zen]
  congr 2
  exact decide_eq_decide.2 (by omega)
theorem zmd (h:w.rangeAt T 0 (row 60 (zen t))) (hf:∀i,w.frozen? ⟨T,i,none⟩=false):TBox w T t:=⟨fun i hi=>by have:=zbp h hi;rwa [Nat.zero_add] at this,hf⟩
end
theorem zot (t i:Nat):(zen t i).oneCell'=true:=rfl
def zfc (s:Sx.St) (i:Nat):Value:=if i<60 then .int .i64 (Sx.val s i) else .int .i64 s.tk
theorem zni (s:Sx.St) (i:Nat):(zfc s i).oneCell'=true:=by unfold zfc;split<;>rfl
theorem zke {w:World} {B sb:Nat} {s:Sx.St} (h:Sx.Ref w B sb s):w.rangeAt sb 0 (row 61 (zfc s)):=zb2 fun i hi=>by
 rw [Nat.zero_add]
 unfold zfc
 by_cases e:i<60
 ·rw [if_pos e];exact h.cb i e
 ·rw [if_neg e]
  obtain rfl:i=60:=by omega
  exact h.ct
theorem zib {w:World} {B rb:Nat} {s:Sx.St} (hi:Sx.Inv s) (h:w.rangeAt rb 0 (row 61 (zfc s))) (hf:∀i,i<61→w.frozen? ⟨rb,i,none⟩=false) (hb:B≤rb):Sx.Ref w B rb s:=by
 have g:∀i,i<61→w.cell? ⟨rb,i,none⟩=some (zfc s i):=fun i hi=>by have:=zbp h hi;rwa [Nat.zero_add] at this
 exact ⟨hi,fun i hi=>by have:=g i (by omega);unfold zfc at this;rwa [if_pos hi] at this,g 60 (by omega),hf,hb⟩
theorem zw2 {w:World} {B sb:Nat} {s:Sx.St} (h:Sx.Ref w B sb s):w.there sb 0 61:=fun j hj=>by
 have:=zbp (zke h) hj
 exact ⟨by rw [this];rfl,by rw [Nat.zero_add];exact h.fz j hj⟩
theorem zty {w:World} {B cb:Nat} {c:Cx.St} (h:Cx.Obj w B cb c):w.there cb 0 4:=fun j hj=>by
 have:=zbp (zdn h) hj
 refine ⟨by rw [this];rfl,?_⟩
 rw [Nat.zero_add]
 match j,hj with
 | 0,_=>exact h.four.f0
 | 1,_=>exact h.four.f1
 | 2,_=>exact h.four.f2
 | 3,_=>exact h.four.f3
section
variable {w : World} {B eb sb cb : Nat} {vm vc : Value} {us : List Value} {md : List (List Pc)} {e : En}
theorem DO.told_range (h:DO w B eb vm vc sb cb us md e):w.rangeAt eb 1 (row 60 (zen e.t)):=zb2 fun i hi=>by rw [h.cl (1+i) (by omega),zqp hi];rfl
end
theorem zy9 (W:World):(zeroValue 61).run Tryz.prog W= .ok (.agg (row 60 (zen 0)).toArray) W:=by kernel_rfl
def s0:Sx.St:=⟨fun _=>0,fun _=>true,0⟩
theorem zoz (W:World):(zeroValue 127).run Tryz.prog W= .ok (.agg (row 61 (zfc s0)).toArray) W:=by kernel_rfl
theorem zm9 (W:World):(zeroValue 124).run Tryz.prog W= .ok (.agg (row 4 (zaz ⟨0,0,0,0⟩)).toArray) W:=by kernel_rfl
theorem zmg (w:World) (n:Nat) (f g:Nat→Value) (ty:TypeId):∃W,Hid (W=(w.alloc (.cells (row n g).toArray ty)).setCells w.heap.size 0 (row n f))∧(w.alloc (.cells (row n g).toArray ty)).there w.heap.size 0 n∧W.rangeAt w.heap.size 0 (row n f)∧(∀i,W.frozen? ⟨w.heap.size,i,none⟩=false)∧Below w.heap.size w W∧w.heap.size<W.heap.size:=by
 have hth:=zdb w ty n g
 have oW:Off (fun k=>k=w.heap.size) w ((w.alloc (.cells (row n g).toArray ty)).setCells w.heap.size 0 (row n f)):=((Off.refl (fun k=>k=w.heap.size) w).alloc _).trans (zcd _ _ _ _)
 refine ⟨_,rfl,hth,World.rangeAt_setCells_same _ _ _ _ (by rw [zac];exact hth),fun i=>by rw [World.frozen?_setCells];exact zj0 w _ _ i,oW.below (fun k hk=>by rw [hk];exact Nat.le_refl _) (Nat.le_refl _),?_⟩
 have:=(zcd w.heap.size (row n f) 0 (w.alloc (.cells (row n g).toArray ty))).size
 rw [World.size_alloc] at this
 omega
structure DT (W wr:World) (B T S C:Nat) (e:En):Prop where
 tb:TBox wr T e.t
 st:Sx.Ref wr B S e.s
 cr:Cx.Obj wr B C e.c
 off:Off (fun k=>k=T∨k=S∨k=C) W wr
 ne:T≠S∧T≠C∧S≠C
section
variable {W wr wx : World} {B T S C : Nat} {e : En}
theorem DT.below (h:DT W wr B T S C e) (hb:Below wr.heap.size wr wx):DT W wx B T S C e:=⟨h.tb.below hb,h.st.below hb,h.cr.below hb,h.off.trans (Off.of_below hb),h.ne⟩
theorem DT.told {t:Nat} (h:DT W wr B T S C e) (ht:TBox wx T t) (ho:Off (fun k=>k=T) wr wx):DT W wx B T S C {e with t:=t}:=
 ⟨ht,h.st.off ho (fun e=>h.ne.1 e.symm),h.cr.off ho (fun e=>h.ne.2.1 e.symm),h.off.trans (ho.mono fun k _ hk=> .inl hk),h.ne⟩
end
def fend (l:List Pc):Nat:=match l.getLast? with
 | none=>0
 | some p=>p.1+p.2.size
theorem zri {d:ByteArray} {a b:Nat} (hb:b≤d.size) (h:a<b∨(a=0∧b=0)) (h6:b≤60):fend (pcs d b 3 a)=b:=by
 by_cases hab:a<b
 ·have hall:=zpt (d:=d) (b:=b) 3 a (by omega) (by omega)
  have hne:(pcs d b 3 a).length≠0:=fun e=>by rw [e] at hall;omega
  unfold fend
  rw [List.getLast?_eq_getElem?]
  obtain ⟨p,hp⟩:∃p,(pcs d b 3 a)[(pcs d b 3 a).length-1]? =some p:=⟨_,List.getElem?_eq_getElem (by omega)⟩
  rw [hp]
  have:=zqx hb 3 a _ p hp
  simp only
  rw [this.2,show (pcs d b 3 a).length-1+1=(pcs d b 3 a).length by omega,hall]
 ·obtain ⟨rfl,rfl⟩:a=0∧b=0:=by omega
  simp [pcs,fend]
theorem zC0 {d:ByteArray} {b:Nat}:∀(k a j:Nat) (p:Pc),(pcs d b k a)[j]? =some p→p.1<b
 | 0,a,j,p,h=>by simp [pcs] at h
 | k+1,a,j,p,h=>by
  by_cases hab:a<b
  ·have e:pcs d b (k+1) a=(a,d.extract a (min b (a+20)))::pcs d b k (min b (a+20)):=by simp only [pcs];rw [if_pos hab]
   rw [e] at h
   cases j with
   | zero=>
    rw [List.getElem?_cons_zero] at h
    injection h with h
    subst h
    exact hab
   | succ j=>
    rw [List.getElem?_cons_succ] at h
    exact zC0 k _ j p h
  ·simp only [pcs] at h
   rw [if_neg hab] at h
   simp at h
theorem zs4 {ls:List Ld} {t:Nat} {rs:List R} {k:Nat} (h:k<rs.length):tells ls t (rs.take (k+1))=zcu ls (tells ls t (rs.take k)) (at' rs k):=by
 have e:rs.take (k+1)=rs.take k++ [at' rs k]:=by
  rw [List.take_succ_eq_append_getElem h]
  simp [at',h]
 rw [e]
 simp [tells,List.foldl_append]
theorem zHs {rs:List R} (hg:Good rs) {lo0 hi0:Int} (h0:at' rs 0=(lo0,hi0)) {k m:Nat} (hk:k<rs.length) (hm:hi0<(m:Int)):∃ln hn:Nat,at' rs k=((ln:Int),(hn:Int))∧ln≤hn∧hn<m:=by
 obtain ⟨h1,h2,h3⟩:=hg
 have hmem:at' rs k∈rs:=by
  have:rs[k]? =some (at' rs k):=by simp [at',hk]
  exact List.mem_of_getElem? this
 have hb:=h2 _ hmem
 have hle:=zb8 h3 _ hmem
 have htop:(at' rs k).2≤hi0:=by
  match rs,h0,h3,hmem with
  | r::rr,h0,h3,hmem=>
   have e:r=(lo0,hi0):=by simpa [at'] using h0
   subst e
   rcases List.mem_cons.1 hmem with e1 | e1
   ·rw [e1];exact Int.le_refl _
   ·have a:=h3.2.1 _ e1
    have c:=h3.1
    simp only at a c
    omega
 obtain ⟨x,y,hxy⟩:∃x y,at' rs k=(x,y):=⟨_,_,rfl⟩
 rw [hxy] at hb hle htop ⊢
 simp only at hb hle htop
 exact ⟨x.toNat,y.toNat,by simp only [Prod.mk.injEq];omega,by omega,by omega⟩
def zly (t a b j:Nat):Nat:=max t (min b (a+20*j))
theorem zF2 {t a b:Nat} (h:a≤t):zly t a b 0=t:=by unfold zly;omega
section
variable {w : World} {B eb sb cb : Nat} {vm vc : Value} {us : List Value} {md : List (List Pc)} {e : En}
theorem DO.load (h:DO w B eb vm vc sb cb us md e) {m:Nat} (hm:m<e.m):∃a b,pat md m=pcs e.d b 3 a∧(a<b∨(a=0∧b=0))∧a≤e.t∧b≤en e∧fend (pat md m)=b∧min b (a+20*(pat md m).length)=b:=by
 obtain ⟨x,hx,h1,h2⟩:=h.mds.all m hm
 obtain ⟨_,i2,i3,i4⟩:=h.inv.ls x hx
 have he:=h.mds.each x hx m h1 h2
 have hd:=zge e
 have h60:=h.inv.en60
 refine ⟨x.a,x.b,he,i2,i3,i4,?_,?_⟩
 ·rw [he];exact zri (by omega) i2 (by omega)
 ·rw [he];exact zpt 3 x.a (by omega) (by omega)
theorem DO.tellM (h:DO w B eb vm vc sb cb us md e) {lo hi:Nat} (hlo:lo≤hi) (hhi:hi<e.m) (t:Nat):tellM (fun j=>fend (pat md j)) t lo (hi+1-lo)=zcu e.ls t ((lo:Int),(hi:Int)):=by
 refine zAc hhi hlo (fun x hx j h1 h2=> ?_) h.mds.all h.mds.low
 obtain ⟨_,i2,_,i4⟩:=h.inv.ls x hx
 have hd:=zge e
 have h60:=h.inv.en60
 show fend (pat md j)=x.b
 rw [h.mds.each x hx j h1 h2]
 exact zri (by omega) i2 (by omega)
theorem DO.made_at (h:DO w B eb vm vc sb cb us md e) {m:Nat} (hm:m<e.m):∃g c ao cu,vm= .slice (some ⟨g,0,none⟩) e.m c∧g<w.heap.size∧w.cell? ⟨g,m,none⟩=some (.slice ao (pat md m).length cu)∧(∀j p,(pat md m)[j]? =some p→∃gu,ao=some ⟨gu,0,none⟩∧gu<w.heap.size∧w.cell? ⟨gu,j*2,none⟩=some (.int .i64 (p.1:Int))∧w.cell? ⟨gu,j*2+1,none⟩=some (.string p.2)):=by
 have hul:=h.ul
 have hmu:m<us.length:=by omega
 obtain ⟨g,c,hv⟩:=zl4 h.rm (by omega)
 obtain ⟨ao,cu,hu⟩:=za3 (h.ru m hmu)
 refine ⟨g,c,ao,cu,by rw [hv,hul],(h.rm.lt g (by rw [hv];rfl)).2,?_,fun j p hp=> ?_⟩
 ·have:=h.rm.cells (g:=g) (by rw [hv];rfl) m (uat us m) (by simp [uat,hmu])
  rw [Addr.add_lit,Nat.zero_add] at this
  rw [this,hu]
 ·have hj:=(List.getElem?_eq_some_iff.1 hp).1
  obtain ⟨gu,cu',hu'⟩:=zl4 (h.ru m hmu) (by omega)
  rw [hu] at hu'
  injection hu' with e1 e2 e3
  subst e1
  have hr:=h.ru m hmu
  obtain ⟨p0,p1⟩:=zzb hp
  have c0:=hr.cells (g:=gu) (by rw [hu];rfl) _ _ p0
  have c1:=hr.cells (g:=gu) (by rw [hu];rfl) _ _ p1
  rw [Addr.add_lit,Nat.zero_add] at c0 c1
  exact ⟨gu,rfl,(hr.lt gu (by rw [hu];rfl)).2,c0,c1⟩
end
theorem zos {K:Nat→Prop} {w w':World} {b o:Nat} {cs:List Value} (h:w.rangeAt b o cs) (ho:Off K w w') (hK:¬K b):w'.rangeAt b o cs:=fun j v hv=>ho.cell (h j v hv) hK
theorem zjd {op:Oper} {a:Act} {w:World} {K:Act→World→Prop} {Q:Exit→Act→World→Prop} {n:Nat} {f:Nat→Value} {ty:TypeId} (x:Operand) (ho:op.op= .load ty x) (b o:Nat) (hx:a.eval x= .pointer (some ⟨b,o,none⟩)) (hc:w.rangeAt b o (row n f)) (hu:(Tryz.prog.underlying ty).map (·.isRow)=some true) (hi:(Tryz.prog.info? ty).map (·.size)=some n) (h:K (a.put op.dst (.agg (row n f).toArray)) w):op.wp Tryz.prog a w K Q:=by
 obtain ⟨d,h1,h2,h3⟩:=zhd ty n hu hi f
 exact wp_load_mid ty x ho b o hx (row n f) d hc h1 h2 h3 h
theorem zic {op:Oper} {a:Act} {w W:World} {K:Act→World→Prop} {Q:Exit→Act→World→Prop} {n:Nat} {f:Nat→Value} {ty:TypeId} (x y:Operand) (ho:op.op= .store ty x y) (b o:Nat) (hx:a.eval x= .pointer (some ⟨b,o,none⟩)) (hy:a.eval y= .agg (row n f).toArray) (ht:w.there b o n) (hi:(Tryz.prog.info? ty).map (·.size)=some n) (h1:∀i,(f i).oneCell'=true) (hW:Hid (W=w.setCells b o (row n f))) (h:K (a.put op.dst undef) W):op.wp Tryz.prog a w K Q:=
 wp_store_mid ty x y ho b o (row n f).toArray hx hy (by simpa [zac] using ht) (by simpa [zac] using hi) (row_one fun i _=>h1 i) (by
  have e:w.setCells b o (row n f).toArray.toList=W:=by rw [hW.out]
  rw [e];exact h)
theorem Mds.same {e e2:En} {md:List (List Pc)} (h:Mds e md) (hd:e2.d=e.d) (hm:e2.m=e.m) (hl:e2.ls=e.ls):Mds e2 md:=
 ⟨h.len.trans hm.symm,fun x hx j h1 h2=>by rw [hd];rw [hl] at hx;exact h.each x hx j h1 h2,fun j hj=>by rw [hl];exact h.all j (by omega),fun x hx=>by rw [hl] at hx;rw [hm];exact h.lst x hx,fun x hx=>by rw [hl] at hx;exact h.low x hx⟩
section
variable {w W6 : World} {B eb sb cb : Nat} {vm vc v' : Value} {us : List Value} {md : List (List Pc)} {e e' : En} {cm : List R}
theorem DO.there_told (h:DO w B eb vm vc sb cb us md e):w.there eb 1 60:=fun j hj=>⟨by rw [h.cl (1+j) (by omega)];rfl,h.fz _⟩
theorem zfr {t i:Nat} (hi:i=0∨61≤i):(w.setCells eb 1 (row 60 (zen t))).cell? ⟨eb,i,none⟩=w.cell? ⟨eb,i,none⟩:=by
 refine World.cell?_setCells_out eb _ _ _ _ (fun _ _=> ?_)
 rw [zac]
 show i<1∨1+60≤i
 omega
theorem zk0 (h:DO w B eb vm vc sb cb us md e) {t:Nat} (hW:W6=w.setCells eb 1 (row 60 (zen t))):W6.cell? ⟨eb,61,none⟩=some (.int .i64 e.l)∧W6.cell? ⟨eb,63,none⟩=some (.int .i64 e.k)∧W6.cell? ⟨eb,64,none⟩=some vc∧W6.frozen? ⟨eb,61,none⟩=false∧W6.frozen? ⟨eb,63,none⟩=false∧W6.frozen? ⟨eb,64,none⟩=false:=by
 subst hW
 refine ⟨(zfr (by omega)).trans (h.cl 61 (by omega)),(zfr (by omega)).trans (h.cl 63 (by omega)),(zfr (by omega)).trans (h.cl 64 (by omega)),?_,?_,?_⟩<;>rw [World.frozen?_setCells]<;>exact h.fz _
theorem zIb (h:DO w B eb vm vc sb cb us md e) (hW:W6=w.setCells eb 1 (row 60 (zen e'.t))) (hd:e'.d=e.d) {W9:World} (h9:W9=((W6.setCell ⟨eb,61,none⟩ (.int .i64 e'.l)).setCell ⟨eb,63,none⟩ (.int .i64 e'.k)).setCell ⟨eb,64,none⟩ v'):(∀i,i<67→W9.cell? ⟨eb,i,none⟩=some (zdv {e' with cm:=cm} vm v' sb cb i))∧(∀i,W9.frozen? ⟨eb,i,none⟩=false)∧Off (fun k=>k=eb) w W9:=by
 obtain ⟨c61,c63,c64,_⟩:=zk0 h hW
 have ne:∀(X:World) (i j:Nat) (u:Value),i≠j→(X.setCell ⟨eb,j,none⟩ u).cell? ⟨eb,i,none⟩=X.cell? ⟨eb,i,none⟩:=fun X i j u hij=>World.cell?_setCell_other _ _ _ _ (fun e2=>by injection e2 with _ e2 _;exact hij e2.symm)
 subst h9
 refine ⟨fun i hi=> ?_,fun i=> ?_,?_⟩
 ·by_cases i64:i=64
  ·subst i64
   exact World.cell?_setCell_same _ _ _ ((ne _ _ _ _ (by omega)).trans ((ne _ _ _ _ (by omega)).trans c64))
  by_cases i63:i=63
  ·subst i63
   rw [ne _ _ _ _ (by omega)]
   exact World.cell?_setCell_same _ _ _ ((ne _ _ _ _ (by omega)).trans c63)
  by_cases i61:i=61
  ·subst i61
   rw [ne _ _ _ _ (by omega),ne _ _ _ _ (by omega)]
   exact World.cell?_setCell_same _ _ _ c61
  rw [ne _ _ _ _ i64,ne _ _ _ _ i63,ne _ _ _ _ i61,hW]
  by_cases it:1≤i∧i<61
  ·have:=zbp (World.rangeAt_setCells_same w eb 1 (row 60 (zen e'.t)) (by rw [zac];exact h.there_told)) (i:=i-1) (by omega)
   rw [show 1+(i-1)=i by omega] at this
   rw [this]
   have hd:=zqp (e:= {e' with cm:=cm}) (vm:=vm) (vc:=v') (sb:=sb) (cb:=cb) (i:=i-1) (by omega)
   rw [show 1+(i-1)=i by omega] at hd
   rw [hd]
   rfl
  ·rw [zfr (by omega),h.cl i hi]
   congr 1
   rcases (show i=0∨i=62∨i=65∨i=66 by omega) with rfl | rfl | rfl | rfl
   ·rw [zkn,zkn];simp only [hd]
   ·rw [zka,zka]
   ·rw [zl8,zl8]
   ·rw [zkd,zkd]
 ·simp only [World.frozen?_setCell]
  rw [hW,World.frozen?_setCells]
  exact h.fz i
 ·have o6:Off (fun k=>k=eb) w W6:=by rw [hW];exact zcd eb _ _ _
  exact ((o6.setCell (a:=⟨eb,61,none⟩) rfl _).setCell (a:=⟨eb,63,none⟩) rfl _).setCell (a:=⟨eb,64,none⟩) rfl _
theorem zG2 {W9 W10 W11:World} {B0:Nat} (h:DO w B eb vm vc sb cb us md e) (hmds:Mds {e' with cm:=cm} md) (hinv:EInv {e' with cm:=cm}) (hm:e'.m=e.m) (hc9:∀i,i<67→W9.cell? ⟨eb,i,none⟩=some (zdv {e' with cm:=cm} vm v' sb cb i)) (hf9:∀i,W9.frozen? ⟨eb,i,none⟩=false) (ho9:Off (fun k=>k=eb) w W9)
  (hv:w.ownsRow B0 129 2 v' cm.length (flat cm)) (hB:B≤B0) (hvn:∀k,OwnD eb vm vc sb cb us k→k<B0) (hs:Sx.Ref W10 B sb e'.s) (ho10:Off (fun k=>k=sb) W9 W10) (hc:Cx.Obj W11 B cb e'.c) (ho11:Off (fun k=>k=cb) W10 W11):
  DO W11 B eb vm v' sb cb us md {e' with cm:=cm}∧Off (fun k=>k=eb∨k=sb∨k=cb) w W11:=by
 have o:Off (fun k=>k=eb∨k=sb∨k=cb) w W11:=((ho9.mono fun k _ hk=> .inl hk).trans (ho10.mono fun k _ hk=> .inr (.inl hk))).trans (ho11.mono fun k _ hk=> .inr (.inr hk))
 have oo:Off (fun k=>k=sb∨k=cb) W9 W11:=(ho10.mono fun k _ hk=> .inl hk).trans (ho11.mono fun k _ hk=> .inr hk)
 have neb:¬(eb=sb∨eb=cb):=by have:=h.ap;omega
 have hlt:eb<W9.heap.size:=World.block_lt_of_cell? W9 _ (hc9 0 (by omega))
 have hvo:∀k,v'.ownBlock=some k→B0≤k:=fun k hk=>(hv.lt k hk).1
 have e1:=hvn eb (.inl rfl)
 have e2:=hvn sb (.inr (.inl rfl))
 have e3:=hvn cb (.inr (.inr (.inl rfl)))
 refine ⟨⟨hinv,hmds,fun i hi=>oo.cell (hc9 i hi) neb,fun i=>(oo.frozen (p:=⟨eb,i,none⟩) hlt neb).trans (hf9 i),h.hs,hs.off ho11 h.ap.2.2,hc,o.row h.rm fun k hk hk2=> ?_,h.ul.trans hm.symm,fun j hj=>o.row (h.ru j hj) fun k hk hk2=> ?_,za8 (o.row hv fun k hk hk2=> ?_) hB,h.ap,fun k hk=> ?_⟩,o⟩
 ·have:=h.am k (.inl hk);omega
 ·have:=h.am k (.inr (.inr ⟨j,hj,hk⟩));omega
 ·have:=hvo k hk;omega
 ·rcases hk with hk | hk | hk
  ·exact h.am k (.inl hk)
  ·have:=hvo k hk;exact ⟨by omega,by omega,by omega⟩
  ·exact h.am k (.inr (.inr hk))
end
end Go.Proofs.YtdnehibcpkjafaaGreatDoor
