/- What TalkPlays needs. -/
import Derived.Test.YtdnehibcpkjafaaGreatDoorHEA
import Derived.Test.YtdnehibcpkjafaaGreatDoorHH
import Derived.Test.YtdnehibcpkjafaaGreatDoorHD
set_option linter.unusedVariables false
set_option linter.unusedSimpArgs false
set_option maxRecDepth 100000
set_option maxHeartbeats 8000000
namespace Go.Proofs.YtdnehibcpkjafaaGreatDoor
open Go.RowKit Go.Lib Go.Sort
theorem zds {w:World} {ops:Array Oper} {rest:List Oper} {o:Oper} {a:Act} {Q:Exit→Act→World→Prop} (hgd:o.guard=none) (s x:Operand)
  (ho:o.op= .call {callee:= .builtin .append,args:= #[s,x],argTypes:= #[68,68]}) (base:Nat) (v:Value) (n:Nat) (ys:List Value) (hs:a.eval s=v) (hown:w.ownsRow base 129 2 v n ys)
  (B:Nat) (lo hi:Int) (hx:a.eval x= .slice (some ⟨B,0,none⟩) 1 1) (h0:w.cell? ⟨B,0,none⟩=some (.int .i64 lo)) (h1:w.cell? ⟨B,1,none⟩=some (.int .i64 hi)) (hn:n+1≤1000000) (hbase:base≤w.heap.size)
  (h:∀v' w',w'.ownsRow base 129 2 v' (n+1) (ys++flat [(lo,hi)])→w.grownBy w' v.ownBlock→wpList Tryz.prog ops Q rest (a.put o.dst v') w'):wpList Tryz.prog ops Q (o::rest) a w:=by
 obtain ⟨i0,hi',hz0,hz1,hz2⟩:=info_parts zkt
 refine wpList_append_own _ hgd s x 68 ho base 129 i0 _ 2 16 Tryz.underlying68 hi' hz0 hz1 hz2 rfl (by decide) v n ys hs hown ⟨B,0,none⟩ 1 1 (flat [(lo,hi)]) hx (zao _) ?_ (fun u hu=>zc6 u hu) (by unfold maxLen;omega) (by omega) hbase ?_
 ·intro j u hu
  match j,hu with
  | 0,hu=>simp [flat,encR] at hu;subst hu;rw [Addr.add_lit];exact h0
  | 1,hu=>simp [flat,encR] at hu;subst hu;rw [Addr.add_lit];exact h1
  | j+2,hu=>simp [flat,encR] at hu
 ·intro v' w' h1 hg _
  exact h v' w' h1 hg
structure XB (w:World) (X:Nat) (xl xh:Int):Prop where
 c0:w.cell? ⟨X,0,none⟩=some (.int .i64 xl)
 c1:w.cell? ⟨X,1,none⟩=some (.int .i64 xh)
 f0:w.frozen? ⟨X,0,none⟩=false
 f1:w.frozen? ⟨X,1,none⟩=false
 lt:X<w.heap.size
theorem XB.below {w w':World} {X:Nat} {xl xh:Int} (h:XB w X xl xh) (hb:Below w.heap.size w w'):XB w' X xl xh:=
 ⟨(hb.cell (p:=⟨X,0,none⟩) h.lt).trans h.c0,(hb.cell (p:=⟨X,1,none⟩) h.lt).trans h.c1,(hb.frozen (p:=⟨X,0,none⟩) h.lt).trans h.f0,(hb.frozen (p:=⟨X,1,none⟩) h.lt).trans h.f1,Nat.lt_of_lt_of_le h.lt hb.size⟩
theorem XB.grown {w w':World} {X base n:Nat} {xl xh:Int} {v:Value} {xs:List Value} (h:XB w X xl xh) (hg:w.grownBy w' v.ownBlock) (hown:w.ownsRow base 129 2 v n xs) (hX:X<base):XB w' X xl xh:=by
 have hne:some X≠v.ownBlock:=fun e=>by have:=(hown.lt X e.symm).1;omega
 exact ⟨(hg.cell_far ⟨X,0,none⟩ h.lt hne).trans h.c0,(hg.cell_far ⟨X,1,none⟩ h.lt hne).trans h.c1,(hg.frozen_far ⟨X,0,none⟩ h.lt hne).trans h.f0,(hg.frozen_far ⟨X,1,none⟩ h.lt hne).trans h.f1,Nat.lt_of_lt_of_le h.lt hg.size⟩
theorem XB.set {w:World} {X:Nat} {xl xh:Int} (h:XB w X xl xh) (a b:Int):XB (w.setCell ⟨X,0,none⟩ (.int .i64 a)) X a xh∧XB (w.setCell ⟨X,1,none⟩ (.int .i64 b)) X xl b:=by
 have fs:∀(X o:Nat) (q:Addr) (u:Value),(w.setCell ⟨X,o,none⟩ u).frozen? q=w.frozen? q:=fun X o q u=>by rw [setCell_eq,frozen?_mapBlock]
 exact ⟨⟨World.cell?_setCell_same _ _ _ h.c0,(World.cell?_setCell_other _ _ _ _ (by simp)).trans h.c1,(fs _ _ _ _).trans h.f0,(fs _ _ _ _).trans h.f1,by simpa using h.lt⟩,⟨(World.cell?_setCell_other _ _ _ _ (by simp)).trans h.c0,World.cell?_setCell_same _ _ _ h.c1,(fs _ _ _ _).trans h.f0,(fs _ _ _ _).trans h.f1,by simpa using h.lt⟩⟩
theorem zD5 (x r:R) (p:Bool) (rs:List R) (h:x.2+1<r.1):zby x p (r::rs)=r::zby x p rs:=by rw [zby,if_pos h]
theorem zun (x r:R) (rs:List R) (h:¬x.2+1<r.1) (h2:r.2<x.1-1):zby x true (r::rs)=r::zby x true rs∧zby x false (r::rs)=x::r::zby x true rs:=by
 constructor<;>rw [zby,if_neg h,if_pos h2]<;>rfl
theorem zFl (x r:R) (p:Bool) (rs:List R) (h:¬x.2+1<r.1) (h2:¬r.2<x.1-1):zby x p (r::rs)=zby (if r.1<x.1 then r.1 else x.1,if x.2<r.2 then r.2 else x.2) p rs:=by
 rw [zby,if_neg h,if_neg h2]
theorem zs2 (ao:Option Addr) (len cap:Nat) (zs:List R) (xl0 xh0:Int) (w:World) (hlen:zs.length=len) (hl:len≤1000) (hz:zs= []∨∃b off,ao=some ⟨b,off,none⟩∧b<w.heap.size∧Cells w b off zs)
  (hg:∀r,r∈zs→0≤r.1∧r.1≤r.2∧r.2≤1073741823) (hx:0≤xl0∧xl0≤xh0∧xh0≤1073741823):
  Calls Tryz.prog 69 #[.slice ao len cap,.agg #[.int .i64 xl0,.int .i64 xh0]] w fun e w'=>∃v,e= .returned v∧w'.ownsRow w.heap.size 129 2 v (zby (xl0,xh0) false zs).length (flat (zby (xl0,xh0) false zs))∧Below w.heap.size w w':=by
 have HL:Hid (zs.length=len):=hlen
 have HZ:Hid (zs= []∨∃b off,ao=some ⟨b,off,none⟩∧b<w.heap.size∧Cells w b off zs):=hz
 have HG:Hid (∀r,r∈zs→0≤r.1∧r.1≤r.2∧r.2≤1073741823):=hg
 clear hlen hz hg
 go_enter Tryz.func69,Tryz.ntmps69
 go_wp2_with fail
 go_loopw [5,6,7] (fun o p i wr=>∃(k:Nat) (os:List R) (xl xh:Int) (pb:Bool),k≤len∧i= .int .i64 k∧p= .bool pb∧os.length≤k+pb.toNat∧(0≤xl∧xl≤xh∧xh≤1073741823)∧Hid (zby (xl0,xh0) false zs=os++zby (xl,xh) pb (zs.drop k))
   ∧wr.ownsRow (w.heap.size+1) 129 2 o os.length (flat os)∧XB wr w.heap.size xl xh∧Below w.heap.size w wr) (fun _ _ i _=>len-(intOf i).toNat)
 case atStart=>exact ⟨0,[],xl0,xh0,false,Nat.zero_le _,rfl,rfl,by simp,hx,rfl,World.ownsRow_nil _ _ _ _,⟨by simp,by simp,by simp,by simp,by simp⟩,(Below.refl _ _).alloc (Nat.le_refl _) _⟩
 case round=>
  obtain ⟨k,os,xl,xh,pb,hk,rfl,rfl,hos,bx,hE,hown,hX,hB⟩:=hrel
  have hlt1:=hX.lt
  have hpb:pb.toNat≤1:=by cases pb<;>simp
  have hlt0:w.heap.size+1≤wr.heap.size:=hlt1
  by_cases hlt:k<len
  ·have g1:(k:Int)<(len:Int):=by omega
   have hkl:k<zs.length:=by have:=HL.out;omega
   obtain ⟨b,off,rfl,hb,hC⟩:∃b off,ao=some ⟨b,off,none⟩∧b<w.heap.size∧Cells w b off zs:=by
    rcases HZ.out with h | h
    ·rw [h] at hkl;simp at hkl
    ·exact h
   have c0:=(hC.below hb hB k hkl).1
   have c1:=(hC.below hb hB k hkl).2
   have bd:=HG.out _ (at_mem hkl)
   have HD:Hid (zs.drop k=at' zs k::zs.drop (k+1)):=drop_at hkl
   clear hC hkl
   generalize at' zs k=r at c0 c1 bd HD
   obtain ⟨lo,hi⟩:=r
   simp only at c0 c1 bd
   have bel1:=(Below.refl wr.heap.size wr).alloc (Nat.le_refl _) (.cells #[.int .i64 lo,.int .i64 hi] 129)
   have own1:=hown.alloc (.cells #[.int .i64 lo,.int .i64 hi] 129)
   have hX1:=hX.below bel1
   have y0:=hX1.c0
   have y1:=hX1.c1
   have z0:=hX1.f0
   have z1:=hX1.f1
   have hBr:=hB.alloc hB.size (.cells #[.int .i64 lo,.int .i64 hi] 129)
   have bel2:=(Below.refl _ (wr.alloc (.cells #[.int .i64 lo,.int .i64 hi] 129))).alloc (Nat.le_refl _) (.cells #[.int .i64 lo,.int .i64 hi] 129)
   have bel2x:=(Below.refl _ (wr.alloc (.cells #[.int .i64 lo,.int .i64 hi] 129))).alloc (Nat.le_refl _) (.cells #[.int .i64 xl,.int .i64 xh] 129)
   by_cases h1:xh+1<lo
   ·have HF:Hid (zby (xl0,xh0) false zs=(os++ [(lo,hi)])++zby (xl,xh) pb (zs.drop (k+1))):=by
     show _=_
     rw [hE.out,HD.out,zD5 _ _ _ _ h1,List.append_assoc];rfl
    clear hE
    go_wp2_with (at_builtin;refine zds rfl (.tmp 25) (.tmp 27) rfl (w.heap.size+1) _ _ _ rfl (own1.alloc _) (wr.heap.size+1) lo hi rfl (by simp) (by simp) (by omega) (by simp;omega) ?_;intro v3 w3 hown3 hg3)
    have hX3:=(hX1.below bel2).grown hg3 (own1.alloc _) (Nat.lt_succ_self _)
    have hB3:Below w.heap.size w w3:=(hBr.alloc hBr.size _).grown hg3 ((hBr.alloc hBr.size _).size) (fun j e=>by have:=(hown.lt j e).1;omega)
    exact ⟨⟨k+1,os++ [(lo,hi)],xl,xh,pb,by omega,by go_num,rfl,by simp;omega,bx,HF,(by rw [zah,List.length_append];exact hown3),hX3,hB3⟩,by simp [intOf];omega⟩
   ·by_cases h2:hi<xl-1
    ·cases pb with
     | true=>
      simp only [Bool.toNat_true] at hos hpb
      have HF:Hid (zby (xl0,xh0) false zs=(os++ [(lo,hi)])++zby (xl,xh) true (zs.drop (k+1))):=by
       show _=_
       rw [hE.out,HD.out,(zun (xl,xh) (lo,hi) _ h1 h2).1,List.append_assoc];rfl
      clear hE
      go_wp2_with (at_builtin;refine zds rfl (.tmp 41) (.tmp 43) rfl (w.heap.size+1) _ _ _ rfl (own1.alloc _) (wr.heap.size+1) lo hi rfl (by simp) (by simp) (by omega) (by simp;omega) ?_;intro v3 w3 hown3 hg3)
      have hX3:=(hX1.below bel2).grown hg3 (own1.alloc _) (Nat.lt_succ_self _)
      have hB3:Below w.heap.size w w3:=(hBr.alloc hBr.size _).grown hg3 ((hBr.alloc hBr.size _).size) (fun j e=>by have:=(hown.lt j e).1;omega)
      exact ⟨⟨k+1,os++ [(lo,hi)],xl,xh,true,by omega,by go_num,rfl,by simp;omega,bx,HF,(by rw [zah,List.length_append];exact hown3),hX3,hB3⟩,by simp [intOf];omega⟩
     | false=>
      simp only [Bool.toNat_false] at hos hpb
      have HF:Hid (zby (xl0,xh0) false zs=(os++ [(xl,xh)]++ [(lo,hi)])++zby (xl,xh) true (zs.drop (k+1))):=by
       show _=_
       rw [hE.out,HD.out,(zun (xl,xh) (lo,hi) _ h1 h2).2,List.append_assoc,List.append_assoc];rfl
      have HNE:Hid (some wr.heap.size≠u5.ownBlock):=fun e=>by have:=(hown.lt _ e.symm).2;omega
      clear hE
      go_wp2_with (first
       | (at_builtin;refine zds rfl (.tmp 37) (.tmp 39) rfl (w.heap.size+1) _ _ _ rfl (own1.alloc _) (wr.heap.size+1) xl xh rfl (by simp) (by simp) (by omega) (by simp;omega) ?_;intro v3 w3 hown3 hg3;have rr0:w3.cell? ⟨wr.heap.size,0,none⟩=some (.int .i64 lo):=(hg3.cell_far ⟨wr.heap.size,0,none⟩ (by simp;omega) HNE.out).trans (by simp);have rr1:w3.cell? ⟨wr.heap.size,1,none⟩=some (.int .i64 hi):=(hg3.cell_far ⟨wr.heap.size,1,none⟩ (by simp;omega) HNE.out).trans (by simp);have sz3:w.heap.size+1≤w3.heap.size:=by have:=hg3.size;simp at this;omega)
       | (at_builtin;refine zds rfl (.tmp 41) (.tmp 43) rfl (w.heap.size+1) _ _ _ rfl (hown3.alloc _) w3.heap.size lo hi rfl (by simp) (by simp) (by omega) (by simp;omega) ?_;intro v4 w4 hown4 hg4))
      have hX3:=(hX1.below bel2x).grown hg3 (own1.alloc _) (Nat.lt_succ_self _)
      have hB3:Below w.heap.size w w3:=(hBr.alloc hBr.size _).grown hg3 ((hBr.alloc hBr.size _).size) (fun j e=>by have:=(hown.lt j e).1;omega)
      have bel3:=(Below.refl w3.heap.size w3).alloc (Nat.le_refl _) (.cells #[.int .i64 lo,.int .i64 hi] 129)
      have hX4:=(hX3.below bel3).grown hg4 (hown3.alloc _) (Nat.lt_succ_self _)
      have hB4:Below w.heap.size w w4:=(hB3.alloc hB3.size _).grown hg4 ((hB3.alloc hB3.size _).size) (fun j e=>by have:=(hown3.lt j e).1;omega)
      exact ⟨⟨k+1,os++ [(xl,xh)]++ [(lo,hi)],xl,xh,true,by omega,by go_num,rfl,by simp;omega,bx,HF,(by rw [zah,zah,List.length_append,List.length_append];exact hown4),hX4,hB4⟩,by simp [intOf];omega⟩
    ·have HF:Hid (zby (xl0,xh0) false zs=os++zby (if lo<xl then lo else xl,if xh<hi then hi else xh) pb (zs.drop (k+1))):=by
      show _=_
      rw [hE.out,HD.out,zFl _ _ _ _ h1 h2]
     clear hE
     have hneX:wr.heap.size≠w.heap.size:=by omega
     have x0:=hX.c0
     have x1:=hX.c1
     have x2:=hX.f0
     have x3:=hX.f1
     have s2:=(hX.set lo hi).1.c1
     have s3:=(hX.set lo hi).1.f1
     have q0:w.heap.size<w.heap.size+1:=Nat.lt_succ_self _
     by_cases h3:lo<xl
     ·rw [if_pos h3] at HF
      by_cases h4:xh<hi
      ·rw [if_pos h4] at HF
       go_wp2_with fail
       exact ⟨⟨k+1,os,lo,hi,pb,by omega,by go_num,rfl,by omega,by omega,HF,(ownsRow_setCell_below (ownsRow_setCell_below hown (a:=⟨w.heap.size,0,none⟩) q0 _) (a:=⟨w.heap.size,1,none⟩) q0 _).alloc _,(((hX.set lo hi).1.set lo hi).2).below ((Below.refl _ _).alloc (Nat.le_refl _) _),((hB.setCell (p:=⟨w.heap.size,0,none⟩) (Nat.le_refl _) _).setCell (p:=⟨w.heap.size,1,none⟩) (Nat.le_refl _) _).alloc (((hB.setCell (p:=⟨w.heap.size,0,none⟩) (Nat.le_refl _) _).setCell (p:=⟨w.heap.size,1,none⟩) (Nat.le_refl _) _).size) _⟩,by simp [intOf];omega⟩
      ·rw [if_neg h4] at HF
       go_wp2_with fail
       exact ⟨⟨k+1,os,lo,xh,pb,by omega,by go_num,rfl,by omega,by omega,HF,(ownsRow_setCell_below hown (a:=⟨w.heap.size,0,none⟩) q0 _).alloc _,((hX.set lo hi).1).below ((Below.refl _ _).alloc (Nat.le_refl _) _),(hB.setCell (p:=⟨w.heap.size,0,none⟩) (Nat.le_refl _) _).alloc ((hB.setCell (p:=⟨w.heap.size,0,none⟩) (Nat.le_refl _) _).size) _⟩,by simp [intOf];omega⟩
     ·rw [if_neg h3] at HF
      by_cases h4:xh<hi
      ·rw [if_pos h4] at HF
       go_wp2_with fail
       exact ⟨⟨k+1,os,xl,hi,pb,by omega,by go_num,rfl,by omega,by omega,HF,(ownsRow_setCell_below hown (a:=⟨w.heap.size,1,none⟩) q0 _).alloc _,((hX.set lo hi).2).below ((Below.refl _ _).alloc (Nat.le_refl _) _),(hB.setCell (p:=⟨w.heap.size,1,none⟩) (Nat.le_refl _) _).alloc ((hB.setCell (p:=⟨w.heap.size,1,none⟩) (Nat.le_refl _) _).size) _⟩,by simp [intOf];omega⟩
      ·rw [if_neg h4] at HF
       go_wp2_with fail
       exact ⟨⟨k+1,os,xl,xh,pb,by omega,by go_num,rfl,by omega,bx,HF,own1,hX1,hBr⟩,by simp [intOf];omega⟩
  ·obtain rfl:k=len:=by omega
   have e1:zs.drop k= []:=List.drop_eq_nil_of_le (by have:=HL.out;omega)
   have y0:=hX.c0
   have y1:=hX.c1
   cases pb with
   | true=>
    have HF:Hid (zby (xl0,xh0) false zs=os):=by
     show _=_
     rw [hE.out,e1];simp [zby]
    clear hE e1
    go_wp2_with fail
    go_ret
    exact ⟨_,rfl,by rw [HF.out];exact za8 hown (by omega),hB⟩
   | false=>
    have HF:Hid (zby (xl0,xh0) false zs=os++ [(xl,xh)]):=by
     show _=_
     rw [hE.out,e1];simp [zby]
    clear hE e1
    go_wp2_with (at_builtin;refine zds rfl (.tmp 63) (.tmp 65) rfl (w.heap.size+1) _ _ _ rfl (hown.alloc _) wr.heap.size xl xh rfl (by simp) (by simp) (by omega) (by simp;omega) ?_;intro v3 w3 hown3 hg3)
    go_ret
    refine ⟨_,rfl,?_,(hB.alloc hB.size _).grown hg3 ((hB.alloc hB.size _).size) (fun j e=>by have:=(hown.lt j e).1;omega)⟩
    rw [HF.out]
    rw [zah,List.length_append];exact za8 hown3 (by omega)
theorem zpj (v:Value) (cm:List R) (n:Int) (w:World) (h:Row w v cm) (hk:chk cm=0) (hn:isN n=true):Calls Tryz.prog 69 #[v,.agg #[.int .i64 n,.int .i64 n]] w fun e w'=>∃v',e= .returned v'∧w'.ownsRow w.heap.size 129 2 v' (addL cm n).length (flat (addL cm n))∧Below w.heap.size w w':=by
 obtain ⟨h12,hg,hN⟩:=(zbv cm).1 hk
 have hi:=(zdf n).1 hn
 obtain ⟨ao,c,rfl,_,_,h⟩:=h
 exact zs2 ao _ c cm n n w rfl (by omega) h (fun r hr=>⟨(hg r hr).1,zb8 hN r hr,(hg r hr).2⟩) ⟨hi.1,Int.le_refl _,hi.2⟩
theorem zxd (b off M L C:Nat) (ns:List Int) (w:World) (hLM:L=2*M) (hM12:M≤12) (hlen:ns.length=L) (hb:b<w.heap.size) (hcc:ICells w b off ns):
  Calls Tryz.prog 66 #[.slice (some ⟨b,off,none⟩) L C] w fun e w'=>∃v,e= .returned v∧w'.ownsRow w.heap.size 129 2 v (rgs ns).length (flat (rgs ns))∧Below w.heap.size w w':=by
 have HLM:Hid (L=2*M):=hLM
 have HLen:Hid (ns.length=L):=hlen
 have CC:Hid (ICells w b off ns):=hcc
 have HRL:Hid ((rgs ns).length=M):=zcr M ns (by omega)
 obtain ⟨i0,hi0,hz0,hz1,hz2⟩:=info_parts zkt
 have HI:Hid (Tryz.prog.info? 129=some i0∧i0.zero=some (.agg #[.int .i64 0,.int .i64 0])∧i0.size=2∧i0.bytes=16):=⟨hi0,hz0,hz1,hz2⟩
 have hL24:L≤24:=by omega
 clear hlen hcc hLM hi0 hz0 hz1 hz2
 go_enter Tryz.func66,Tryz.ntmps66
 go_wp2_with fail
 go_loopw [3,4] (fun v i wr=>∃k j:Nat,k≤M∧Hid (j=2*k)∧i= .int .i64 (j:Int)∧wr.ownsRow w.heap.size 129 2 v k (flat ((rgs ns).take k))∧Below w.heap.size w wr) (fun _ i _=>L-(intOf i).toNat)
 case atStart=>exact ⟨0,0,Nat.zero_le _,rfl,rfl,World.ownsRow_nil _ _ _ _,Below.refl _ _⟩
 case round=>
  obtain ⟨k,j,hk,HJ,rfl,hown,hB⟩:=hrel
  by_cases hlt:k<M
  ·have hj:=HJ.out
   have hL:=HLM.out
   have g1:(j:Int)+1<(L:Int):=by omega
   have g0:(j:Int)<(L:Int):=by omega
   have cx0:=CC.out j (by have:=HLen.out;omega)
   have cx1:=CC.out (j+1) (by have:=HLen.out;omega)
   have z0:=(hB.cell (p:=⟨b,off+j,none⟩) hb).trans cx0
   have z1:=(hB.cell (p:=⟨b,off+(j+1),none⟩) hb).trans cx1
   have HN:Hid ((rgs ns).take (k+1)=(rgs ns).take k++ [(ns[j+1]?.getD 0,ns[j]?.getD 0)]):=by
    show _=_
    rw [take_at (by have:=HRL.out;omega),←zg1 M ns (by have:=HLen.out;omega)]
    simp [at',hlt,rgAt,hj]
   have gj0:(0:Int)≤(j:Int):=by omega
   have gj1:(0:Int)≤(j:Int)+1:=by omega
   have hw1:IntKind.i64.wrap ((j:Int)+1)=(j:Int)+1:=by simp [IntKind.wrap,IntKind.bits,IntKind.signed];omega
   have hnt:((j:Int)+1).toNat=j+1:=by omega
   clear cx0 cx1 hj hL
   generalize ns[j]?.getD 0=na at *
   generalize ns[j+1]?.getD 0=nb at *
   have HK:Hid (k<12):=by show _<_;omega
   have d0:wr.drew.cell? ⟨b,off+j,none⟩=some (.int .i64 na):=z0
   have d1:wr.drew.cell? ⟨b,off+(j+1),none⟩=some (.int .i64 nb):=z1
   have ownd:wr.drew.ownsRow w.heap.size 129 2 u3 k (flat ((rgs ns).take k)):=hown
   have HO:Hid (wr.drew.ownsRow w.heap.size 129 2 u3 k (flat ((rgs ns).take k))):=ownd
   have hBd:Below w.heap.size w wr.drew:=hB.drew
   have hbd:b<wr.drew.heap.size:=Nat.lt_of_lt_of_le hb hBd.size
   have hsd:w.heap.size≤wr.drew.heap.size:=hBd.size
   have hs0:w.heap.size≤wr.heap.size:=hBd.size
   have hcn:=zhh wr.drew nb na
   have CS:Hid (∀j u,[Value.int .i64 nb,Value.int .i64 na][j]? =some u→(wr.drew.alloc (.cells #[.int .i64 nb,.int .i64 na] 129)).cell? ((⟨wr.drew.heap.size,0,none⟩:Addr).add j)=some u):=hcn
   have hng:some b≠u3.ownBlock:=fun e=>by have:=(ownd.lt b e.symm).1;omega
   have hba:b<(wr.drew.alloc (.cells #[.int .i64 nb,.int .i64 na] 129)).heap.size:=by rw [World.size_alloc];omega
   have e0:=(World.cell?_alloc_lt wr.drew (.cells #[.int .i64 nb,.int .i64 na] 129) ⟨b,off+j,none⟩ hbd).trans d0
   have e1:=(World.cell?_alloc_lt wr.drew (.cells #[.int .i64 nb,.int .i64 na] 129) ⟨b,off+(j+1),none⟩ hbd).trans d1
   obtain ⟨av,cv,rfl⟩:∃a c,u3= .slice a k c:=by
    rcases hown.2 with ⟨e,h0⟩ | ⟨g',cap,cur,e,_⟩
    ·exact ⟨none,0,by rw [e,h0]⟩
    ·exact ⟨_,_,e⟩
   clear hown ownd hcn z0 z1
   go_wp2_with fail
   go_region_held3 (fun X=>X.cell? ⟨b,off+j,none⟩=some (.int .i64 na)∧X.cell? ⟨b,off+(j+1),none⟩=some (.int .i64 nb)) (first | exact ⟨d0,d1⟩ | exact ⟨e0,e1⟩ | exact ⟨f0,f1⟩) (first | (refine zam rfl (.tmp 12) (.tmp 23) 68 rfl w.heap.size 129 i0 _ 2 16 Tryz.underlying68 HI.out.1 HI.out.2.1 HI.out.2.2.1 HI.out.2.2.2 rfl (by decide) (.slice av k cv) k (flat ((rgs ns).take k)) (by simp [Act.eval,Act.put]) (HO.out.alloc _) ⟨wr.drew.heap.size,0,none⟩ 1 1 [Value.int .i64 nb,Value.int .i64 na] (by simp [Act.eval,Act.put]) rfl CS.out (by intro u hu;simp at hu;rcases hu with rfl | rfl<;>rfl) (by have:=HK.out;unfold maxLen;omega) (by have:=HK.out;omega) (by simp;omega) ?_;intro v' w4 hown' hgrow;have f0:=zau e0 hgrow hba hng;have f1:=zau e1 hgrow hba hng))
   go_wp2_with fail
   exact ⟨⟨k+1,j+2,by omega,by show _=_;have:=HJ.out;omega,by go_num,by rw [HN.out,zah];exact hown',(hBd.alloc hBd.size _).grown hgrow (by rw [World.size_alloc];omega) (fun q e=>(HO.out.lt q e).1)⟩,by simp [intOf];omega⟩
  ·obtain rfl:k=M:=by omega
   have g1:¬(j:Int)+1<(L:Int):=by have:=HJ.out;have:=HLM.out;omega
   have gj1:(0:Int)≤(j:Int)+1:=by omega
   have hjb:j≤24:=by have:=HJ.out;omega
   have HE:Hid ((rgs ns).take k=rgs ns):=by show _=_;rw [←HRL.out,List.take_length]
   rw [HE.out] at hown
   have hrow:=zbo hown (by have:=HRL.out;omega)
   obtain ⟨av,cv,hv,_⟩:=id hrow
   clear HE
   rw [HRL.out] at hv
   subst hv
   go_wp2_with fail
   go_ret
   exact ⟨_,rfl,by rw [HRL.out];exact hown,hB⟩
theorem zAf (v:Value) (ns:List Int) (M:Nat) (w:World) (hR:IRow w v ns) (hM:ns.length=2*M) (h1:1≤M) (h12:M≤12):
  Calls Tryz.prog 66 #[v] w fun e w'=>∃v',e= .returned v'∧w'.ownsRow w.heap.size 129 2 v' (rgs ns).length (flat (rgs ns))∧Below w.heap.size w w':=by
 obtain ⟨ao,c,rfl,hl,hc,hz⟩:=hR
 rcases hz with h | ⟨b,off,rfl,hb,hC⟩
 ·subst h;simp at hM;omega
 ·exact zxd b off M _ c ns w hM h12 rfl hb hC
end Go.Proofs.YtdnehibcpkjafaaGreatDoor
